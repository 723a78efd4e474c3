/-
  Words: their least bytes, and words out of bytes (for this seat).
-/
import Derived.WalkKit
import Derived.WalkLawsBesides
import Derived.WalkSpells
import Derived.BigQuiet
import Derived.Deep.QuietTactic
import Derived.Laws.Externs
import Derived.Shelf.Spec.BitsCarry
import Derived.Lib.Mul64
import Derived.Laws.Bits64b
import Derived.Lib.Strings
import Derived.Lib.Slices
import Derived.Lib.Small
import Derived.Lib.Walk
import Derived.Lib.BitFns
import Derived.Deep.MidRow
import Derived.Laws.CopyOwn
import Derived.OwnWalk
import Derived.Deep.Upon
import Derived.Test.YtigebmidfddbcaaRlpMeansC08
namespace Go.Proofs.Ytigebmidfddbcaa
open Go.RowKit Go.Shelf

/-- The word of a number (of its rest modulo 2^256). -/
def wv (X : Nat) : Value := .agg #[.int .u64 ((X % 18446744073709551616 : Nat) : Int), .int .u64 ((X / 18446744073709551616 % 18446744073709551616 : Nat) : Int), .int .u64 ((X / 340282366920938463463374607431768211456 % 18446744073709551616 : Nat) : Int), .int .u64 ((X / 6277101735386680763835789423207666416102355444464034512896 % 18446744073709551616 : Nat) : Int)]

theorem digit_of (B s r : Nat) (h : s < B) : (s + B * r) % B = s ∧ (s + B * r) / B = r := by
  have hB : 0 < B := by omega
  refine ⟨?_, ?_⟩
  · rw [Nat.add_mul_mod_self_left, Nat.mod_eq_of_lt h]
  · rw [Nat.add_mul_div_left _ _ hB, Nat.div_eq_of_lt h, Nat.zero_add]

theorem wv_mk {s0 s1 s2 s3 k : Nat} (h0 : s0 < 18446744073709551616) (h1 : s1 < 18446744073709551616) (h2 : s2 < 18446744073709551616) (h3 : s3 < 18446744073709551616) :
    wv (s0 + 18446744073709551616 * (s1 + 18446744073709551616 * (s2 + 18446744073709551616 * (s3 + 18446744073709551616 * k)))) = .agg #[.int .u64 s0, .int .u64 s1, .int .u64 s2, .int .u64 s3] := by
  unfold wv
  have e2 : (340282366920938463463374607431768211456 : Nat) = 18446744073709551616 * 18446744073709551616 := by decide
  have e3 : (6277101735386680763835789423207666416102355444464034512896 : Nat) = 18446744073709551616 * 18446744073709551616 * 18446744073709551616 := by decide
  rw [e2, e3]
  simp only [← Nat.div_div_eq_div_mul, (digit_of _ _ _ h0).1, (digit_of _ _ _ h0).2, (digit_of _ _ _ h1).1, (digit_of _ _ _ h1).2, (digit_of _ _ _ h2).1, (digit_of _ _ _ h2).2, (digit_of _ _ _ h3).1]

theorem wv_eq {s0 s1 s2 s3 k Z : Nat} (h0 : s0 < 18446744073709551616) (h1 : s1 < 18446744073709551616) (h2 : s2 < 18446744073709551616) (h3 : s3 < 18446744073709551616)
    (h : Z = s0 + 18446744073709551616 * (s1 + 18446744073709551616 * (s2 + 18446744073709551616 * (s3 + 18446744073709551616 * k)))) :
    Value.agg #[.int .u64 s0, .int .u64 s1, .int .u64 s2, .int .u64 s3] = wv Z := by
  rw [h]; exact (wv_mk h0 h1 h2 h3).symm

theorem wv_open (X : Nat) : ∃ x0 x1 x2 x3 k : Nat, x0 < 18446744073709551616 ∧ x1 < 18446744073709551616 ∧ x2 < 18446744073709551616 ∧ x3 < 18446744073709551616 ∧
    X = x0 + 18446744073709551616 * (x1 + 18446744073709551616 * (x2 + 18446744073709551616 * (x3 + 18446744073709551616 * k))) ∧ wv X = .agg #[.int .u64 x0, .int .u64 x1, .int .u64 x2, .int .u64 x3] := by
  have hB : 0 < 18446744073709551616 := by decide
  have d0 := Nat.mod_add_div X 18446744073709551616
  have d1 := Nat.mod_add_div (X / 18446744073709551616) 18446744073709551616
  have d2 := Nat.mod_add_div (X / 18446744073709551616 / 18446744073709551616) 18446744073709551616
  have d3 := Nat.mod_add_div (X / 18446744073709551616 / 18446744073709551616 / 18446744073709551616) 18446744073709551616
  have e : X = X % 18446744073709551616 + 18446744073709551616 * (X / 18446744073709551616 % 18446744073709551616 + 18446744073709551616 * (X / 18446744073709551616 / 18446744073709551616 % 18446744073709551616 + 18446744073709551616 * (X / 18446744073709551616 / 18446744073709551616 / 18446744073709551616 % 18446744073709551616 + 18446744073709551616 * (X / 18446744073709551616 / 18446744073709551616 / 18446744073709551616 / 18446744073709551616)))) := by
    rw [d3, d2, d1, d0]
  refine ⟨_, _, _, _, _, Nat.mod_lt _ hB, Nat.mod_lt _ hB, Nat.mod_lt _ hB, Nat.mod_lt _ hB, e, ?_⟩
  have := wv_mk (k := X / 18446744073709551616 / 18446744073709551616 / 18446744073709551616 / 18446744073709551616) (Nat.mod_lt X hB) (Nat.mod_lt (X / 18446744073709551616) hB) (Nat.mod_lt (X / 18446744073709551616 / 18446744073709551616) hB) (Nat.mod_lt (X / 18446744073709551616 / 18446744073709551616 / 18446744073709551616) hB)
  rwa [← e] at this

/-- 2^256. -/
def M256 : Nat := 115792089237316195423570985008687907853269984665640564039457584007913129639936

theorem wv_add_mul (X k : Nat) : wv (X + M256 * k) = wv X := by
  obtain ⟨x0, x1, x2, x3, j, h0, h1, h2, h3, e, hv⟩ := wv_open X
  rw [hv]
  refine (wv_eq (k := j + k) h0 h1 h2 h3 ?_).symm
  rw [e]
  unfold M256
  omega

theorem wv_mod (X : Nat) : wv (X % M256) = wv X := by
  have := wv_add_mul (X % M256) (X / M256)
  rw [Nat.mod_add_div] at this
  exact this.symm

theorem M256_pos : 0 < M256 := by decide

theorem cells4 {w1 : World} {b t : Nat} {u0 u1 u2 u3 : Value} (h1 : w1.heap[b]? = some (.cells #[u0, u1, u2, u3] t (0, 0))) :
    w1.cell? ⟨b, 0, none⟩ = some u0 ∧ w1.cell? ⟨b, 1, none⟩ = some u1 ∧ w1.cell? ⟨b, 2, none⟩ = some u2 ∧ w1.cell? ⟨b, 3, none⟩ = some u3 :=
  ⟨blk_cell h1 rfl, blk_cell h1 rfl, blk_cell h1 rfl, blk_cell h1 rfl⟩

theorem heap_new1 (w : World) (a b : Obj) : ((w.alloc a).alloc b).heap[w.heap.size + 1]? = some b := by
  have := heap_alloc_new (w.alloc a) b
  rwa [World.size_alloc] at this

/-- A word, written out. -/
theorem wv_form (X : Nat) : ∃ a b c d : Int, wv X = .agg #[.int .u64 a, .int .u64 b, .int .u64 c, .int .u64 d] := ⟨_, _, _, _, rfl⟩

namespace M64
theorem wrapN (a : Nat) (ha : a < 18446744073709551616) : IntKind.u64.wrap (a : Int) = (a : Int) := by rw [IntKind.wrap_u64]; omega

end M64
set_option maxHeartbeats 400000 in
set_option maxRecDepth 100000 in
theorem of_any (n : Nat) (hn : n < 18446744073709551616) (w : World) : Calls Try.prog 63 #[.int .u64 n] w fun e w' => e = .returned (wv n) ∧ Below w.heap.size w w' := by
  have hv : Value.agg #[.int .u64 n, .int .u64 0, .int .u64 0, .int .u64 0] = wv n := wv_eq (s1 := 0) (s2 := 0) (s3 := 0) (k := 0) hn (by omega) (by omega) (by omega) (by omega)
  have HV := hideP hv
  clear hv hn
  go_enter Try.func63, Try.ntmps63
  go_wp2
  refine bodyPost_ret (v := .agg #[.int .u64 n, .int .u64 0, .int .u64 0, .int .u64 0]) (by simp [results, Try.results63, go_sem]) rfl ⟨by rw [HV.out], ?_⟩
  repeat first | exact Below.refl _ _ | apply Below.drew | (refine Below.alloc ?_ (by simp <;> omega) _) | (refine Below.setCell ?_ (by simp <;> omega) _)

/-- A limb of a number. -/
def limb (N k : Nat) : Nat := N / 18446744073709551616 ^ k % 18446744073709551616

theorem limb_lt (N k : Nat) : limb N k < 18446744073709551616 := Nat.mod_lt _ (by decide)

theorem limb_succ (N k : Nat) : limb N (k + 1) = limb (N / 18446744073709551616) k := by
  unfold limb
  rw [Nat.pow_succ, Nat.mul_comm, Nat.div_div_eq_div_mul]

theorem limb_zero_of {a r : Nat} (h : a < 18446744073709551616) : limb (a + 18446744073709551616 * r) 0 = a := by
  unfold limb
  rw [Nat.pow_zero, Nat.div_one]
  exact (digit_of _ _ _ h).1

theorem limb_succ_of {a r k : Nat} (h : a < 18446744073709551616) : limb (a + 18446744073709551616 * r) (k + 1) = limb r k := by
  rw [limb_succ, (digit_of _ _ _ h).2]

theorem wv_limb (X : Nat) : wv X = .agg #[.int .u64 (limb X 0), .int .u64 (limb X 1), .int .u64 (limb X 2), .int .u64 (limb X 3)] := by
  obtain ⟨x0, x1, x2, x3, k, h0, h1, h2, h3, e, hv⟩ := wv_open X
  rw [hv, e]
  simp only [limb_zero_of h0, limb_succ_of h0, limb_zero_of h1, limb_succ_of h1, limb_zero_of h2, limb_succ_of h2, limb_zero_of h3]

set_option maxHeartbeats 1000000 in
set_option maxRecDepth 100000 in
theorem used_any (w : World) (b n cap : Nat) (f : Nat → Nat) (hn : n ≤ 9) (hc : ∀ j, j < n → w.cell? ⟨b, j, none⟩ = some (.int .u64 (f j))) :
    Calls Try.prog 83 #[.slice (some ⟨b, 0, none⟩) n cap] w fun e w' => (∃ k : Nat, e = .returned (.int .i64 k) ∧ k ≤ n ∧ (∀ j, k ≤ j → j < n → f j = 0) ∧ (0 < k → f (k - 1) ≠ 0)) ∧ w = w' := by
  go_enter Try.func83, Try.ntmps83
  go_wp2_with fail
  go_loop [3, 6] (fun _ i => ∃ k : Nat, k ≤ n ∧ i = .int .i64 k ∧ ∀ j, n - k ≤ j → j < n → f j = 0) (fun _ i => n - (intOf i).toNat)
  case atStart => exact ⟨0, Nat.zero_le _, rfl, fun j h1 h2 => by omega⟩
  case round =>
    obtain ⟨k, hk, rfl, hz⟩ := hrel
    have HZ := hideP hz
    clear hz
    by_cases hlt : k < n
    · obtain ⟨j, hj⟩ : ∃ j, j = n - 1 - k := ⟨_, rfl⟩
      have hcj := hc j (by omega)
      have e1 : IntKind.i64.wrap ((n : Int) - 1) = (n : Int) - 1 := by rw [IntKind.wrap_i64]; omega
      have e2 : IntKind.i64.wrap ((n : Int) - 1 - k) = (j : Int) := by rw [IntKind.wrap_i64]; omega
      have e3 : IntKind.i64.wrap ((n : Int) - k) = (j : Int) + 1 := by rw [IntKind.wrap_i64]; omega
      have e4 : IntKind.i64.wrap ((k : Int) + 1) = (k : Int) + 1 := by rw [IntKind.wrap_i64]; omega
      have hj1 : (j : Int) < n := by omega
      have HJ := hideP hj
      have hlt' : (k : Int) < n := by omega
      clear hj hc
      by_cases hv : f j = 0
      · have hb : ((f j : Int) == 0) = true := by simp [hv]
        have HV := hideP hv
        clear hv
        go_wp2_with fail
        go_round
        case rel =>
          refine ⟨k + 1, by omega, by go_num, fun i h1 h2 => ?_⟩
          have hj := HJ.out
          by_cases hi : i = j
          · rw [hi]; exact HV.out
          · exact HZ.out i (by omega) h2
        case measure => simp [intOf]; omega
      · have hb : ((f j : Int) == 0) = false := by simp; omega
        have HV := hideP hv
        clear hv
        go_wp2_with fail
        go_ret
        have hj := HJ.out
        exact ⟨⟨j + 1, by simp, by omega, fun i h1 h2 => HZ.out i (by omega) h2, fun _ => by simpa using HV.out⟩, rfl⟩
    · have hlt' : ¬ ((k : Int) < n) := by omega
      have hkn : k = n := by omega
      subst hkn
      clear hc hlt' hk
      go_wp2_with fail
      go_ret
      exact ⟨⟨0, rfl, Nat.zero_le _, fun i h1 h2 => HZ.out i (by omega) h2, fun h => by omega⟩, rfl⟩

/-- All but the block L is as it was. -/
structure But (L : Nat) (W V : World) : Prop where
  same : ∀ b, b ≠ L → V.heap[b]? = W.heap[b]?
  below : Below L W V

theorem But.refl (L : Nat) (W : World) : But L W W := ⟨fun _ _ => rfl, Below.refl _ _⟩

theorem But.set {L : Nat} {W V : World} (h : But L W V) (o : Nat) (v : Value) : But L W (V.setCell ⟨L, o, none⟩ v) :=
  ⟨fun b hb => (Below.heap_setCell V _ v b hb).trans (h.same b hb), h.below.setCell (p := ⟨L, o, none⟩) (Nat.le_refl _) v⟩

theorem But.drew {L : Nat} {W V : World} (h : But L W V) : But L W V.drew := ⟨h.same, h.below.drew⟩

theorem But.trans {L : Nat} {W V U : World} (h : But L W V) (g : But L V U) : But L W U := ⟨fun b hb => (g.same b hb).trans (h.same b hb), h.below.trans g.below⟩

theorem But.cell {L : Nat} {W V : World} (h : But L W V) {b o : Nat} (hb : b ≠ L) : V.cell? ⟨b, o, none⟩ = W.cell? ⟨b, o, none⟩ := by
  simp only [World.cell?, h.same b hb]

namespace SP
theorem last {B Bk P p S s Y m a c c' : Nat} (h : P + Bk * c + Bk * a = S + m * Y) (e2 : p + B * c' = s + a + c) :
    P + p * Bk + Bk * B * c' = S + s * Bk + m * Y := by
  have h2 : Bk * (p + B * c') = Bk * (s + a + c) := by rw [e2]
  simp only [Nat.mul_add] at h2
  rw [Nat.mul_comm p, Nat.mul_comm s, Nat.mul_assoc Bk B c']
  omega

end SP

theorem But.sets {L : Nat} {W : World} : ∀ (vs : List Value) (o : Nat) {V : World}, But L W V → But L W (V.setCells L o vs)
  | [], _, _, h => h
  | v :: r, o, _, h => by rw [World.setCells]; exact But.sets r (o + 1) (h.set o v)

/-- Values written into a row one after another. -/
def putAll (cs : Array Value) (o : Nat) : List Value → Array Value
  | [] => cs
  | v :: r => putAll (cs.setIfInBounds o v) (o + 1) r

theorem blk_sets {p t : Nat} : ∀ (vs : List Value) (o : Nat) {w : World} {cs : Array Value}, w.heap[p]? = some (.cells cs t (0, 0)) → (w.setCells p o vs).heap[p]? = some (.cells (putAll cs o vs) t (0, 0))
  | [], _, _, _, h => h
  | v :: r, o, _, _, h => by rw [World.setCells]; exact blk_sets r (o + 1) (blk_set h v)

theorem put_same (a : Act) (d : Nat) (v : Value) (h : d < a.tmps.size) : (a.put (some d) v).eval (.tmp d) = v := by
  simp [Act.put, Act.eval, Array.getD, h]

theorem put_ne (a : Act) {d j : Nat} (v : Value) (h : d ≠ j) : (a.put (some d) v).eval (.tmp j) = a.eval (.tmp j) :=
  Act.eval_put (fun d' hd' e => by cases hd'; cases e; exact h rfl)

theorem results_cell {P : Program} {fn : Func} {ts : Array Value} {w : World} {j ty : Nat} {p : Addr} {v : Value} (hf : fn.results = #[.cell j ty]) (hj : ts.getD j undef = .pointer (some p)) (h : (loadVar ty p).run P w = .ok v w) :
    (results fn ts).run P w = .ok v w := by
  unfold results
  rw [hf]
  rw [Array.getD_eq_getD_getElem?] at hj
  simp [hj, asAddr, h]


theorem at_world_q {P : Program} {f : FuncId} {args : Array Value} {w : World} {Q : Ending → World → Prop} (h : ∀ W0, W0 = w → Calls P f args W0 Q) : Calls P f args w Q := h w rfl

theorem endRow {P : Program} {fn : Func} {R : Ending → World → Prop} {a : Act} {w : World} {id L R0 i j k ty ty1 ty2 : Nat} {C : Array Value} {d : TypeDesc} {pos1 pos2 aft1 aft2} (hf : fn.results = #[.cell j ty]) (hi : a.eval (.tmp i) = .pointer (some ⟨L, 0, none⟩)) (hj : a.eval (.tmp j) = .pointer (some ⟨R0, 0, none⟩)) (hjk : k ≠ j) (hk : k < a.tmps.size) (hd : a.defers = [])
    (hu : P.underlying ty = some d) (hr : d.isRow = true) (hs : (P.info? ty).map (·.size) = some C.size) (h1 : C.all (·.oneCell') = true)
    (hL : w.rangeAt L 0 C.toList) (hR : w.there R0 0 C.size) (h : ∀ wS, But R0 w wS → R (.returned (.agg C)) wS) :
    ((Code.region id #[{ dst := some k, op := .load ty (.tmp i), type := ty1, pos := pos1, after := aft1, guard := none }, { dst := none, op := .store ty (.tmp j) (.tmp k), type := ty2, pos := pos2, after := aft2, guard := none }] false).seq .ret).wp P (bodyPost P fn R) a w := by
  refine wp_seq ?_
  refine wp_region_list ?_
  have hj' : (a.put (some k) (.agg C)).eval (.tmp j) = .pointer (some ⟨R0, 0, none⟩) := by rw [put_ne _ _ hjk, hj]
  have hs' : (P.info? ty).map (·.size) = some C.toList.length := by rw [Array.length_toList]; exact hs
  refine wpList_load_mid rfl ty (.tmp i) rfl L 0 hi C.toList _ hL hu hr hs' ?_
  refine wpList_store_mid rfl ty (.tmp j) (.tmp k) rfl R0 0 C hj' (put_same _ _ _ hk) hR hs h1 ?_
  refine wpList_nil ?_
  refine wp_ret ?_
  have hb := World.rangeAt_setCells_same w R0 0 C.toList (by rw [Array.length_toList]; exact hR)
  exact bodyPost_ret_by (results_cell hf hj' (run_loadVar_mid _ R0 0 ty C.toList _ hb hu hr hs')) hd (h _ (But.sets _ _ (But.refl _ _)))

theorem rangeOf {w : World} {b t : Nat} {C : Array Value} (h : w.heap[b]? = some (.cells C t (0, 0))) : w.rangeAt b 0 C.toList := fun j v hv =>
  blk_cell (o := 0 + j) (v := v) h (by rw [Nat.zero_add]; rw [Array.getElem?_toList] at hv; exact hv)

theorem thereOf {w : World} {b t : Nat} {C : Array Value} (h : w.heap[b]? = some (.cells C t (0, 0))) : w.there b 0 C.size := fun j hj =>
  ⟨(rangeOf h).isSome j (by rw [Array.length_toList]; exact hj), blk_free h⟩

/-- Four cells. -/
def c4 (g : Nat → Nat) : Array Value := #[.int .u64 (g 0), .int .u64 (g 1), .int .u64 (g 2), .int .u64 (g 3)]

theorem wv_c4 (X : Nat) : wv X = .agg (c4 (limb X)) := wv_limb X

theorem cget4 (g : Nat → Nat) {j : Nat} (h : j < 4) : (c4 g)[j]? = some (.int .u64 (g j)) := by
  match j, h with
  | 0, _ => rfl
  | 1, _ => rfl
  | 2, _ => rfl
  | 3, _ => rfl
  | k + 4, h => exact absurd h (by omega)

theorem cset4 (g : Nat → Nat) {j : Nat} (v : Nat) (h : j < 4) : (c4 g).setIfInBounds j (.int .u64 v) = c4 (fun i => if i = j then v else g i) := by
  match j, h with
  | 0, _ => rfl
  | 1, _ => rfl
  | 2, _ => rfl
  | 3, _ => rfl
  | k + 4, h => exact absurd h (by omega)

theorem oneCell4 (g : Nat → Nat) : (c4 g).all (·.oneCell') = true := by simp [c4, Value.oneCell']

theorem putAll4 (g' g : Nat → Nat) : putAll (c4 g') 0 (c4 g).toList = c4 g := by
  simp [c4, putAll]

theorem there4 {w : World} {b t : Nat} {g : Nat → Nat} (h : w.heap[b]? = some (.cells (c4 g) t (0, 0))) : w.there b 0 4 := thereOf h

theorem put_none (a : Act) (v : Value) : a.put none v = a := rfl

theorem limb_nought : limb 0 = fun _ => 0 := by funext j; simp [limb]

/-- A byte of a number. -/
def byt (X k : Nat) : Nat := X / 2 ^ (8 * k) % 256

theorem byt_lt (X k : Nat) : byt X k < 256 := Nat.mod_lt _ (by decide)

theorem limb_byt (X k : Nat) : limb X (k / 8) / 2 ^ (8 * (k % 8)) % 256 = byt X k := by
  unfold limb byt
  have h := Nat.mod_lt k (show 0 < 8 by decide)
  have e1 : (2 : Nat) ^ (8 * k) = 18446744073709551616 ^ (k / 8) * 2 ^ (8 * (k % 8)) := by
    rw [show (18446744073709551616 : Nat) = 2 ^ 64 by decide, ← Nat.pow_mul, ← Nat.pow_add]
    congr 1
    omega
  rw [e1, ← Nat.div_div_eq_div_mul]
  generalize X / 18446744073709551616 ^ (k / 8) = x
  have e2 : (18446744073709551616 : Nat) = 2 ^ (8 * (k % 8)) * 2 ^ (64 - 8 * (k % 8)) := by
    rw [← Nat.pow_add, show 8 * (k % 8) + (64 - 8 * (k % 8)) = 64 by omega]
  rw [e2, Nat.mod_mul_right_div_self, show (256 : Nat) = 2 ^ 8 by decide]
  exact Nat.mod_mod_of_dvd _ (Nat.pow_dvd_pow 2 (by omega))

/-- Thirty-two cells. -/
def c32 (g : Nat → Nat) : Array Value := #[.int .u8 (g 0), .int .u8 (g 1), .int .u8 (g 2), .int .u8 (g 3), .int .u8 (g 4), .int .u8 (g 5), .int .u8 (g 6), .int .u8 (g 7), .int .u8 (g 8), .int .u8 (g 9), .int .u8 (g 10), .int .u8 (g 11), .int .u8 (g 12), .int .u8 (g 13), .int .u8 (g 14), .int .u8 (g 15), .int .u8 (g 16), .int .u8 (g 17), .int .u8 (g 18), .int .u8 (g 19), .int .u8 (g 20), .int .u8 (g 21), .int .u8 (g 22), .int .u8 (g 23), .int .u8 (g 24), .int .u8 (g 25), .int .u8 (g 26), .int .u8 (g 27), .int .u8 (g 28), .int .u8 (g 29), .int .u8 (g 30), .int .u8 (g 31)]

theorem get32 (g : Nat → Nat) {j : Nat} (h : j < 32) : (c32 g)[j]? = some (.int .u8 (g j)) := by
  match j, h with
  | 0, _ => rfl
  | 1, _ => rfl
  | 2, _ => rfl
  | 3, _ => rfl
  | 4, _ => rfl
  | 5, _ => rfl
  | 6, _ => rfl
  | 7, _ => rfl
  | 8, _ => rfl
  | 9, _ => rfl
  | 10, _ => rfl
  | 11, _ => rfl
  | 12, _ => rfl
  | 13, _ => rfl
  | 14, _ => rfl
  | 15, _ => rfl
  | 16, _ => rfl
  | 17, _ => rfl
  | 18, _ => rfl
  | 19, _ => rfl
  | 20, _ => rfl
  | 21, _ => rfl
  | 22, _ => rfl
  | 23, _ => rfl
  | 24, _ => rfl
  | 25, _ => rfl
  | 26, _ => rfl
  | 27, _ => rfl
  | 28, _ => rfl
  | 29, _ => rfl
  | 30, _ => rfl
  | 31, _ => rfl
  | k + 32, h => exact absurd h (by omega)

theorem set32 (g : Nat → Nat) {j : Nat} (v : Nat) (h : j < 32) : (c32 g).setIfInBounds j (.int .u8 v) = c32 (fun i => if i = j then v else g i) := by
  match j, h with
  | 0, _ => rfl
  | 1, _ => rfl
  | 2, _ => rfl
  | 3, _ => rfl
  | 4, _ => rfl
  | 5, _ => rfl
  | 6, _ => rfl
  | 7, _ => rfl
  | 8, _ => rfl
  | 9, _ => rfl
  | 10, _ => rfl
  | 11, _ => rfl
  | 12, _ => rfl
  | 13, _ => rfl
  | 14, _ => rfl
  | 15, _ => rfl
  | 16, _ => rfl
  | 17, _ => rfl
  | 18, _ => rfl
  | 19, _ => rfl
  | 20, _ => rfl
  | 21, _ => rfl
  | 22, _ => rfl
  | 23, _ => rfl
  | 24, _ => rfl
  | 25, _ => rfl
  | 26, _ => rfl
  | 27, _ => rfl
  | 28, _ => rfl
  | 29, _ => rfl
  | 30, _ => rfl
  | 31, _ => rfl
  | k + 32, h => exact absurd h (by omega)

theorem c32_congr {f g : Nat → Nat} (h : ∀ j, j < 32 → f j = g j) : c32 f = c32 g := by
  unfold c32
  rw [h 0 (by decide), h 1 (by decide), h 2 (by decide), h 3 (by decide), h 4 (by decide), h 5 (by decide), h 6 (by decide), h 7 (by decide), h 8 (by decide), h 9 (by decide), h 10 (by decide), h 11 (by decide), h 12 (by decide), h 13 (by decide), h 14 (by decide), h 15 (by decide), h 16 (by decide), h 17 (by decide), h 18 (by decide), h 19 (by decide), h 20 (by decide), h 21 (by decide), h 22 (by decide), h 23 (by decide), h 24 (by decide), h 25 (by decide), h 26 (by decide), h 27 (by decide), h 28 (by decide), h 29 (by decide), h 30 (by decide), h 31 (by decide)]

theorem under52 : Try.prog.underlying 128 = some (.array 32 5) := by kernel_rfl

theorem size52 : (Try.prog.info? 128).map (·.size) = some 32 := by kernel_rfl

theorem oneCell32 (g : Nat → Nat) : (c32 g).all (·.oneCell') = true := by simp [c32, Value.oneCell']

theorem zero32 : (#[.int .u8 0, .int .u8 0, .int .u8 0, .int .u8 0, .int .u8 0, .int .u8 0, .int .u8 0, .int .u8 0, .int .u8 0, .int .u8 0, .int .u8 0, .int .u8 0, .int .u8 0, .int .u8 0, .int .u8 0, .int .u8 0, .int .u8 0, .int .u8 0, .int .u8 0, .int .u8 0, .int .u8 0, .int .u8 0, .int .u8 0, .int .u8 0, .int .u8 0, .int .u8 0, .int .u8 0, .int .u8 0, .int .u8 0, .int .u8 0, .int .u8 0, .int .u8 0] : Array Value) = c32 (fun _ => 0) := rfl

theorem there32 {w : World} {b t : Nat} {g : Nat → Nat} (h : w.heap[b]? = some (.cells (c32 g) t (0, 0))) : w.there b 0 32 := thereOf h

/-- Where the bytes have come to. -/
structure YI (t : Nat) (w wr : World) (A k : Nat) : Prop where
  x : wr.heap[w.heap.size]? = some (.cells (c4 (limb A)) t (0, 0))
  r : wr.heap[w.heap.size + 1]? = some (.cells (c32 (fun _ => 0)) 128 (0, 0))
  o : ∃ g : Nat → Nat, wr.heap[w.heap.size + 1 + 1]? = some (.cells (c32 g) 128 (0, 0)) ∧ ∀ j, j < 32 → 32 - k ≤ j → g j = byt A (31 - j)
  b : Below w.heap.size w wr

theorem YI.put {t : Nat} {w wr : World} {A k : Nat} (I : YI t w wr A k) (hk : k < 32) : YI t w (wr.setCell ⟨w.heap.size + 1 + 1, 31 - k, none⟩ (.int .u8 (byt A k))) A (k + 1) := by
  obtain ⟨g, hg, hj⟩ := I.o
  have o1 : ∀ b, b ≠ w.heap.size + 1 + 1 → (wr.setCell ⟨w.heap.size + 1 + 1, 31 - k, none⟩ (.int .u8 (byt A k))).heap[b]? = wr.heap[b]? := fun b h => Below.heap_setCell wr _ _ b h
  refine ⟨(o1 _ (by omega)).trans I.x, (o1 _ (by omega)).trans I.r, ⟨fun i => if i = 31 - k then byt A k else g i, ?_, fun j h1 h2 => ?_⟩, I.b.setCell (p := ⟨w.heap.size + 1 + 1, 31 - k, none⟩) (by simp <;> omega) _⟩
  · have := blk_set (o := 31 - k) hg (.int .u8 (byt A k))
    rw [set32 g _ (by omega)] at this
    exact this
  · show (if j = 31 - k then byt A k else g j) = _
    by_cases h : j = 31 - k
    · rw [if_pos h, h, show 31 - (31 - k) = k by omega]
    · rw [if_neg h]; exact hj j h1 (by omega)

theorem YI.done {t : Nat} {w wr : World} {A : Nat} (I : YI t w wr A 32) : wr.heap[w.heap.size + 1 + 1]? = some (.cells (c32 (fun j => byt A (31 - j))) 128 (0, 0)) := by
  obtain ⟨g, hg, hj⟩ := I.o
  rw [hg, c32_congr (fun j h => hj j h (by omega))]

theorem YI.start (t : Nat) (w : World) (A : Nat) : YI t w (((w.alloc (.cells (c4 (limb A)) t (0, 0))).alloc (.cells (c32 (fun _ => 0)) 128 (0, 0))).alloc (.cells (c32 (fun _ => 0)) 128 (0, 0))) A 0 := by
  refine ⟨?_, ?_, ⟨fun _ => 0, ?_, fun j h1 h2 => absurd h2 (by omega)⟩, ?_⟩
  · simp only [World.alloc, Array.getElem?_push, Array.size_push]; simp [Nat.add_assoc]
  · simp only [World.alloc, Array.getElem?_push, Array.size_push]; simp
  · simp only [World.alloc, Array.getElem?_push, Array.size_push]; simp
  · repeat first | exact Below.refl _ _ | (refine Below.alloc ?_ (by simp <;> omega) _)

/-- A word's bytes. -/
def b32 (X : Nat) : Value := .agg (c32 (fun j => byt X (31 - j)))

set_option maxHeartbeats 4000000 in
set_option maxRecDepth 100000 in
theorem bytes_any (X : Nat) (w : World) : Calls Try.prog 78 #[wv X] w fun e w' => e = .returned (b32 X) ∧ Below w.heap.size w w' := by
  have HE := hideP (YI.start 59 w X)
  rw [wv_c4]
  generalize hres : b32 X = res
  have HRES := hideP hres
  clear hres
  generalize hcx : c4 (limb X) = cx at HE ⊢
  clear hcx
  rw [← zero32] at HE
  go_enter Try.func78, Try.ntmps78
  go_wp2_with fail
  generalize ((w.alloc (.cells cx 59 (0, 0))).alloc (.cells #[.int .u8 0, .int .u8 0, .int .u8 0, .int .u8 0, .int .u8 0, .int .u8 0, .int .u8 0, .int .u8 0, .int .u8 0, .int .u8 0, .int .u8 0, .int .u8 0, .int .u8 0, .int .u8 0, .int .u8 0, .int .u8 0, .int .u8 0, .int .u8 0, .int .u8 0, .int .u8 0, .int .u8 0, .int .u8 0, .int .u8 0, .int .u8 0, .int .u8 0, .int .u8 0, .int .u8 0, .int .u8 0, .int .u8 0, .int .u8 0, .int .u8 0, .int .u8 0] 128 (0, 0))).alloc (.cells #[.int .u8 0, .int .u8 0, .int .u8 0, .int .u8 0, .int .u8 0, .int .u8 0, .int .u8 0, .int .u8 0, .int .u8 0, .int .u8 0, .int .u8 0, .int .u8 0, .int .u8 0, .int .u8 0, .int .u8 0, .int .u8 0, .int .u8 0, .int .u8 0, .int .u8 0, .int .u8 0, .int .u8 0, .int .u8 0, .int .u8 0, .int .u8 0, .int .u8 0, .int .u8 0, .int .u8 0, .int .u8 0, .int .u8 0, .int .u8 0, .int .u8 0, .int .u8 0] 128 (0, 0)) = W2 at HE ⊢
  rename_i Q' K hK
  have HK := hideP hK
  clear hK
  go_loopw [5] (fun i wr => ∃ (k : Nat), k ≤ 32 ∧ i = .int .i64 k ∧ YI 59 w wr X k) (fun i _ => 32 - (intOf i).toNat)
  case atStart => exact ⟨0, Nat.zero_le _, rfl, HE.out⟩
  case round =>
    obtain ⟨k, hk, rfl, I⟩ := hrel
    have HI := hideP I
    clear I HE
    by_cases hlt : k < 32
    · have HN : Hid (k < 32) := hlt
      have cx := blk_cell HI.out.x (cget4 (limb X) (show k / 8 < 4 by omega))
      have fo : ∀ o, wr.frozen? ⟨w.heap.size + 1 + 1, o, none⟩ = false := fun o => blk_free HI.out.o.choose_spec.1
      have co := blk_cell HI.out.o.choose_spec.1 (get32 _ (show 31 - k < 32 by omega))
      have HP := hideP (HI.out.put hlt)
      have hv := limb_byt X k
      have hll := limb_lt X (k / 8)
      have hbl := byt_lt X k
      have g1 : (k : Int) < 32 := by omega
      have e0 : IntKind.i64.wrap (31 - (k : Int)) = ((31 - k : Nat) : Int) := by rw [IntKind.wrap_i64]; omega
      have g2 : ((31 - k : Nat) : Int) < 32 := by omega
      have e1 : ((k : Int)).tdiv 8 = ((k / 8 : Nat) : Int) := by rw [Int.tdiv_eq_ediv_of_nonneg (by omega)]; omega
      have e1' : IntKind.i64.wrap ((k / 8 : Nat) : Int) = ((k / 8 : Nat) : Int) := by rw [IntKind.wrap_i64]; omega
      have g3 : ((k / 8 : Nat) : Int) < 4 := by omega
      have e2 : ((k : Int)).tmod 8 = ((k % 8 : Nat) : Int) := by rw [Int.tmod_eq_emod_of_nonneg (by omega)]; omega
      have e2' : IntKind.i64.wrap ((k % 8 : Nat) : Int) = ((k % 8 : Nat) : Int) := by rw [IntKind.wrap_i64]; omega
      have e3 : IntKind.i64.wrap (8 * ((k % 8 : Nat) : Int)) = ((8 * (k % 8) : Nat) : Int) := by rw [IntKind.wrap_i64]; omega
      have e3' : IntKind.u64.wrap ((8 * (k % 8) : Nat) : Int) = ((8 * (k % 8) : Nat) : Int) := by rw [IntKind.wrap_u64]; omega
      have g4 : ((8 * (k % 8) : Nat) : Int) < 64 := by omega
      have e4 : IntKind.i64.wrap ((k : Int) + 1) = (k : Int) + 1 := by rw [IntKind.wrap_i64]; omega
      have hq : ((limb X (k / 8) : Int) / 2 ^ (8 * (k % 8))) = ((limb X (k / 8) / 2 ^ (8 * (k % 8)) : Nat) : Int) := by simp
      have e6 : ((limb X (k / 8) : Int) / 2 ^ (8 * (k % 8))).tmod 256 = ((byt X k : Nat) : Int) := by
        rw [hq, Int.tmod_eq_emod_of_nonneg (Int.natCast_nonneg _), ← hv]; rfl
      have e5 : IntKind.u8.wrap ((limb X (k / 8) : Int) / 2 ^ (8 * (k % 8))) = ((byt X k : Nat) : Int) := by
        rw [hq, IntKind.wrap_u8, ← hv]; rfl
      have e7 : IntKind.u8.wrap ((byt X k : Nat) : Int) = ((byt X k : Nat) : Int) := by rw [IntKind.wrap_u8]; omega
      clear hlt hk hv hll hbl hq
      generalize limb X (k / 8) = lx at *
      generalize byt X k = bk at *
      generalize k / 8 = kq at *
      generalize 8 * (k % 8) = sh at *
      generalize k % 8 = kr at *
      generalize 31 - k = kt at *
      go_wp2_with fail
      refine ⟨⟨k + 1, HN.out, by go_num, HP.out⟩, by have := HN.out; simp [intOf]; omega⟩
    · have hk6 : k = 32 := by omega
      subst hk6
      have g1 : ¬ ((32 : Nat) : Int) < 32 := by decide
      clear hlt hk
      go_wp2_with fail
      refine HK.out _ _ ?_
      refine endRow (C := c32 (fun j => byt X (31 - j))) rfl rfl rfl (by decide) (by show 21 < 22; decide) rfl under52 rfl size52 (oneCell32 _) (rangeOf HI.out.done) (there32 HI.out.r) ?_
      intro wS h
      exact ⟨by rw [← HRES.out]; rfl, HI.out.b.trans (h.below.mono (by omega))⟩

theorem putAll32 (g' g : Nat → Nat) : putAll (c32 g') 0 (c32 g).toList = c32 g := by
  simp [c32, putAll]

/-- The row behind an owned slice of one-cell elements. -/
theorem own_row {w : World} {base e n cap g : Nat} {xs : List Value} (h : w.ownsRow base e 1 (.slice (some ⟨g, 0, none⟩) n cap) n xs) :
    ∃ cur : List Value, w.heap[g]? = some (.cells cur.toArray e (0, 0)) ∧ base ≤ g ∧ n ≤ cap ∧ cap ≤ maxLen ∧ cur.length = cap ∧ cur.take n = xs := by
  obtain ⟨hl, h | ⟨g', cap', cur, hv, hb, hg, hn, hm, hs, ht⟩⟩ := h
  · simp at h
  · simp only [Value.slice.injEq, Option.some.injEq, Addr.mk.injEq] at hv
    obtain ⟨⟨rfl, _, _⟩, _, rfl⟩ := hv
    exact ⟨cur.toList, by simpa using hg, hb, hn, hm, by simpa using hs, by simpa using ht⟩

/-- The run of 'copy' into a row that is known whole. -/
theorem copy_run {P : Program} (w : World) (T ty E : TypeId) (hu : P.underlying T = some (.slice E)) (hs : (P.info? E).map (·.size) = some 1) (dp sp : Option Addr) (dLen dCap sLen sCap : Nat)
    (g off : Nat) (cur : List Value) (t : TypeId) (hg : w.heap[g]? = some (.cells cur.toArray t (0, 0))) (cs : List Value) (hn : cs.length = Nat.min sLen dLen)
    (hpos : 0 < cs.length → dp = some ⟨g, off, none⟩ ∧ ∃ ad, sp = some ad ∧ ∀ j v, cs[j]? = some v → w.cell? (ad.add j) = some v)
    (hfit : off + cs.length ≤ cur.length) (h1 : ∀ v ∈ cs, v.oneCell' = true) :
    ∃ w', (Builtin.copy_ #[T, T] ty #[.slice dp dLen dCap, .slice sp sLen sCap]).run P w = .ok (goInt cs.length) w' ∧ w'.heap[g]? = some (.cells (splice cur off cs).toArray t (0, 0)) ∧ w.grownBy w' (some g) := by
  by_cases h0 : cs.length = 0
  · obtain rfl : cs = [] := List.eq_nil_of_length_eq_zero h0
    refine ⟨w, ?_, by simpa [splice] using hg, World.grownBy.refl _ _⟩
    exact run_copy_none (P := P) w T T ty E dp sp dLen dCap sLen sCap hu hs (by simpa using hn.symm)
  · obtain ⟨rfl, ad, rfl, hsrc⟩ := hpos (by omega)
    refine ⟨_, run_copy_row (P := P) w T T ty E g off dLen dCap ad sLen sCap cur.toArray t cs hu hs hg hn hsrc (by simpa using hfit) h1, ?_, ?_⟩
    · simpa [splice] using setRow_heap w g cur.toArray _ t _ hg
    · exact ⟨rfl, rfl, rfl, by simp [World.setRow], fun k hk hne => setRow_other w g k _ (fun e => hne (by rw [e]))⟩

/-- The last bytes of an array of 32. -/
theorem slice32 (B a : Nat) (ha : a ≤ 32) : ∃ sp, (a < 32 → sp = a) ∧ ∀ W : World, (Instr.sliceAt 128 (.pointer (some ⟨B, 0, none⟩)) (some (.int .i64 (a : Int))) none none).run Try.prog W = .ok (.slice (some ⟨B, sp, none⟩) (32 - a) (32 - a)) W := by
  refine ⟨if a = 32 then 0 else a, fun h => if_neg (by omega), fun W => ?_⟩
  have hl : Try.prog.arrayLen 128 = 32 := by kernel_rfl
  have hs : (sizeOf (Try.prog.elem 128)).run Try.prog W = .ok 1 W := by kernel_rfl
  rw [run_sliceAt_array_l (P := Try.prog) W 128 ⟨B, 0, none⟩ (by kernel_rfl) .i64 (a : Int) (by omega) (by rw [hl]; omega), hs, hl]
  have h1 : ((a : Int)).toNat = a := by omega
  by_cases h : a = 32
  · subst h; simp [Result.andThen, slicedAt]
  · have h3 : ¬ (32 = a) := by omega
    simp [Result.andThen, slicedAt, h1, h, h3, Addr.add]
    exact fun h => h.symm

/-- So many bytes a number has without leading noughts. -/
structure LB (X n : Nat) : Prop where
  le : n ≤ 32
  lt : X % M256 < 2 ^ (8 * n)
  ge : 0 < n → 2 ^ (8 * (n - 1)) ≤ X % M256

theorem LB.ofBits {X n : Nat} (h256 : n ≤ 256) (hlt : X % M256 < 2 ^ n) (hge : 0 < n → 2 ^ (n - 1) ≤ X % M256) : LB X ((n + 7) / 8) := by
  refine ⟨by omega, Nat.lt_of_lt_of_le hlt (Nat.pow_le_pow_right (by decide) (by omega)), fun h => ?_⟩
  exact Nat.le_trans (Nat.pow_le_pow_right (by decide) (by omega)) (hge (by omega))

/-- The n lowest bytes, the highest first. -/
def lowB (X n : Nat) : Nat → Nat := fun j => byt X (n - 1 - j)

/-- A row whose bytes are the least ones of a number. -/
structure LRow (N : Nat) (w : World) (X : Nat) (v : Value) : Prop where
  ex : ∃ n cap g off, v = .slice (some ⟨g, off, none⟩) n cap ∧ LB X n ∧ N ≤ g ∧ g < w.heap.size ∧ n ≤ cap ∧ cap ≤ 32 ∧ ∀ j, j < n → w.cell? ⟨g, off + j, none⟩ = some (.int .u8 (lowB X n j))

theorem get4 (g : Nat → Nat) {j : Nat} (h : j < 4) : (#[.int .u64 (g 0), .int .u64 (g 1), .int .u64 (g 2), .int .u64 (g 3)] : Array Value)[j]? = some (.int .u64 (g j)) := by
  match j, h with
  | 0, _ => rfl
  | 1, _ => rfl
  | 2, _ => rfl
  | 3, _ => rfl

theorem top_zero_m {N m : Nat} (hN : N < 18446744073709551616 ^ m) : ∀ (d n : Nat), n + d = m → (∀ j, n ≤ j → j < m → limb N j = 0) → N < 18446744073709551616 ^ n := by
  intro d
  induction d with
  | zero => intro n h _; rwa [show n = m by omega]
  | succ d ih =>
    intro n h hz
    have h1 := ih (n + 1) (by omega) (fun j h1 h2 => hz j (by omega) h2)
    have h2 := hz n (Nat.le_refl _) (by omega)
    unfold limb at h2
    rw [Nat.mod_eq_of_lt (by rw [Nat.div_lt_iff_lt_mul (Nat.pow_pos (by decide)), Nat.mul_comm, ← Nat.pow_succ]; exact h1)] at h2
    exact (Nat.div_eq_zero_iff_lt (Nat.pow_pos (by decide))).1 h2

/-- How many bits a number has: the top limb's, and 64 for each limb below it. -/
theorem bits_lt {Z j : Nat} (ht : Z < 18446744073709551616 ^ (j + 1)) : Z < 2 ^ (64 * j + Lib.bitLen (limb Z j)) := by
  have hl := limb_lt Z j
  have hb := bitLen_upper _ (limb Z j) (by simpa using hl) (Nat.le_refl _)
  have hd : Z / 18446744073709551616 ^ j = limb Z j := by
    unfold limb
    rw [Nat.mod_eq_of_lt]
    rw [Nat.div_lt_iff_lt_mul (Nat.pow_pos (by decide)), Nat.mul_comm, ← Nat.pow_succ]
    exact ht
  have h2 : Z < (limb Z j + 1) * 18446744073709551616 ^ j := by
    rw [← hd]
    have := Nat.lt_mul_div_succ Z (Nat.pow_pos (n := j) (show 0 < 18446744073709551616 by decide))
    rw [Nat.mul_comm]
    exact this
  refine Nat.lt_of_lt_of_le h2 ?_
  rw [Nat.pow_add, Nat.mul_comm, show (18446744073709551616 : Nat) = 2 ^ 64 by decide, ← Nat.pow_mul]
  exact Nat.mul_le_mul_left _ hb

/-- How many bits a number has, from below. -/
theorem bits_ge {Z j : Nat} (hnz : limb Z j ≠ 0) : 2 ^ (64 * j + Lib.bitLen (limb Z j) - 1) ≤ Z := by
  have hl := limb_lt Z j
  obtain ⟨h1, h2⟩ := bitLen_pos (x := limb Z j) (by omega) hl
  have hb := bitLen_lower (x := limb Z j) (k := Lib.bitLen (limb Z j) - 1) (by omega) (by omega)
  have hd : limb Z j ≤ Z / 18446744073709551616 ^ j := Nat.mod_le _ _
  have h3 : limb Z j * 18446744073709551616 ^ j ≤ Z := Nat.le_trans (Nat.mul_le_mul_right _ hd) (Nat.div_mul_le_self _ _)
  refine Nat.le_trans ?_ h3
  rw [show 64 * j + Lib.bitLen (limb Z j) - 1 = (Lib.bitLen (limb Z j) - 1) + 64 * j by omega, Nat.pow_add, show (18446744073709551616 : Nat) = 2 ^ 64 by decide, ← Nat.pow_mul]
  exact Nat.mul_le_mul_right _ hb

set_option maxHeartbeats 1000000 in
set_option maxRecDepth 100000 in
theorem bits_any (Y : Nat) (w : World) : Calls Try.prog 79 #[wv Y] w fun e w' => (∃ n : Nat, e = .returned (.int .i64 n) ∧ n ≤ 256 ∧ Y % M256 < 2 ^ n ∧ (0 < n → 2 ^ (n - 1) ≤ Y % M256)) ∧ Below w.heap.size w w' := by
  rw [← wv_mod Y]
  obtain ⟨Z, hZ⟩ : ∃ Z, Z = Y % M256 := ⟨_, rfl⟩
  have hZ4 : Z < 18446744073709551616 ^ 4 := by rw [hZ]; exact Nat.lt_of_lt_of_le (Nat.mod_lt _ M256_pos) (by decide)
  rw [← hZ, wv_limb]
  clear hZ
  have hu := fun W (h : ∀ j, j < 4 → W.cell? ⟨w.heap.size, j, none⟩ = some (.int .u64 (limb Z j))) => used_any W (w.heap.size) 4 4 (limb Z) (by omega) h
  have HU := hideP hu
  have HZ := hideP hZ4
  clear hu hZ4
  go_enter Try.func79, Try.ntmps79
  go_wp2_with fail
  refine (HU.out _ (fun j hj => ?_)).mono ?_
  · match j, hj with
    | 0, _ => exact blk_cell (heap_new _ _) rfl
    | 1, _ => exact blk_cell (heap_new _ _) rfl
    | 2, _ => exact blk_cell (heap_new _ _) rfl
    | 3, _ => exact blk_cell (heap_new _ _) rfl
  rintro e W1 ⟨⟨k, rfl, hk, hz, hnz⟩, rfl⟩
  by_cases h0 : k = 0
  · subst h0
    have hZ0 : Z < 18446744073709551616 ^ 0 := top_zero_m HZ.out 4 0 (by omega) hz
    have HZ0 := hideP hZ0
    clear hz hnz hk hZ0
    go_wp2_with fail
    go_ret
    refine ⟨⟨0, rfl, by omega, by simpa using HZ0.out, fun h => by omega⟩, ?_⟩
    repeat first | exact Below.refl _ _ | apply Below.drew | (refine Below.alloc ?_ (by simp <;> omega) _) | (refine Below.setCell ?_ (by simp <;> omega) _)
  · obtain ⟨j, rfl⟩ : ∃ j, k = j + 1 := ⟨k - 1, by omega⟩
    have ht : Z < 18446744073709551616 ^ (j + 1) := top_zero_m HZ.out (4 - (j + 1)) (j + 1) (by omega) hz
    have hn := hnz (by omega)
    simp only [Nat.add_sub_cancel] at hn
    have hl := limb_lt Z j
    obtain ⟨p1, p2⟩ := bitLen_pos (x := limb Z j) (by omega) hl
    have HR : Hid (64 * j + Lib.bitLen (limb Z j) ≤ 256 ∧ Z < 2 ^ (64 * j + Lib.bitLen (limb Z j)) ∧ 2 ^ (64 * j + Lib.bitLen (limb Z j) - 1) ≤ Z) := ⟨by omega, bits_lt ht, bits_ge hn⟩
    have hlen := fun W => len64_any (limb Z j) W hl
    have HLEN := hideP hlen
    have cj' : (w.alloc (.cells #[.int .u64 (limb Z 0), .int .u64 (limb Z 1), .int .u64 (limb Z 2), .int .u64 (limb Z 3)] 59)).cell? ⟨w.heap.size, j, none⟩ = some (.int .u64 (limb Z j)) := blk_cell (heap_new _ _) (get4 _ (by omega))
    generalize Lib.bitLen (limb Z j) = bl at HR HLEN p1 p2
    have e0 : IntKind.i64.wrap ((j : Int) + 1 - 1) = (j : Int) := by rw [IntKind.wrap_i64]; omega
    have e0' : IntKind.i64.wrap (j : Int) = (j : Int) := by rw [IntKind.wrap_i64]; omega
    have e1 : IntKind.i64.wrap (64 * (j : Int)) = 64 * (j : Int) := by rw [IntKind.wrap_i64]; omega
    have e2 : IntKind.i64.wrap (64 * (j : Int) + bl) = 64 * (j : Int) + bl := by rw [IntKind.wrap_i64]; omega
    have hj4 : (j : Int) < 4 := by omega
    have hj0 : ¬ ((j : Int) + 1 = 0) := by omega
    clear hz hnz hk ht hn hl hlen h0
    go_wp2_with (go_at_call 84; refine (HLEN.out _).mono ?_; rintro e w' ⟨rfl, rfl⟩)
    go_ret
    refine ⟨⟨64 * j + bl, by simp, HR.out.1, HR.out.2.1, fun _ => HR.out.2.2⟩, ?_⟩
    repeat first | exact Below.refl _ _ | apply Below.drew | (refine Below.alloc ?_ (by simp <;> omega) _) | (refine Below.setCell ?_ (by simp <;> omega) _)

set_option maxHeartbeats 4000000 in
set_option maxRecDepth 100000 in
theorem least_any (X : Nat) (w : World) : Calls Try.prog 66 #[wv X] w fun e w' => (∃ v, e = .returned v ∧ LRow w.heap.size w' X v) ∧ Below w.heap.size w w' := by
    have c1 := fun W => bits_any X W
    have c2 := fun W => bytes_any X W
    obtain ⟨x0, x1, x2, x3, hx⟩ := wv_form X
    simp only [hx] at c1 c2 ⊢
    unfold b32 at c2
    have C1 := hideP c1
    have C2 := hideP c2
    clear c1 c2 hx
    go_enter Try.func66, Try.ntmps66
    go_wp2_with fail
    refine at_world_q (fun W0 hW0 => ?_)
    have HBx : W0.heap[w.heap.size]? = some (.cells #[.int .u64 x0, .int .u64 x1, .int .u64 x2, .int .u64 x3] 59 (0, 0)) := by
      rw [hW0]; simp only [World.alloc, Array.getElem?_push]; simp
    have HBW : Hid (Below w.heap.size w W0) := by
      show Below _ _ _
      rw [hW0]
      repeat first | exact Below.refl _ _ | (refine Below.alloc ?_ (by simp <;> omega) _)
    clear hW0
    refine (C2.out _).mono ?_
    rintro e W2 ⟨rfl, hb⟩
    replace HBx := (hb.block _ (lt_of_block HBx)).trans HBx
    replace HBW := hideP (HBW.out.trans (hb.mono HBW.out.size))
    have HBW0 := hideP HBW.out.size
    clear hb C2
    have HN := hideP (heap_new W2 (.cells (c32 (fun _ => 0)) 128 (0, 0)))
    rw [← zero32] at HN
    go_wp2_with (refine wpList_store_mid rfl 128 _ _ rfl W2.heap.size 0 (c32 (fun j => byt X (31 - j))) rfl rfl (there32 (g := fun _ => 0) HN.out) size52 (oneCell32 _) ?_; refine Hid.out ?_)
    refine hideP ?_
    have h1 := But.sets (c32 (fun j => byt X (31 - j))).toList 0 (But.refl W2.heap.size (W2.alloc (.cells #[.int .u8 0, .int .u8 0, .int .u8 0, .int .u8 0, .int .u8 0, .int .u8 0, .int .u8 0, .int .u8 0, .int .u8 0, .int .u8 0, .int .u8 0, .int .u8 0, .int .u8 0, .int .u8 0, .int .u8 0, .int .u8 0, .int .u8 0, .int .u8 0, .int .u8 0, .int .u8 0, .int .u8 0, .int .u8 0, .int .u8 0, .int .u8 0, .int .u8 0, .int .u8 0, .int .u8 0, .int .u8 0, .int .u8 0, .int .u8 0, .int .u8 0, .int .u8 0] 128 (0, 0))))
    have h2 := blk_sets (c32 (fun j => byt X (31 - j))).toList 0 (show (W2.alloc (.cells #[.int .u8 0, .int .u8 0, .int .u8 0, .int .u8 0, .int .u8 0, .int .u8 0, .int .u8 0, .int .u8 0, .int .u8 0, .int .u8 0, .int .u8 0, .int .u8 0, .int .u8 0, .int .u8 0, .int .u8 0, .int .u8 0, .int .u8 0, .int .u8 0, .int .u8 0, .int .u8 0, .int .u8 0, .int .u8 0, .int .u8 0, .int .u8 0, .int .u8 0, .int .u8 0, .int .u8 0, .int .u8 0, .int .u8 0, .int .u8 0, .int .u8 0, .int .u8 0] 128 (0, 0))).heap[W2.heap.size]? = some (.cells (c32 (fun _ => 0)) 128 (0, 0)) from HN.out)
    rw [putAll32] at h2
    have hlr := lt_of_block HBx
    have hlt4 : W2.heap.size < (((W2.alloc (.cells #[.int .u8 0, .int .u8 0, .int .u8 0, .int .u8 0, .int .u8 0, .int .u8 0, .int .u8 0, .int .u8 0, .int .u8 0, .int .u8 0, .int .u8 0, .int .u8 0, .int .u8 0, .int .u8 0, .int .u8 0, .int .u8 0, .int .u8 0, .int .u8 0, .int .u8 0, .int .u8 0, .int .u8 0, .int .u8 0, .int .u8 0, .int .u8 0, .int .u8 0, .int .u8 0, .int .u8 0, .int .u8 0, .int .u8 0, .int .u8 0, .int .u8 0, .int .u8 0] 128 (0, 0))).setCells W2.heap.size 0 (c32 (fun j => byt X (31 - j))).toList)).heap.size := lt_of_block h2
    replace HBx := (h1.same _ (by omega)).trans ((heap_old W2 (.cells #[.int .u8 0, .int .u8 0, .int .u8 0, .int .u8 0, .int .u8 0, .int .u8 0, .int .u8 0, .int .u8 0, .int .u8 0, .int .u8 0, .int .u8 0, .int .u8 0, .int .u8 0, .int .u8 0, .int .u8 0, .int .u8 0, .int .u8 0, .int .u8 0, .int .u8 0, .int .u8 0, .int .u8 0, .int .u8 0, .int .u8 0, .int .u8 0, .int .u8 0, .int .u8 0, .int .u8 0, .int .u8 0, .int .u8 0, .int .u8 0, .int .u8 0, .int .u8 0] 128 (0, 0)) hlr).trans HBx)
    replace HBW := hideP ((HBW.out.alloc HBW.out.size (.cells #[.int .u8 0, .int .u8 0, .int .u8 0, .int .u8 0, .int .u8 0, .int .u8 0, .int .u8 0, .int .u8 0, .int .u8 0, .int .u8 0, .int .u8 0, .int .u8 0, .int .u8 0, .int .u8 0, .int .u8 0, .int .u8 0, .int .u8 0, .int .u8 0, .int .u8 0, .int .u8 0, .int .u8 0, .int .u8 0, .int .u8 0, .int .u8 0, .int .u8 0, .int .u8 0, .int .u8 0, .int .u8 0, .int .u8 0, .int .u8 0, .int .u8 0, .int .u8 0] 128 (0, 0))).trans (h1.below.mono HBW.out.size))
    have HB := hideP h2
    have HS2 := hideP (HBW0.out)
    clear h1 h2 hlr HN HBW0
    (try simp only [put_none])
    generalize (W2.alloc (.cells #[.int .u8 0, .int .u8 0, .int .u8 0, .int .u8 0, .int .u8 0, .int .u8 0, .int .u8 0, .int .u8 0, .int .u8 0, .int .u8 0, .int .u8 0, .int .u8 0, .int .u8 0, .int .u8 0, .int .u8 0, .int .u8 0, .int .u8 0, .int .u8 0, .int .u8 0, .int .u8 0, .int .u8 0, .int .u8 0, .int .u8 0, .int .u8 0, .int .u8 0, .int .u8 0, .int .u8 0, .int .u8 0, .int .u8 0, .int .u8 0, .int .u8 0, .int .u8 0] 128 (0, 0))).setCells W2.heap.size 0 (c32 (fun j => byt X (31 - j))).toList = W4 at HBx HBW HB hlt4 ⊢
    generalize W2.heap.size = B at HB HS2 hlt4 ⊢
    obtain ⟨cx0, cx1, cx2, cx3⟩ := cells4 HBx
    have hlx := lt_of_block HBx
    go_wp2_with fail
    refine (C1.out _).mono ?_
    rintro e W5 ⟨⟨n, rfl, h256, hlo, hhi⟩, hb⟩
    have hLB := LB.ofBits h256 hlo hhi
    replace HB := hideP ((hb.block _ hlt4).trans HB.out)
    replace HBW := hideP (HBW.out.trans (hb.mono HBW.out.size))
    have hlt5 : B < W5.heap.size := lt_of_block HB.out
    clear cx0 cx1 cx2 cx3 hlx HBx C1 hb hlo hhi hlt4
    have e1 : IntKind.i64.wrap ((n : Int) + 7) = (n : Int) + 7 := by rw [IntKind.wrap_i64]; omega
    have e2 : ((n : Int) + 7).tdiv 8 = (((n + 7) / 8 : Nat) : Int) := by rw [Int.tdiv_eq_ediv_of_nonneg (by omega)]; omega
    have hm := hLB.le
    have HLB := hideP hLB
    clear hLB h256
    generalize (n + 7) / 8 = m at *
    have e3 : IntKind.i64.wrap ((m : Nat) : Int) = ((m : Nat) : Int) := by rw [IntKind.wrap_i64]; omega
    have e4 : IntKind.i64.wrap (32 - (m : Int)) = ((32 - m : Nat) : Int) := by rw [IntKind.wrap_i64]; omega
    obtain ⟨i0, hi, hz0, hz1, hz2⟩ := info_parts Try.bytes5
    have HM := hideP hm
    clear hm
    go_wp2_with (at_make; refine wpList_make_full _ rfl _ _ 23 rfl W5.heap.size 5 i0 (.int .u8 0) 1 Try.underlying23 hi hz0 hz1 _ _ _ _ m rfl rfl rfl rfl ?b2 ?b3 (Nat.le_refl _) ?_)
    case b2 => have := HM.out; rw [hz2]; omega
    case b3 => have := HM.out; unfold maxLen; omega
    intro W6 hown hgrow
    have hm := HM.out
    obtain ⟨cur, hg, _, _, hmx, hcur, _⟩ := own_row hown
    have hb6 : Below W5.heap.size W5 W6 := (Below.refl _ _).grown hgrow (Nat.le_refl _) (fun k h => by cases h)
    replace HB := hideP ((hb6.block _ hlt5).trans HB.out)
    replace HBW := hideP (HBW.out.trans (hb6.mono HBW.out.size))
    obtain ⟨sp, hsp, hsl⟩ := slice32 B (32 - m) (by omega)
    rw [show 32 - (32 - m) = m by omega] at hsl
    have hlen : ((List.range m).map (fun j => Value.int .u8 (lowB X m j))).length = m := by simp
    obtain ⟨W7, hrun, hg7, hgrow7⟩ := copy_run (P := Try.prog) W6 23 3 5 Try.underlying23 Try.size5 (some ⟨W5.heap.size, 0, none⟩) (some ⟨B, sp, none⟩) m m m m W5.heap.size 0 cur 5 hg ((List.range m).map (fun j => Value.int .u8 (lowB X m j))) (by rw [hlen]; simp) (fun h => ⟨rfl, ⟨B, sp, none⟩, rfl, fun j v hv => by
      rw [hlen] at h
      rw [hsp (by omega)]
      simp only [List.getElem?_map, Option.map_eq_some_iff] at hv
      obtain ⟨x, hx, rfl⟩ := hv
      obtain ⟨hj, rfl⟩ := List.getElem?_eq_some_iff.1 hx
      simp only [List.length_range] at hj
      rw [Addr.add_mid, List.getElem_range, blk_cell HB.out (get32 _ (show 32 - m + j < 32 by omega))]
      unfold lowB
      rw [show 31 - (32 - m + j) = m - 1 - j by omega]⟩) (by rw [hlen]; omega) (by
      intro v hv
      simp only [List.mem_map] at hv
      obtain ⟨x, _, rfl⟩ := hv
      rfl)
    rw [hlen] at hrun
    have HL7 : Hid (Below w.heap.size w W7) := HBW.out.grown hgrow7 HBW.out.size (fun k h => by cases h; exact Nat.le_trans HS2.out (by omega))
    have HR : Hid (LRow w.heap.size W7 X (.slice (some ⟨W5.heap.size, 0, none⟩) m m)) := by
      refine ⟨⟨m, m, W5.heap.size, 0, rfl, HLB.out, (by have := HS2.out; omega), lt_of_block hg7, Nat.le_refl _, hm, fun j hj => ?_⟩⟩
      rw [Nat.zero_add]
      refine blk_cell hg7 ?_
      rw [List.getElem?_toArray]
      unfold splice
      rw [List.take_zero, List.nil_append, List.getElem?_append_left (by rw [hlen]; exact hj)]
      simp [hj]
    clear hg7 hgrow7 hg hown hgrow hb6 hcur hmx hlen hsp HM hm HLB
    go_wp2_with fail
    go_ret
    exact ⟨⟨_, rfl, HR.out⟩, HL7.out⟩

namespace Sh
theorem or_add {a b Q : Nat} {p : Nat} (hQ : Q = 2 ^ p) (hb : b < Q) : a * Q ||| b = a * Q + b := by
  subst hQ
  rw [Nat.mul_comm]
  exact (Nat.two_pow_add_eq_or_of_lt hb a).symm

end Sh

/-- The number of the lowest k of n bytes, the highest first. -/
def rdv (bs : Nat → Nat) (n : Nat) : Nat → Nat
  | 0 => 0
  | k + 1 => rdv bs n k + bs (n - 1 - k) * 2 ^ (8 * k)

theorem rdv_lt (bs : Nat → Nat) (n : Nat) (h : ∀ j, bs j < 256) : ∀ k, rdv bs n k < 2 ^ (8 * k)
  | 0 => by simp [rdv]
  | k + 1 => by
    have h1 := rdv_lt bs n h k
    have h2 : (bs (n - 1 - k) + 1) * 2 ^ (8 * k) ≤ 256 * 2 ^ (8 * k) := Nat.mul_le_mul_right _ (h _)
    rw [show 8 * (k + 1) = 8 * k + 8 by omega, Nat.pow_add, show (2 : Nat) ^ 8 = 256 by decide, Nat.mul_comm _ 256]
    rw [Nat.add_mul, Nat.one_mul] at h2
    unfold rdv
    omega

theorem pow_byte (k : Nat) : 2 ^ (8 * k) = 18446744073709551616 ^ (k / 8) * 2 ^ (8 * (k % 8)) := by
  rw [show (18446744073709551616 : Nat) = 2 ^ 64 by decide, ← Nat.pow_mul, ← Nat.pow_add]
  congr 1
  omega

theorem limb_add_byte (V b k j : Nat) (hV : V < 2 ^ (8 * k)) (hb : b < 256) : limb (V + b * 2 ^ (8 * k)) j = if j = k / 8 then limb V j + b * 2 ^ (8 * (k % 8)) else limb V j := by
  have hs := Nat.mod_lt k (show 0 < 8 by decide)
  have hL : (0 : Nat) < 18446744073709551616 ^ j := Nat.pow_pos (by decide)
  rcases Nat.lt_trichotomy j (k / 8) with h | h | h
  · rw [if_neg (by omega)]
    obtain ⟨t, ht⟩ : ∃ t, k / 8 = j + (t + 1) := ⟨k / 8 - j - 1, by omega⟩
    unfold limb
    rw [pow_byte k, ht, Nat.pow_add, Nat.pow_succ,
      show b * (18446744073709551616 ^ j * (18446744073709551616 ^ t * 18446744073709551616) * 2 ^ (8 * (k % 8))) = 18446744073709551616 ^ j * (18446744073709551616 * (b * 18446744073709551616 ^ t * 2 ^ (8 * (k % 8)))) by
        rw [Nat.mul_left_comm, Nat.mul_comm (18446744073709551616 ^ t) 18446744073709551616]
        simp only [Nat.mul_assoc, Nat.mul_comm b], Nat.add_mul_div_left _ _ hL, Nat.add_mul_mod_self_left]
  · rw [if_pos h]
    unfold limb
    have h1 : V / 18446744073709551616 ^ j < 2 ^ (8 * (k % 8)) := by
      rw [Nat.div_lt_iff_lt_mul hL, Nat.mul_comm, h, ← pow_byte]; exact hV
    have h2 : 256 * 2 ^ (8 * (k % 8)) ≤ 18446744073709551616 := by
      rw [show (256 : Nat) = 2 ^ 8 by decide, ← Nat.pow_add, show (18446744073709551616 : Nat) = 2 ^ 64 by decide]; exact Nat.pow_le_pow_right (by decide) (by omega)
    have h3 : (b + 1) * 2 ^ (8 * (k % 8)) ≤ 256 * 2 ^ (8 * (k % 8)) := Nat.mul_le_mul_right _ hb
    rw [Nat.add_mul, Nat.one_mul] at h3
    have h4 : b * 2 ^ (8 * k) = 18446744073709551616 ^ j * (b * 2 ^ (8 * (k % 8))) := by rw [pow_byte k, ← h, Nat.mul_left_comm]
    rw [h4, Nat.add_mul_div_left _ _ hL]
    generalize b * 2 ^ (8 * (k % 8)) = c at *
    rw [Nat.mod_eq_of_lt (by omega), Nat.mod_eq_of_lt (by omega)]
  · rw [if_neg (by omega)]
    unfold limb
    have h1 : 256 * 2 ^ (8 * k) ≤ 18446744073709551616 ^ j := by
      rw [show (256 : Nat) = 2 ^ 8 by decide, ← Nat.pow_add, show (18446744073709551616 : Nat) = 2 ^ 64 by decide, ← Nat.pow_mul]; exact Nat.pow_le_pow_right (by decide) (by omega)
    have h3 : (b + 1) * 2 ^ (8 * k) ≤ 256 * 2 ^ (8 * k) := Nat.mul_le_mul_right _ hb
    rw [Nat.add_mul, Nat.one_mul] at h3
    rw [Nat.div_eq_of_lt (by omega), Nat.div_eq_of_lt (by omega)]

theorem limb_low (V k : Nat) (hV : V < 2 ^ (8 * k)) : limb V (k / 8) < 2 ^ (8 * (k % 8)) := by
  unfold limb
  refine Nat.lt_of_le_of_lt (Nat.mod_le _ _) ?_
  rw [Nat.div_lt_iff_lt_mul (Nat.pow_pos (by decide)), Nat.mul_comm, ← pow_byte]
  exact hV

/-- Where a word that is read has come to. -/
structure RI (t : Nat) (w wr : World) (V : Nat) : Prop where
  r : wr.heap[w.heap.size]? = some (.cells (c4 (fun _ => 0)) t (0, 0))
  x : wr.heap[w.heap.size + 1]? = some (.cells (c4 (limb V)) t (0, 0))
  b : Below w.heap.size w wr

theorem RI.put {t : Nat} {w wr : World} {V j v V' : Nat} (I : RI t w wr V) (hj : j < 4) (hV : (fun i => if i = j then v else limb V i) = limb V') : RI t w (wr.drew.setCell ⟨w.heap.size + 1, j, none⟩ (.int .u64 v)) V' := by
  refine ⟨(Below.heap_setCell wr.drew _ _ _ (by show w.heap.size ≠ w.heap.size + 1; omega)).trans I.r, ?_, I.b.drew.setCell (p := ⟨w.heap.size + 1, j, none⟩) (by simp <;> omega) _⟩
  have h := blk_set (w := wr.drew) (o := j) I.x (.int .u64 v)
  rw [cset4 _ v hj, hV] at h
  exact h

theorem results_cell_tmp {P : Program} {fn : Func} {ts : Array Value} {w : World} {j k ty : Nat} {p : Addr} {u : Value} (hf : fn.results = #[.cell j ty, .tmp k]) (hj : ts.getD j undef = .pointer (some p)) (h1 : (loadVar ty p).run P w = .ok u w) :
    (results fn ts).run P w = .ok (.tuple #[u, ts.getD k undef]) w := by
  unfold results
  rw [hf]
  rw [Array.getD_eq_getD_getElem?] at hj
  simp [hj, asAddr, h1]

theorem under24 : Try.prog.underlying 59 = some (.array 4 57) := by kernel_rfl

theorem size24 : (Try.prog.info? 59).map (·.size) = some 4 := by kernel_rfl

set_option maxHeartbeats 4000000 in
set_option maxRecDepth 100000 in
theorem read_any (bs : Nat → Nat) (hbs : ∀ j, bs j < 256) (n cap blk off : Nat) (hn : n ≤ 32) (w : World) (hblk : blk < w.heap.size) (hc : ∀ j, j < n → w.cell? ⟨blk, off + j, none⟩ = some (.int .u8 (bs j))) :
    Calls Try.prog 76 #[.slice (some ⟨blk, off, none⟩) n cap] w fun e w' => e = .returned (.tuple #[wv (rdv bs n n), .int .i64 0]) ∧ Below w.heap.size w w' := by
  have HBS := hideP hbs
  have HC := hideP hc
  have HBL := hideP hblk
  have HNN := hideP hn
  generalize hres : wv (rdv bs n n) = res
  have HRES := hideP hres
  clear hres hbs hc hblk
  have g0 : ¬ (n : Int) > 32 := by omega
  have g0' : ¬ (32 : Int) < (n : Int) := by omega
  clear hn
  have HE : Hid (RI 59 w ((w.alloc (.cells #[.int .u64 0, .int .u64 0, .int .u64 0, .int .u64 0] 59 (0, 0))).alloc (.cells #[.int .u64 0, .int .u64 0, .int .u64 0, .int .u64 0] 59 (0, 0))) (rdv bs n 0)) :=
    ⟨(heap_old _ _ (by simp)).trans (heap_new _ _), by rw [show limb (rdv bs n 0) = fun _ => 0 from limb_nought]; exact heap_new1 _ _ _, ((Below.refl _ w).alloc (Nat.le_refl _) _).alloc (by simp) _⟩
  go_enter Try.func76, Try.ntmps76
  go_wp2_with fail
  generalize (w.alloc (.cells #[.int .u64 0, .int .u64 0, .int .u64 0, .int .u64 0] 59 (0, 0))).alloc (.cells #[.int .u64 0, .int .u64 0, .int .u64 0, .int .u64 0] 59 (0, 0)) = W2 at HE ⊢
  rename_i Q' K hK
  have HK := hideP hK
  clear hK
  go_loopw [12] (fun i wr => ∃ (k : Nat), k ≤ n ∧ i = .int .i64 k ∧ RI 59 w wr (rdv bs n k)) (fun i _ => n - (intOf i).toNat)
  case atStart => exact ⟨0, Nat.zero_le _, rfl, HE.out⟩
  case round =>
    obtain ⟨k, hk, rfl, I⟩ := hrel
    have HI := hideP I
    clear I HE
    have hn := HNN.out
    by_cases hlt : k < n
    · have HN : Hid (k < n) := hlt
      have hV := rdv_lt bs n HBS.out k
      have hb := HBS.out (n - 1 - k)
      have hlow := limb_low _ k hV
      have hadd : (fun i => if i = k / 8 then limb (rdv bs n k) (k / 8) + bs (n - 1 - k) * 2 ^ (8 * (k % 8)) else limb (rdv bs n k) i) = limb (rdv bs n (k + 1)) := by
        funext j
        show _ = limb (rdv bs n k + bs (n - 1 - k) * 2 ^ (8 * k)) j
        rw [limb_add_byte _ _ k j hV hb]
        by_cases hj : j = k / 8
        · rw [if_pos hj, if_pos hj, hj]
        · rw [if_neg hj, if_neg hj]
      have hsum : limb (rdv bs n k) (k / 8) + bs (n - 1 - k) * 2 ^ (8 * (k % 8)) < 18446744073709551616 := by
        have h := limb_add_byte _ _ k (k / 8) hV hb
        rw [if_pos rfl] at h
        rw [← h]
        exact limb_lt _ _
      have cx := blk_cell HI.out.x (cget4 (limb (rdv bs n k)) (show k / 8 < 4 by omega))
      have fx : ∀ o, wr.frozen? ⟨w.heap.size + 1, o, none⟩ = false := fun o => blk_free HI.out.x
      have cb := (HI.out.b.cell (p := ⟨blk, off + (n - 1 - k), none⟩) HBL.out).trans (HC.out (n - 1 - k) (by omega))
      have HP := hideP (HI.out.put (show k / 8 < 4 by omega) hadd)
      have g1 : (k : Int) < (n : Int) := by omega
      have e0 : IntKind.i64.wrap ((n : Int) - 1) = ((n - 1 : Nat) : Int) := by rw [IntKind.wrap_i64]; omega
      have e0' : IntKind.i64.wrap (((n - 1 : Nat) : Int) - (k : Int)) = ((n - 1 - k : Nat) : Int) := by rw [IntKind.wrap_i64]; omega
      have g2 : ((n - 1 - k : Nat) : Int) < (n : Int) := by omega
      have g2' : n - 1 - k < n := by omega
      have e1 : ((k : Int)).tdiv 8 = ((k / 8 : Nat) : Int) := by rw [Int.tdiv_eq_ediv_of_nonneg (by omega)]; omega
      have e1' : IntKind.i64.wrap ((k / 8 : Nat) : Int) = ((k / 8 : Nat) : Int) := by rw [IntKind.wrap_i64]; omega
      have g3 : ((k / 8 : Nat) : Int) < 4 := by omega
      have e2 : ((k : Int)).tmod 8 = ((k % 8 : Nat) : Int) := by rw [Int.tmod_eq_emod_of_nonneg (by omega)]; omega
      have e2' : IntKind.i64.wrap ((k % 8 : Nat) : Int) = ((k % 8 : Nat) : Int) := by rw [IntKind.wrap_i64]; omega
      have e3 : IntKind.i64.wrap (8 * ((k % 8 : Nat) : Int)) = ((8 * (k % 8) : Nat) : Int) := by rw [IntKind.wrap_i64]; omega
      have g4 : ((8 * (k % 8) : Nat) : Int) < 64 := by omega
      have e4 : IntKind.i64.wrap ((k : Int) + 1) = (k : Int) + 1 := by rw [IntKind.wrap_i64]; omega
      have e5 : IntKind.u64.wrap ((bs (n - 1 - k) : Nat) : Int) = ((bs (n - 1 - k) : Nat) : Int) := by rw [IntKind.wrap_u64]; omega
      have hp : ((bs (n - 1 - k) : Nat) : Int) * 2 ^ (8 * (k % 8)) = ((bs (n - 1 - k) * 2 ^ (8 * (k % 8)) : Nat) : Int) := by simp
      have e6 : IntKind.u64.wrap (((bs (n - 1 - k) : Nat) : Int) * 2 ^ (8 * (k % 8))) = ((bs (n - 1 - k) * 2 ^ (8 * (k % 8)) : Nat) : Int) := by rw [hp]; exact M64.wrapN _ (by omega)
      have e7 : bits .or .u64 ((limb (rdv bs n k) (k / 8) : Nat) : Int) ((bs (n - 1 - k) * 2 ^ (8 * (k % 8)) : Nat) : Int) = ((limb (rdv bs n k) (k / 8) + bs (n - 1 - k) * 2 ^ (8 * (k % 8)) : Nat) : Int) := by
        rw [bits_or_u64_nat _ _ (by omega) (by omega), Nat.or_comm, Sh.or_add rfl hlow, Nat.add_comm]
      clear hlt hk hV hb hlow hadd hsum hp hn HI
      generalize bs (n - 1 - k) * 2 ^ (8 * (k % 8)) = bsh at *
      generalize limb (rdv bs n k) (k / 8) + bsh = sm at *
      generalize limb (rdv bs n k) (k / 8) = lx at *
      generalize bs (n - 1 - k) = bk at *
      generalize n - 1 - k = nk at *
      generalize n - 1 = n1 at *
      generalize k / 8 = kq at *
      generalize 8 * (k % 8) = sh at *
      generalize k % 8 = kr at *
      go_wp2_with fail
      go_region
      go_wp2_with fail
      refine ⟨⟨k + 1, HN.out, by go_num, HP.out⟩, by have := HN.out; simp [intOf]; omega⟩
    · have hk6 : k = n := by omega
      subst hk6
      have g1 : ¬ ((k : Nat) : Int) < (k : Int) := by omega
      clear hlt hk hn
      go_wp2_with fail
      refine HK.out _ _ ?_
      have lx := rangeOf HI.out.x
      refine wp_seq ?_
      refine wp_region_list ?_
      refine wpList_load_mid rfl 59 _ rfl (w.heap.size + 1) 0 rfl (c4 (limb (rdv bs k k))).toList _ lx under24 rfl size24 ?_
      refine wpList_store_mid rfl 59 _ _ rfl w.heap.size 0 (c4 (limb (rdv bs k k))) rfl rfl (there4 HI.out.r) size24 (oneCell4 _) ?_
      have hb2 := blk_sets (c4 (limb (rdv bs k k))).toList 0 HI.out.r
      rw [putAll4] at hb2
      have HL := hideP (HI.out.b.trans ((But.sets (c4 (limb (rdv bs k k))).toList 0 (But.refl w.heap.size wr)).below.mono (by omega)))
      have HB2 := hideP hb2
      clear hb2 HI lx
      (try simp only [put_none])
      generalize wr.setCells w.heap.size 0 (c4 (limb (rdv bs k k))).toList = w2 at HL HB2 ⊢
      go_wp2_with fail
      refine bodyPost_ret_by (results_cell_tmp rfl rfl (run_loadVar_mid _ _ 0 59 (c4 (limb (rdv bs k k))).toList _ (rangeOf HB2.out) under24 rfl size24)) rfl ⟨?_, HL.out⟩
      rw [← HRES.out, wv_c4]
      rfl

end Go.Proofs.Ytigebmidfddbcaa
