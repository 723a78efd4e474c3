/-
  The document's differences of long numbers.
-/
import Derived.Test.YtpnijncoldihfaaTextsC18
import Derived.Test.YtpnijncoldihfaaTextsC21
import Derived.Test.YtpnijncoldihfaaTextsC20
import Derived.Test.YtpnijncoldihfaaTextsC02
import Derived.Test.YtpnijncoldihfaaTextsC01
import Derived.Test.YtpnijncoldihfaaTextsC03
import Derived.Test.YtpnijncoldihfaaTextsC15
namespace Go.Proofs.Ytpnijncoldihfaa
open Go.RowKit Go.Shelf

theorem long_lt {A B k : Nat} (hA : A < 4294967296 ^ 17) (hB : B < 4294967296 ^ 17) (hk : k < 17) (heq : ∀ j, k + 1 ≤ j → j < 17 → dg A j = dg B j) (hlt : dg A k < dg B k) : A < B := by
  have eA := vl_dg A 17
  have eB := vl_dg B 17
  rw [Nat.mod_eq_of_lt hA] at eA
  rw [Nat.mod_eq_of_lt hB] at eB
  obtain ⟨n, hn⟩ : ∃ n, 17 = k + 1 + n := ⟨16 - k, by omega⟩
  rw [hn, vl_add] at eA eB
  have hc : vl (fun j => dg A (k + 1 + j)) n = vl (fun j => dg B (k + 1 + j)) n := vl_congr n (fun j hj => heq _ (by omega) (by omega))
  rw [hc] at eA
  have h1 := vl_lt k (fun j _ => dg_lt A j)
  have h2 : (dg A k + 1) * 4294967296 ^ k ≤ dg B k * 4294967296 ^ k := Nat.mul_le_mul_right _ hlt
  rw [Nat.add_mul, Nat.one_mul] at h2
  have eA' : vl (dg A) (k + 1) = vl (dg A) k + dg A k * 4294967296 ^ k := rfl
  have eB' : vl (dg B) (k + 1) = vl (dg B) k + dg B k * 4294967296 ^ k := rfl
  omega

theorem long_eq {A B : Nat} (hA : A < 4294967296 ^ 17) (hB : B < 4294967296 ^ 17) (heq : ∀ j, j < 17 → dg A j = dg B j) : A = B := by
  have eA := vl_dg A 17
  have eB := vl_dg B 17
  rw [Nat.mod_eq_of_lt hA] at eA
  rw [Nat.mod_eq_of_lt hB] at eB
  rw [← eA, ← eB]
  exact vl_congr 17 heq

/-- Where a comparison has come to. -/
structure OI (w wr : World) (A B k : Nat) : Prop where
  a : wr.heap[w.heap.size]? = some (.cells (c17 (dg A)) 76 (0, 0))
  b : wr.heap[w.heap.size + 1]? = some (.cells (c17 (dg B)) 76 (0, 0))
  e : ∀ j, k ≤ j → j < 17 → dg A j = dg B j
  l : Below w.heap.size w wr

theorem OI.start (w : World) (A B : Nat) : OI w ((w.alloc (.cells (c17 (dg A)) 76 (0, 0))).alloc (.cells (c17 (dg B)) 76 (0, 0))) A B 17 := by
  refine ⟨?_, ?_, fun j h1 h2 => absurd h2 (by omega), ?_⟩
  · simp only [World.alloc, Array.getElem?_push, Array.size_push]; simp
  · simp only [World.alloc, Array.getElem?_push, Array.size_push]; simp
  · refine Below.alloc ?_ (by simp <;> omega) _
    refine Below.alloc ?_ (by simp <;> omega) _
    exact Below.refl _ _

set_option maxHeartbeats 2000000 in
set_option maxRecDepth 100000 in
theorem order_any (A B : Nat) (hA : A < 4294967296 ^ 17) (hB : B < 4294967296 ^ 17) (w : World) : Calls Try.prog 86 #[lv A, lv B] w fun e w' => e = .returned (.int .i64 (cmpI A B)) ∧ Below w.heap.size w w' := by
  have HI0 := hideP (OI.start w A B)
  have HA := hideP hA
  have HB := hideP hB
  clear hA hB
  unfold lv
  generalize hca : c17 (dg A) = ca
  generalize hcb : c17 (dg B) = cb
  have HCA := hideP hca
  have HCB := hideP hcb
  clear hca hcb
  generalize hres : cmpI A B = res
  have HRES := hideP hres
  clear hres
  go_enter Try.func86, Try.ntmps86
  go_wp2_with fail
  go_loopw [5] (fun i wr => ∃ (k : Nat), k ≤ 17 ∧ i = .int .i64 ((k : Int) - 1) ∧ OI w wr A B k) (fun i _ => (intOf i + 1).toNat)
  case atStart =>
    refine ⟨17, Nat.le_refl _, rfl, ?_⟩
    rw [← HCA.out, ← HCB.out]
    exact HI0.out
  case round =>
    obtain ⟨k, hk, rfl, I⟩ := hrel
    have HI := hideP I
    clear I
    cases k with
    | zero =>
      have e0 : ((0 : Nat) : Int) - 1 = -1 := rfl
      have HR : Hid (res = 0) := by
        rw [← HRES.out, long_eq HA.out HB.out (fun j hj => HI.out.e j (by omega) hj)]
        show _ = _
        simp [cmpI]
      clear hk
      rw [e0]
      have g0 : ¬ (-1 : Int) ≥ 0 := by decide
      have g1 : ¬ (0 : Int) ≤ -1 := by decide
      clear e0
      go_wp2_with fail
      go_ret
      exact ⟨by rw [HR.out]; rfl, HI.out.l⟩
    | succ k =>
      have e0 : ((k + 1 : Nat) : Int) - 1 = (k : Int) := by omega
      rw [e0]
      have cA := blk_cell HI.out.a (get17 _ (show k < 17 by omega))
      have cB := blk_cell HI.out.b (get17 _ (show k < 17 by omega))
      have g0 : (k : Int) ≥ 0 := by omega
      have g1 : (0 : Int) ≤ (k : Int) := by omega
      have g2 : (k : Int) < 17 := by omega
      have e4 : IntKind.i64.wrap ((k : Int) - 1) = (k : Int) - 1 := by rw [IntKind.wrap_i64]; omega
      have HK1 := hideP hk
      by_cases h1 : dg A k < dg B k
      · have HR : Hid (res = -1) := by
          rw [← HRES.out]
          have := long_lt HA.out HB.out hk (fun j h2 h3 => HI.out.e j h2 h3) h1
          show _ = _
          simp [cmpI, this]
        have h1' : (dg A k : Int) < (dg B k : Int) := by omega
        clear hk h1 e0
        generalize dg A k = da at *
        generalize dg B k = db at *
        go_wp2_with fail
        go_region
        go_wp2_with fail
        go_ret
        exact ⟨by rw [HR.out]; rfl, HI.out.l.drew⟩
      · have h1' : ¬ (dg A k : Int) < (dg B k : Int) := by omega
        by_cases h2 : dg B k < dg A k
        · have HR : Hid (res = 1) := by
            rw [← HRES.out]
            have := long_lt HB.out HA.out hk (fun j h2 h3 => (HI.out.e j h2 h3).symm) h2
            have h3 : ¬ A < B := by omega
            show _ = _
            simp [cmpI, this, h3]
          have h2' : (dg B k : Int) < (dg A k : Int) := by omega
          clear hk h1 h2 e0
          generalize dg A k = da at *
          generalize dg B k = db at *
          go_wp2_with fail
          go_region
          go_wp2_with fail
          go_region
          go_wp2_with fail
          go_ret
          exact ⟨by rw [HR.out]; rfl, HI.out.l.drew.drew⟩
        · have h2' : ¬ (dg B k : Int) < (dg A k : Int) := by omega
          have HN : Hid (OI w wr.drew.drew A B k) := ⟨HI.out.a, HI.out.b, fun j h3 h4 => by
            by_cases h5 : j = k
            · subst h5; omega
            · exact HI.out.e j (by omega) h4, HI.out.l.drew.drew⟩
          clear hk h1 h2 e0
          generalize dg A k = da at *
          generalize dg B k = db at *
          go_wp2_with fail
          go_region
          go_wp2_with fail
          go_region
          go_wp2_with fail
          refine ⟨⟨k, by have := HK1.out; omega, rfl, HN.out⟩, by simp [intOf]⟩

end Go.Proofs.Ytpnijncoldihfaa

namespace Go.Proofs.Ytpnijncoldihfaa
open Go.RowKit Go.Shelf

/-- All but the box R is as it was; R is a box of four cells. -/
structure KeepT (t : Nat) (W0 : World) (R : Nat) (V : World) : Prop where
  same : ∀ b, b < W0.heap.size → b ≠ R → V.heap[b]? = W0.heap[b]?
  below : Below R W0 V
  res : ∃ z0 z1 z2 z3, V.heap[R]? = some (.cells #[z0, z1, z2, z3] t (0, 0))

section
variable {t : Nat} {W0 V V' : World} {R : Nat}
theorem KeepT.init {z0 z1 z2 z3 : Value} (h : W0.heap[R]? = some (.cells #[z0, z1, z2, z3] t (0, 0))) : KeepT t W0 R W0.drew :=
  ⟨fun _ _ _ => rfl, (Below.refl _ _).drew, z0, z1, z2, z3, h⟩

theorem KeepT.call (h : KeepT t W0 R V) (hb : Below V.heap.size V V') : KeepT t W0 R V' := by
  obtain ⟨z0, z1, z2, z3, hz⟩ := h.res
  have hs : W0.heap.size ≤ V.heap.size := h.below.size
  exact ⟨fun b h1 h2 => (hb.block b (by omega)).trans (h.same b h1 h2), h.below.trans (hb.mono (Nat.le_of_lt (lt_of_block hz))), z0, z1, z2, z3, (hb.block R (lt_of_block hz)).trans hz⟩

theorem KeepT.store (h : KeepT t W0 R V) (z0 z1 z2 z3 : Value) : KeepT t W0 R ((((V.setCell ⟨R, 0, none⟩ z0).setCell ⟨R, 1, none⟩ z1).setCell ⟨R, 2, none⟩ z2).setCell ⟨R, 3, none⟩ z3) := by
  obtain ⟨y0, y1, y2, y3, hz⟩ := h.res
  exact ⟨fun b h1 h2 => (other4 h2).trans (h.same b h1 h2), below_stored4 h.below (Nat.le_refl _), z0, z1, z2, z3, stored4 hz⟩

theorem KeepT.cells (h : KeepT t W0 R V) {b t' : Nat} {u0 u1 u2 u3 : Value} (hb : W0.heap[b]? = some (.cells #[u0, u1, u2, u3] t' (0, 0))) (hne : b ≠ R) :
    V.cell? ⟨b, 0, none⟩ = some u0 ∧ V.cell? ⟨b, 1, none⟩ = some u1 ∧ V.cell? ⟨b, 2, none⟩ = some u2 ∧ V.cell? ⟨b, 3, none⟩ = some u3 :=
  cells4 ((h.same b (lt_of_block hb) hne).trans hb)

theorem KeepT.room (h : KeepT t W0 R V) : ∃ z0 z1 z2 z3, V.cell? ⟨R, 0, none⟩ = some z0 ∧ V.cell? ⟨R, 1, none⟩ = some z1 ∧ V.cell? ⟨R, 2, none⟩ = some z2 ∧ V.cell? ⟨R, 3, none⟩ = some z3 ∧ ∀ o, V.frozen? ⟨R, o, none⟩ = false := by
  obtain ⟨z0, z1, z2, z3, hz⟩ := h.res
  obtain ⟨a, b, c, d⟩ := cells4 hz
  exact ⟨z0, z1, z2, z3, a, b, c, d, fun o => blk_free hz⟩

end

theorem at_world_q {P : Program} {f : FuncId} {args : Array Value} {w : World} {Q : Ending → World → Prop} (h : ∀ W0, W0 = w → Calls P f args W0 Q) : Calls P f args w Q := h w rfl

set_option maxRecDepth 100000 in
theorem refOf_any (n : Nat) (hn : n < 18446744073709551616) (w : World) : Calls Try.prog 22 #[.int .u64 n] w fun e w' => e = .returned (wv n) ∧ Below w.heap.size w w' := by
  have hr : Value.agg #[.int .u64 (n : Int), .int .u64 ((0 : Nat) : Int), .int .u64 ((0 : Nat) : Int), .int .u64 ((0 : Nat) : Int)] = wv n := by
    refine wv_num hn (by omega) (by omega) (by omega) ?_
    rw [Nat.mod_eq_of_lt (by unfold M256; omega)]
    unfold num
    omega
  have HR := hideP hr
  clear hr hn
  go_enter Try.func22, Try.ntmps22
  go_wp2
  refine bodyPost_ret (v := .agg #[.int .u64 (n : Int), .int .u64 0, .int .u64 0, .int .u64 0]) (by simp [results, Try.results22, go_sem]) rfl ⟨by rw [← HR.out]; rfl, ?_⟩
  repeat first | exact Below.refl _ _ | apply Below.drew | (refine Below.alloc ?_ (by simp <;> omega) _) | (refine Below.setCell ?_ (by simp <;> omega) _)

end Go.Proofs.Ytpnijncoldihfaa

namespace Go.Proofs.Ytpnijncoldihfaa
open Go.RowKit Go.Shelf

theorem eq_words (a b c d a' b' c' d' : Int) (W : World) : (Op.equalIn 10000 24 (.agg #[.int .u64 a, .int .u64 b, .int .u64 c, .int .u64 d]) (.agg #[.int .u64 a', .int .u64 b', .int .u64 c', .int .u64 d'])).run Try.prog W = .ok (a == a' && (b == b' && (c == c' && d == d'))) W := by
  have h : ∀ x y : Int, (Op.equalIn 9999 22 (.int .u64 x) (.int .u64 y)).run Try.prog W = .ok (x == y) W := fun x y => by
    unfold Op.equalIn
    simp [go_sem]
  unfold Op.equalIn
  simp [go_sem, List.range', h]
  by_cases h1 : a = a' <;> by_cases h2 : b = b' <;> by_cases h3 : c = c' <;> by_cases h4 : d = d' <;> simp [go_sem, h1, h2, h3, h4]

end Go.Proofs.Ytpnijncoldihfaa

namespace Go.Proofs.Ytpnijncoldihfaa
open Go.RowKit Go.Shelf

set_option maxHeartbeats 2000000 in
set_option maxRecDepth 100000 in
theorem same_any (X : Nat) (w : World) : Calls Try.prog 20 #[wv X, wv X] w fun e w' => e = .returned (.bool true) ∧ Below w.heap.size w w' := by
  obtain ⟨x0, x1, x2, x3, hx⟩ := wv_form X
  rw [hx]
  have heq : ∀ W : World, (Op.equalIn 10000 24 (.agg #[.int .u64 x0, .int .u64 x1, .int .u64 x2, .int .u64 x3]) (.agg #[.int .u64 x0, .int .u64 x1, .int .u64 x2, .int .u64 x3])).run Try.prog W = .ok true W := fun W => by rw [eq_words]; simp
  clear hx
  go_enter Try.func20, Try.ntmps20
  go_wp2_with fail
  go_ret
  refine ⟨rfl, ?_⟩
  repeat first | exact Below.refl _ _ | apply Below.drew | (refine Below.alloc ?_ (by simp <;> omega) _) | (refine Below.setCell ?_ (by simp <;> omega) _)

end Go.Proofs.Ytpnijncoldihfaa

namespace Go.Proofs.Ytpnijncoldihfaa
open Go.RowKit Go.Shelf

theorem rangeOf {w : World} {b t : Nat} {C : Array Value} (h : w.heap[b]? = some (.cells C t (0, 0))) : w.rangeAt b 0 C.toList := fun j v hv =>
  blk_cell (o := 0 + j) (v := v) h (by rw [Nat.zero_add]; rw [Array.getElem?_toList] at hv; exact hv)

theorem thereOf {w : World} {b t : Nat} {C : Array Value} (h : w.heap[b]? = some (.cells C t (0, 0))) : w.there b 0 C.size := fun j hj =>
  ⟨(rangeOf h).isSome j (by rw [Array.length_toList]; exact hj), blk_free h⟩

end Go.Proofs.Ytpnijncoldihfaa

namespace Go.Proofs.Ytpnijncoldihfaa
open Go.RowKit Go.Shelf

/-- Four cells. -/
def c4 (g : Nat → Nat) : Array Value := #[.int .u64 (g 0), .int .u64 (g 1), .int .u64 (g 2), .int .u64 (g 3)]

theorem wv_c4 (X : Nat) : wv X = .agg (c4 (limb X)) := wv_limb X

theorem cget4 (g : Nat → Nat) {j : Nat} (h : j < 4) : (c4 g)[j]? = some (.int .u64 (g j)) := by
  match j, h with
  | 0, _ => rfl
  | 1, _ => rfl
  | 2, _ => rfl
  | 3, _ => rfl
  | k + 4, h => exact absurd h (by omega)

theorem cset4 (g : Nat → Nat) {j : Nat} (v : Nat) (h : j < 4) : (c4 g).setIfInBounds j (.int .u64 v) = c4 (fun i => if i = j then v else g i) := by
  match j, h with
  | 0, _ => rfl
  | 1, _ => rfl
  | 2, _ => rfl
  | 3, _ => rfl
  | k + 4, h => exact absurd h (by omega)

theorem under23 : Try.prog.underlying 23 = some (.array 4 22) := by kernel_rfl

theorem size23 : (Try.prog.info? 23).map (·.size) = some 4 := by kernel_rfl

theorem oneCell4 (g : Nat → Nat) : (c4 g).all (·.oneCell') = true := by simp [c4, Value.oneCell']

theorem zero4 : (#[.int .u64 0, .int .u64 0, .int .u64 0, .int .u64 0] : Array Value) = c4 (fun _ => 0) := rfl

theorem putAll4 (g' g : Nat → Nat) : putAll (c4 g') 0 (c4 g).toList = c4 g := by
  simp [c4, putAll]

theorem there4 {w : World} {b t : Nat} {g : Nat → Nat} (h : w.heap[b]? = some (.cells (c4 g) t (0, 0))) : w.there b 0 4 := thereOf h

end Go.Proofs.Ytpnijncoldihfaa

namespace Go.Proofs.Ytpnijncoldihfaa
open Go.RowKit Go.Shelf

set_option maxHeartbeats 2000000 in
set_option maxRecDepth 100000 in
theorem zero_any (X : Nat) (w : World) : Calls Try.prog 94 #[wv X] w fun e w' => e = .returned (.bool (decide (X % M256 = 0))) ∧ Below w.heap.size w w' := by
  obtain ⟨x0, x1, x2, x3, h0, h1, h2, h3, e, hx⟩ := wv_limbs X
  have hz : decide (X % M256 = 0) = (decide (x0 = 0) && decide (x1 = 0) && decide (x2 = 0) && decide (x3 = 0)) := by
    rw [e]
    unfold num
    by_cases a : x0 = 0 <;> by_cases b : x1 = 0 <;> by_cases c : x2 = 0 <;> by_cases d : x3 = 0 <;> simp [a, b, c, d] <;> omega
  rw [hx, hz]
  clear h0 h1 h2 h3 e hx hz
  by_cases a : x0 = 0
  · subst a
    by_cases b : x1 = 0
    · subst b
      by_cases c : x2 = 0
      · subst c
        by_cases d : x3 = 0
        · subst d
          go_enter Try.func94, Try.ntmps94
          go_wp2
          go_ret
          exact ⟨rfl, (Below.refl _ _).alloc (Nat.le_refl _) _⟩
        · have d' : ((x3 : Int) == 0) = false := by simp; omega
          go_enter Try.func94, Try.ntmps94
          go_wp2
          go_ret
          exact ⟨by simp [d], (Below.refl _ _).alloc (Nat.le_refl _) _⟩
      · have c' : ((x2 : Int) == 0) = false := by simp; omega
        go_enter Try.func94, Try.ntmps94
        go_wp2
        go_ret
        exact ⟨by simp [c], (Below.refl _ _).alloc (Nat.le_refl _) _⟩
    · have b' : ((x1 : Int) == 0) = false := by simp; omega
      go_enter Try.func94, Try.ntmps94
      go_wp2
      go_ret
      exact ⟨by simp [b], (Below.refl _ _).alloc (Nat.le_refl _) _⟩
  · have a' : ((x0 : Int) == 0) = false := by simp; omega
    go_enter Try.func94, Try.ntmps94
    go_wp2
    go_ret
    exact ⟨by simp [a], (Below.refl _ _).alloc (Nat.le_refl _) _⟩

set_option maxHeartbeats 2000000 in
set_option maxRecDepth 100000 in
theorem bit_any (A i : Nat) (hi : i < 544) (w : World) : Calls Try.prog 103 #[lv A, .int .i64 i] w fun e w' => e = .returned (.int .u64 (bt A i)) ∧ Below w.heap.size w w' := by
  have cA := blk_cell (heap_new w (.cells (c17 (dg A)) 76 (0, 0))) (get17 (dg A) (show i / 32 < 17 by omega))
  have hb : dg A (i / 32) / 2 ^ (i % 32) % 2 = bt A i := dg_bit A i
  have HB : Hid ((((dg A (i / 32) / 2 ^ (i % 32) % 2 : Nat)) : Int) = ((bt A i : Nat) : Int)) := by rw [hb]; show _ = _; rfl
  clear hb
  have e1 : ((i : Int)).tdiv 32 = ((i / 32 : Nat) : Int) := by rw [Int.tdiv_eq_ediv_of_nonneg (by omega)]; omega
  have e1' : IntKind.i64.wrap ((i / 32 : Nat) : Int) = ((i / 32 : Nat) : Int) := by rw [IntKind.wrap_i64]; omega
  have e2 : ((i : Int)).tmod 32 = ((i % 32 : Nat) : Int) := by rw [Int.tmod_eq_emod_of_nonneg (by omega)]; omega
  have e2' : IntKind.i64.wrap ((i % 32 : Nat) : Int) = ((i % 32 : Nat) : Int) := by rw [IntKind.wrap_i64]; omega
  have e3 : IntKind.u64.wrap ((i % 32 : Nat) : Int) = ((i % 32 : Nat) : Int) := by rw [IntKind.wrap_u64]; omega
  have g1 : ((i / 32 : Nat) : Int) < 17 := by omega
  have g2 : ((i % 32 : Nat) : Int) < 64 := by omega
  unfold lv
  generalize c17 (dg A) = ca at *
  generalize dg A (i / 32) = da at *
  generalize i / 32 = q at *
  generalize i % 32 = r at *
  clear hi
  go_enter Try.func103, Try.ntmps103
  go_wp2_with fail
  have hv : ((da : Int) / 2 ^ r).tmod 2 = ((da / 2 ^ r % 2 : Nat) : Int) := by
    have h : ((da : Int) / 2 ^ r) = ((da / 2 ^ r : Nat) : Int) := by simp
    rw [h, Int.tmod_eq_emod_of_nonneg (Int.natCast_nonneg _)]
    rfl
  go_ret
  exact ⟨by rw [hv, HB.out]; rfl, (Below.refl _ _).alloc (Nat.le_refl _) _⟩

end Go.Proofs.Ytpnijncoldihfaa

namespace Go.Proofs.Ytpnijncoldihfaa
open Go.RowKit Go.Shelf

/-- The borrow into a digit of a difference. -/
def br (A B k : Nat) : Nat := if A % 4294967296 ^ k < B % 4294967296 ^ k then 1 else 0

theorem br_le (A B k : Nat) : br A B k ≤ 1 := by unfold br; split <;> omega

theorem br_step (A B k : Nat) (h : B ≤ A) : (dg A k + 4294967296 - dg B k - br A B k) % 4294967296 = dg (A - B) k ∧ 1 - (dg A k + 4294967296 - dg B k - br A B k) / 4294967296 = br A B (k + 1) := by
  have h1 := cr_step (A - B) B k
  rw [Nat.sub_add_cancel h] at h1
  have hP : 0 < 4294967296 ^ k := Nat.pow_pos (by decide)
  have hc : ∀ k, br A B k = cr (A - B) B k := fun k => by
    have hP : 0 < 4294967296 ^ k := Nat.pow_pos (by decide)
    have e : ((A - B) % 4294967296 ^ k + B % 4294967296 ^ k) % 4294967296 ^ k = A % 4294967296 ^ k := by rw [← Nat.add_mod, Nat.sub_add_cancel h]
    unfold br cr
    have l1 := Nat.mod_lt (A - B) hP
    have l2 := Nat.mod_lt B hP
    have l3 := Nat.mod_lt A hP
    generalize (A - B) % 4294967296 ^ k = a at *
    generalize B % 4294967296 ^ k = b at *
    generalize A % 4294967296 ^ k = s at *
    generalize 4294967296 ^ k = P at *
    by_cases hab : a + b < P
    · rw [Nat.mod_eq_of_lt hab] at e
      rw [Nat.div_eq_of_lt hab, if_neg (by omega)]
    · have e2 : (a + b) / P = 1 := by
        rw [Nat.div_eq_sub_div hP (by omega), Nat.div_eq_of_lt (by omega)]
      rw [Nat.mod_eq_sub_mod (by omega), Nat.mod_eq_of_lt (by omega)] at e
      rw [e2, if_pos (by omega)]
  rw [hc, hc]
  have b1 := dg_lt (A - B) k
  have b2 := dg_lt B k
  have b3 := cr_le (A - B) B k
  have b4 := cr_le (A - B) B (k + 1)
  generalize dg (A - B) k = x at *
  generalize dg B k = y at *
  generalize dg A k = z at *
  generalize cr (A - B) B k = c at *
  generalize cr (A - B) B (k + 1) = c' at *
  omega

theorem wrap_br {s c : Nat} (h : s < 8589934592) (e : 1 - s / 4294967296 = c) : IntKind.u64.wrap (1 - (s : Int) / 4294967296) = (c : Int) := by
  have h1 : s / 4294967296 ≤ 1 := by omega
  have h2 : (s : Int) / 4294967296 = ((s / 4294967296 : Nat) : Int) := rfl
  rw [h2, ← e]
  generalize s / 4294967296 = q at *
  rw [IntKind.wrap_u64]
  omega

theorem wrap_quo {s : Nat} (h : s < 8589934592) : IntKind.u64.wrap ((s : Int) / 4294967296) = (s : Int) / 4294967296 := by
  have h1 : s / 4294967296 ≤ 1 := by omega
  have h2 : (s : Int) / 4294967296 = ((s / 4294967296 : Nat) : Int) := rfl
  rw [h2]
  generalize s / 4294967296 = q at *
  rw [IntKind.wrap_u64]
  omega

set_option maxHeartbeats 2000000 in
set_option maxRecDepth 100000 in
theorem minus_any (A B : Nat) (hBA : B ≤ A) (w : World) : Calls Try.prog 120 #[lv A, lv B] w fun e w' => e = .returned (lv (A - B)) ∧ Below w.heap.size w w' := by
  have HI0 := hideP (PI.start w A B (A - B))
  have HBA := hideP hBA
  clear hBA
  generalize hres : lv (A - B) = res
  have HRES := hideP hres
  clear hres
  unfold lv
  generalize hca : c17 (dg A) = ca
  generalize hcb : c17 (dg B) = cb
  have HCA := hideP hca
  have HCB := hideP hcb
  clear hca hcb
  go_enter Try.func120, Try.ntmps120
  go_wp2_with fail
  go_loopw [6, 7] (fun c i wr => ∃ (k : Nat), k ≤ 17 ∧ i = .int .i64 k ∧ c = .int .u64 (br A B k) ∧ PI w wr A B (A - B) k) (fun _ i _ => 17 - (intOf i).toNat)
  case atStart => 
    refine ⟨0, Nat.zero_le _, rfl, by simp [br, Nat.mod_one], ?_⟩
    rw [← HCA.out, ← HCB.out]
    exact HI0.out
  case round =>
    obtain ⟨k, hk, rfl, rfl, I⟩ := hrel
    have HI := hideP I
    clear I
    by_cases hlt : k < 17
    · have cA := blk_cell HI.out.a (get17 _ hlt)
      have cB := blk_cell HI.out.b (get17 _ hlt)
      have fr : ∀ o, wr.frozen? ⟨w.heap.size + 1 + 1 + 1, o, none⟩ = false := fun o => blk_free HI.out.o.choose_spec.1
      have cO := blk_cell HI.out.o.choose_spec.1 (get17 _ hlt)
      have hs := br_step A B k HBA.out
      have bA := dg_lt A k
      have bB := dg_lt B k
      have bC := br_le A B k
      have HN := hideP (HI.out.put hlt hs.1)
      have w1 : IntKind.u64.wrap ((dg A k : Int) + 4294967296) = (dg A k : Int) + 4294967296 := by rw [IntKind.wrap_u64]; omega
      have w1' : IntKind.u64.wrap ((dg A k : Int) + 4294967296 - (dg B k : Int)) = (dg A k : Int) + 4294967296 - (dg B k : Int) := by rw [IntKind.wrap_u64]; omega
      have w2 : IntKind.u64.wrap ((dg A k : Int) + 4294967296 - (dg B k : Int) - (br A B k : Int)) = ((dg A k + 4294967296 - dg B k - br A B k : Nat) : Int) := by rw [IntKind.wrap_u64]; omega
      have w3 : ((dg A k + 4294967296 - dg B k - br A B k : Nat) : Int) % 4294967296 = ((dg (A - B) k : Nat) : Int) := by rw [← hs.1]; exact (Int.natCast_emod _ _).symm
      have w5 : IntKind.u64.wrap (1 - ((dg A k + 4294967296 - dg B k - br A B k : Nat) : Int) / 4294967296) = ((br A B (k + 1) : Nat) : Int) := wrap_br (by omega) hs.2
      have w6 : IntKind.u64.wrap (((dg A k + 4294967296 - dg B k - br A B k : Nat) : Int) / 4294967296) = ((dg A k + 4294967296 - dg B k - br A B k : Nat) : Int) / 4294967296 := wrap_quo (by omega)
      have hlt' : (k : Int) < 17 := by omega
      have e4 : IntKind.i64.wrap ((k : Int) + 1) = (k : Int) + 1 := by rw [IntKind.wrap_i64]; omega
      have HKS : Hid (k + 1 ≤ 17) := hlt
      rw [hs.1] at HN
      clear hk hlt hs bA bB bC
      generalize dg A k + 4294967296 - dg B k - br A B k = ss at *
      generalize dg A k = da at *
      generalize dg B k = db at *
      generalize hcc : br A B (k + 1) = cc at *
      have HCC := hideP hcc
      clear hcc
      generalize br A B k = c0 at *
      generalize dg (A - B) k = dd at *
      go_wp2_with fail
      go_region
      go_wp2_with fail
      refine ⟨⟨k + 1, HKS.out, by go_num, by rw [HCC.out], HN.out⟩, by have := HKS.out; simp [intOf]; omega⟩
    · have hkn : k = 17 := by omega
      obtain ⟨g, hg, hgk⟩ := HI.out.o
      rw [hkn] at hgk
      rw [c17_congr hgk] at hg
      have HG := hideP hg
      have hlt' : ¬ (k : Int) < 17 := by omega
      rename_i Q' K hK
      have HK := hideP hK
      clear hk hlt hkn hK hg hgk
      generalize br A B k = c0 at *
      go_wp2_with fail
      refine HK.out _ _ ?_
      refine end17 rfl rfl rfl (by decide) (by show 30 < 31; decide) rfl (range17 HG.out) HI.out.r ?_
      intro wS h1 h2
      exact ⟨by rw [← HRES.out]; rfl, HI.out.l.trans (h2.below.mono (by omega))⟩

end Go.Proofs.Ytpnijncoldihfaa
