/-
  Signed words: shifted, extended, held against one another.
-/
import Derived.Test.YtpnijncoldihfaaTextsC17
import Derived.Test.YtpnijncoldihfaaTextsC25
import Derived.Test.YtpnijncoldihfaaTextsC19
import Derived.Test.YtpnijncoldihfaaTextsC02
namespace Go.Proofs.Ytpnijncoldihfaa
open Go.RowKit Go.Shelf

/-- Where the adding back has come to. -/
structure ABI (W wr : World) (L at_ : Nat) (g y gk : Nat → Nat) (k c : Nat) : Prop where
  lt : ∀ j, gk j < 18446744073709551616
  far : ∀ j, j < at_ ∨ at_ + k ≤ j → gk j = g j
  sum : val (fun j => g (at_ + j)) k + val y k = val (fun j => gk (at_ + j)) k + 18446744073709551616 ^ k * c
  c : c ≤ 1
  cells : wr.heap[L]? = some (.cells (c9 gk) 113 (0, 0))
  but : But L W wr

theorem ABI.put {W wr : World} {L at_ : Nat} {g y gk : Nat → Nat} {k c s c' : Nat} (I : ABI W wr L at_ g y gk k c) (hk : at_ + k < 9) (hs : s < 18446744073709551616) (hc : c' ≤ 1)
    (e : g (at_ + k) + y k + c = s + 18446744073709551616 * c') :
    ABI W (wr.drew.setCell ⟨L, at_ + k, none⟩ (.int .u64 s)) L at_ g y (fun i => if i = at_ + k then s else gk i) (k + 1) c' := by
  refine ⟨fun j => ?_, fun j hj => ?_, ?_, hc, ?_, I.but.drew.set _ _⟩
  · split
    · exact hs
    · exact I.lt j
  · rw [if_neg (by omega)]
    exact I.far j (by omega)
  · have h1 : val (fun j => if at_ + j = at_ + k then s else gk (at_ + j)) k = val (fun j => gk (at_ + j)) k := val_congr k (fun j hj => by rw [if_neg (by omega)])
    show val (fun j => g (at_ + j)) k + g (at_ + k) * 18446744073709551616 ^ k + (val y k + y k * 18446744073709551616 ^ k) = val (fun j => if at_ + j = at_ + k then s else gk (at_ + j)) k + (if at_ + k = at_ + k then s else gk (at_ + k)) * 18446744073709551616 ^ k + 18446744073709551616 ^ (k + 1) * c'
    rw [h1, if_pos rfl, Nat.pow_succ]
    have h2 : 18446744073709551616 ^ k * (g (at_ + k) + y k + c) = 18446744073709551616 ^ k * (s + 18446744073709551616 * c') := by rw [e]
    simp only [Nat.mul_add] at h2
    have h3 := I.sum
    rw [Nat.mul_comm (g (at_ + k)), Nat.mul_comm (y k), Nat.mul_comm s, Nat.mul_assoc]
    omega
  · have := blk_set (w := wr.drew) (o := at_ + k) I.cells (.int .u64 s)
    rw [set9 gk s hk] at this
    exact this

set_option maxHeartbeats 2000000 in
set_option maxRecDepth 100000 in
theorem addBack_any (W : World) (L Yb at_ n cp cy : Nat) (g y : Nat → Nat) (hat : at_ + n < 9) (hg : ∀ j, g j < 18446744073709551616) (hy : ∀ j, y j < 18446744073709551616) (hne : Yb ≠ L)
    (hL : W.heap[L]? = some (.cells (c9 g) 113 (0, 0))) (hY : ∀ j, j < n → W.cell? ⟨Yb, j, none⟩ = some (.int .u64 (y j))) :
    Calls Try.prog 132 #[.slice (some ⟨L, at_, none⟩) (n + 1) cp, .slice (some ⟨Yb, 0, none⟩) n cy] W fun e V =>
      e = .returned (.tuple #[]) ∧ ∃ g' : Nat → Nat, (∀ j, g' j < 18446744073709551616) ∧ (∀ j, j < at_ ∨ at_ + n < j → g' j = g j) ∧
        (∃ d, val (fun j => g (at_ + j)) (n + 1) + val y n = val (fun j => g' (at_ + j)) (n + 1) + 18446744073709551616 ^ (n + 1) * d) ∧ V.heap[L]? = some (.cells (c9 g') 113 (0, 0)) ∧ But L W V := by
  have HI0 : Hid (ABI W W L at_ g y g 0 0) := ⟨hg, fun _ _ => rfl, by simp [val], by omega, hL, But.refl _ _⟩
  have HY := hideP hY
  have HG := hideP hg
  have HYL := hideP hy
  clear hY hg hy hL
  go_enter Try.func132, Try.ntmps132
  go_wp2_with fail
  go_loopw [4, 8] (fun c i wr => ∃ (k cv : Nat) (gk : Nat → Nat), k ≤ n ∧ i = .int .i64 k ∧ c = .int .u64 cv ∧ ABI W wr L at_ g y gk k cv) (fun _ i _ => n - (intOf i).toNat)
  case atStart => exact ⟨0, 0, g, Nat.zero_le _, rfl, rfl, HI0.out⟩
  case round =>
    obtain ⟨k, cv, gk, hk, rfl, rfl, I⟩ := hrel
    have HI := hideP I
    clear I
    by_cases hlt : k < n
    · obtain ⟨s, c', hs, hc', e2, hsb⟩ := add64_ex (g (at_ + k)) (y k) cv (HG.out _) (HYL.out k) HI.out.c
      have cy := (HI.out.but.cell (o := k) hne).trans (HY.out k hlt)
      have cp := blk_cell HI.out.cells (get9 gk (show at_ + k < 9 by omega))
      rw [HI.out.far (at_ + k) (Or.inr (Nat.le_refl _))] at cp
      have fr : ∀ o, wr.frozen? ⟨L, o, none⟩ = false := fun o => blk_free HI.out.cells
      have HN := hideP (HI.out.put (show at_ + k < 9 by omega) hs hc' e2)
      have hlt' : (k : Int) < n := by omega
      have hlt2 : (k : Int) < (n : Int) + 1 := by omega
      have e4 : IntKind.i64.wrap ((k : Int) + 1) = (k : Int) + 1 := by rw [IntKind.wrap_i64]; omega
      have HKS : Hid (k + 1 ≤ n) := hlt
      clear e2 hs hc' hk hlt
      go_wp2_with fail
      go_region
      go_wp2_with fail
      refine ⟨⟨k + 1, c', _, HKS.out, by go_num, rfl, HN.out⟩, by have := HKS.out; simp [intOf]; omega⟩
    · have hkn : k = n := by omega
      subst hkn
      have cp := blk_cell HI.out.cells (get9 gk (show at_ + k < 9 by omega))
      rw [HI.out.far (at_ + k) (Or.inr (Nat.le_refl _))] at cp
      have fr : ∀ o, wr.frozen? ⟨L, o, none⟩ = false := fun o => blk_free HI.out.cells
      obtain ⟨s, hs⟩ : ∃ s : Nat, s = (g (at_ + k) + cv) % 18446744073709551616 := ⟨_, rfl⟩
      have hsl : s < 18446744073709551616 := by rw [hs]; exact Nat.mod_lt _ (by decide)
      have hw : IntKind.u64.wrap ((g (at_ + k) : Int) + cv) = (s : Int) := by
        rw [show ((g (at_ + k) : Int) + cv) = ((g (at_ + k) + cv : Nat) : Int) by omega, M64.wrapM, hs]
      have HN : Hid ((∀ j, (if j = at_ + k then s else gk j) < 18446744073709551616) ∧ (∀ j, j < at_ ∨ at_ + k < j → (if j = at_ + k then s else gk j) = g j) ∧
          val (fun j => g (at_ + j)) (k + 1) + val y k = val (fun j => if at_ + j = at_ + k then s else gk (at_ + j)) (k + 1) + 18446744073709551616 ^ (k + 1) * ((g (at_ + k) + cv) / 18446744073709551616) ∧
          (wr.setCell ⟨L, at_ + k, none⟩ (.int .u64 s)).heap[L]? = some (.cells (c9 (fun i => if i = at_ + k then s else gk i)) 113 (0, 0)) ∧ But L W (wr.setCell ⟨L, at_ + k, none⟩ (.int .u64 s))) := by
        refine ⟨fun j => ?_, fun j hj => ?_, ?_, ?_, HI.out.but.set _ _⟩
        · split
          · exact hsl
          · exact HI.out.lt j
        · rw [if_neg (by omega)]
          exact HI.out.far j (by omega)
        · have h1 : val (fun j => if at_ + j = at_ + k then s else gk (at_ + j)) k = val (fun j => gk (at_ + j)) k := val_congr k (fun j hj => by rw [if_neg (by omega)])
          show val (fun j => g (at_ + j)) k + g (at_ + k) * 18446744073709551616 ^ k + val y k = val (fun j => if at_ + j = at_ + k then s else gk (at_ + j)) k + (if at_ + k = at_ + k then s else gk (at_ + k)) * 18446744073709551616 ^ k + 18446744073709551616 ^ (k + 1) * ((g (at_ + k) + cv) / 18446744073709551616)
          rw [h1, if_pos rfl, Nat.pow_succ]
          have hd := Nat.mod_add_div (g (at_ + k) + cv) 18446744073709551616
          rw [← hs] at hd
          generalize (g (at_ + k) + cv) / 18446744073709551616 = d at hd
          have h2 : 18446744073709551616 ^ k * (s + 18446744073709551616 * d) = 18446744073709551616 ^ k * (g (at_ + k) + cv) := by rw [hd]
          simp only [Nat.mul_add] at h2
          have h3 := HI.out.sum
          rw [Nat.mul_comm (g (at_ + k)), Nat.mul_comm s, Nat.mul_assoc]
          omega
        · have := blk_set (o := at_ + k) HI.out.cells (.int .u64 s)
          rw [set9 gk s (by omega)] at this
          exact this
      have hlt' : ¬ (k : Int) < k := by omega
      have hlt2 : (k : Int) < (k : Int) + 1 := by omega
      clear hs hsl hk hlt
      go_wp2_with fail
      refine bodyPost_end (v := .tuple #[]) (by simp [results, Try.results132, go_sem]) rfl ⟨rfl, fun i => if i = at_ + k then s else gk i, HN.out.1, HN.out.2.1, ⟨_, HN.out.2.2.1⟩, HN.out.2.2.2⟩

end Go.Proofs.Ytpnijncoldihfaa

namespace Go.Proofs.Ytpnijncoldihfaa
open Go.RowKit Go.Shelf

theorem limb_split (N i : Nat) : N / 18446744073709551616 ^ i = limb N i + 18446744073709551616 * (N / 18446744073709551616 ^ (i + 1)) := by
  unfold limb
  rw [Nat.pow_succ, ← Nat.div_div_eq_div_mul, Nat.mod_add_div]

theorem c9_mk {s0 s1 s2 s3 s4 s5 s6 s7 s8 k Z : Nat} (h0 : s0 < 18446744073709551616) (h1 : s1 < 18446744073709551616) (h2 : s2 < 18446744073709551616) (h3 : s3 < 18446744073709551616) (h4 : s4 < 18446744073709551616) (h5 : s5 < 18446744073709551616) (h6 : s6 < 18446744073709551616) (h7 : s7 < 18446744073709551616) (h8 : s8 < 18446744073709551616)
    (h : Z = s0 + 18446744073709551616 * (s1 + 18446744073709551616 * (s2 + 18446744073709551616 * (s3 + 18446744073709551616 * (s4 + 18446744073709551616 * (s5 + 18446744073709551616 * (s6 + 18446744073709551616 * (s7 + 18446744073709551616 * (s8 + 18446744073709551616 * (k)))))))))) :
    Value.agg #[.int .u64 s0, .int .u64 s1, .int .u64 s2, .int .u64 s3, .int .u64 s4, .int .u64 s5, .int .u64 s6, .int .u64 s7, .int .u64 s8] = .agg (c9 (limb Z)) := by
  subst h
  unfold c9
  simp only [limb_zero_of h0, limb_succ_of h0, limb_zero_of h1, limb_succ_of h1, limb_zero_of h2, limb_succ_of h2, limb_zero_of h3, limb_succ_of h3, limb_zero_of h4, limb_succ_of h4, limb_zero_of h5, limb_succ_of h5, limb_zero_of h6, limb_succ_of h6, limb_zero_of h7, limb_succ_of h7, limb_zero_of h8]

set_option maxHeartbeats 4000000 in
set_option maxRecDepth 100000 in
theorem raise_any (N n : Nat) (hN : N < 18446744073709551616 ^ 8) (hn : n < 64) (w : World) : Calls Try.prog 129 #[w8 N, .int .u64 n] w fun e w' => e = .returned (.agg (c9 (limb (N * 2 ^ n)))) ∧ Below w.heap.size w w' := by
  obtain ⟨r, hr⟩ : ∃ r, r + n = 64 := ⟨64 - n, by omega⟩
  have hQ : 0 < 2 ^ n := Nat.two_pow_pos n
  have d0 := limb_split N 0
  have h0 := limb_lt N 0
  have d1 := limb_split N 1
  have h1 := limb_lt N 1
  have d2 := limb_split N 2
  have h2 := limb_lt N 2
  have d3 := limb_split N 3
  have h3 := limb_lt N 3
  have d4 := limb_split N 4
  have h4 := limb_lt N 4
  have d5 := limb_split N 5
  have h5 := limb_lt N 5
  have d6 := limb_split N 6
  have h6 := limb_lt N 6
  have d7 := limb_split N 7
  have h7 := limb_lt N 7
  have d8 : N / 18446744073709551616 ^ (7 + 1) = 0 := Nat.div_eq_of_lt hN
  rw [Nat.pow_zero, Nat.div_one] at d0
  simp only [Nat.zero_add] at d0
  unfold w8
  generalize limb N 0 = x0 at d0 h0 ⊢
  generalize limb N 1 = x1 at d1 h1 ⊢
  generalize limb N 2 = x2 at d2 h2 ⊢
  generalize limb N 3 = x3 at d3 h3 ⊢
  generalize limb N 4 = x4 at d4 h4 ⊢
  generalize limb N 5 = x5 at d5 h5 ⊢
  generalize limb N 6 = x6 at d6 h6 ⊢
  generalize limb N 7 = x7 at d7 h7 ⊢
  rw [d8] at d7
  clear d8
  generalize N / 18446744073709551616 ^ (0 + 1) = N1 at d0 d1
  generalize N / 18446744073709551616 ^ (1 + 1) = N2 at d1 d2
  generalize N / 18446744073709551616 ^ (2 + 1) = N3 at d2 d3
  generalize N / 18446744073709551616 ^ (3 + 1) = N4 at d3 d4
  generalize N / 18446744073709551616 ^ (4 + 1) = N5 at d4 d5
  generalize N / 18446744073709551616 ^ (5 + 1) = N6 at d5 d6
  generalize N / 18446744073709551616 ^ (6 + 1) = N7 at d6 d7
  obtain ⟨s0, i0, e0, u0, b0⟩ := shl_limb x0 0 n r hr h0 hQ
  obtain ⟨s1, i1, e1, u1, b1⟩ := shl_limb x1 (x0 / 2 ^ r) n r hr h1 u0
  obtain ⟨s2, i2, e2, u2, b2⟩ := shl_limb x2 (x1 / 2 ^ r) n r hr h2 u1
  obtain ⟨s3, i3, e3, u3, b3⟩ := shl_limb x3 (x2 / 2 ^ r) n r hr h3 u2
  obtain ⟨s4, i4, e4, u4, b4⟩ := shl_limb x4 (x3 / 2 ^ r) n r hr h4 u3
  obtain ⟨s5, i5, e5, u5, b5⟩ := shl_limb x5 (x4 / 2 ^ r) n r hr h5 u4
  obtain ⟨s6, i6, e6, u6, b6⟩ := shl_limb x6 (x5 / 2 ^ r) n r hr h6 u5
  obtain ⟨s7, i7, e7, u7, b7⟩ := shl_limb x7 (x6 / 2 ^ r) n r hr h7 u6
  have a7 := Sh.stepL (X := 0) (S := x7 / 2 ^ r) e7 (by omega)
  rw [← d7] at a7
  have a6 := Sh.stepL e6 a7
  rw [← d6] at a6
  have a5 := Sh.stepL e5 a6
  rw [← d5] at a5
  have a4 := Sh.stepL e4 a5
  rw [← d4] at a4
  have a3 := Sh.stepL e3 a4
  rw [← d3] at a3
  have a2 := Sh.stepL e2 a3
  rw [← d2] at a2
  have a1 := Sh.stepL e1 a2
  rw [← d1] at a1
  have a0 := Sh.stepL e0 a1
  rw [← d0, Nat.add_zero] at a0
  have i8 : x7 / 2 ^ r < 18446744073709551616 := Nat.lt_of_le_of_lt (Nat.div_le_self _ _) h7
  have HR := hideP (c9_mk (k := 0) i0 i1 i2 i3 i4 i5 i6 i7 i8 (show N * 2 ^ n = _ by rw [a0]; rfl))
  simp only [Int.natCast_ediv, Int.natCast_pow, Int.cast_ofNat_Int] at b0 b1 b2 b3 b4 b5 b6 b7
  have hri : IntKind.u64.wrap ((64 : Int) - (n : Int)) = (r : Int) := by rw [IntKind.wrap_u64]; omega
  have hp64 : (n : Int) ≤ 64 := by omega
  have hr64 : (r : Int) ≤ 64 := by omega
  have hn64 : (n : Int) < 64 := by omega
  clear d0 h0 i0 e0 u0 a0 d1 h1 i1 e1 u1 a1 d2 h2 i2 e2 u2 a2 d3 h3 i3 e3 u3 a3 d4 h4 i4 e4 u4 a4 d5 h5 i5 e5 u5 a5 d6 h6 i6 e6 u6 a6 d7 h7 i7 e7 u7 a7 i8 hQ hN hr
  go_enter Try.func129, Try.ntmps129
  go_wp2_with fail
  refine wp_loop_rounds 9 ?_
  rw [rounds_succ]
  go_wp2_with fail
  rw [rounds_succ]
  go_wp2_with fail
  rw [rounds_succ]
  go_wp2_with fail
  rw [rounds_succ]
  go_wp2_with fail
  rw [rounds_succ]
  go_wp2_with fail
  rw [rounds_succ]
  go_wp2_with fail
  rw [rounds_succ]
  go_wp2_with fail
  rw [rounds_succ]
  go_wp2_with fail
  rw [rounds_succ]
  go_wp2
  refine bodyPost_ret (v := .agg #[.int .u64 (s0 : Nat), .int .u64 (s1 : Nat), .int .u64 (s2 : Nat), .int .u64 (s3 : Nat), .int .u64 (s4 : Nat), .int .u64 (s5 : Nat), .int .u64 (s6 : Nat), .int .u64 (s7 : Nat), .int .u64 ((x7 / 2 ^ r : Nat) : Int)]) (by simp [results, Try.results129, go_sem]) rfl ⟨by rw [HR.out], ?_⟩
  repeat first | exact Below.refl _ _ | apply Below.drew | (refine Below.alloc ?_ (by simp <;> omega) _) | (refine Below.setCell ?_ (by simp <;> omega) _)

end Go.Proofs.Ytpnijncoldihfaa

namespace Go.Proofs.Ytpnijncoldihfaa
open Go.RowKit Go.Shelf

/-- Shifted right. -/
def shrN (n X : Nat) : Nat := if n < 256 then X % M256 / 2 ^ n else 0

/-- Shifted left. -/
def shlN (n X : Nat) : Nat := if n < 256 then X * 2 ^ n else 0

theorem shr_any (N X : Nat) (w : World) : Calls Try.prog 62 #[wv N, wv X] w fun e w' => e = .returned (wv (shrN (N % M256) X)) ∧ Below w.heap.size w w' := by
  unfold shrN
  by_cases h : N % M256 < 256
  · rw [if_pos h]; exact shr_in N X h w
  · rw [if_neg h]; exact shr_out N X (by omega) w

theorem shl_any (N X : Nat) (w : World) : Calls Try.prog 60 #[wv N, wv X] w fun e w' => e = .returned (wv (shlN (N % M256) X)) ∧ Below w.heap.size w w' := by
  unfold shlN
  by_cases h : N % M256 < 256
  · rw [if_pos h]; exact shl_in N X h w
  · rw [if_neg h]; exact shl_out N X (by omega) w

end Go.Proofs.Ytpnijncoldihfaa
