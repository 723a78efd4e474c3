/-
  A word times a limb.
-/
import Derived.Test.YtpnijncoldihfaaBackC23
namespace Go.Proofs.Ytpnijncoldihfaa
open Go.RowKit Go.Shelf

/-- The boxes of a power. -/
structure EB (w : World) (B Z Xi P : Nat) (wr : World) : Prop where
  x : wr.heap[w.heap.size]? = some (.cells #[.int .u64 (limb Xi 0), .int .u64 (limb Xi 1), .int .u64 (limb Xi 2), .int .u64 (limb Xi 3)] 24 (0, 0))
  y : wr.heap[w.heap.size + 1]? = some (.cells #[.int .u64 (limb Z 0), .int .u64 (limb Z 1), .int .u64 (limb Z 2), .int .u64 (limb Z 3)] 24 (0, 0))
  r : wr.heap[w.heap.size + 1 + 1]? = some (.cells #[.int .u64 0, .int .u64 0, .int .u64 0, .int .u64 0] 24 (0, 0))
  p : wr.heap[B]? = some (.cells #[.int .u64 (limb P 0), .int .u64 (limb P 1), .int .u64 (limb P 2), .int .u64 (limb P 3)] 24 (0, 0))
  lt : w.heap.size + 1 + 1 < B
  b : Below w.heap.size w wr

section
variable {w wr V : World} {B Z Xi P : Nat}
theorem EB.call (h : EB w B Z Xi P wr) (hb : Below wr.heap.size wr V) : EB w B Z Xi P V := by
  have k : ∀ {b : Nat} {o : Obj}, wr.heap[b]? = some o → V.heap[b]? = some o := fun h => (hb.block _ (Array.getElem?_eq_some_iff.1 h).1).trans h
  exact ⟨k h.x, k h.y, k h.r, k h.p, h.lt, h.b.trans (hb.mono h.b.size)⟩

theorem EB.setP (h : EB w B Z Xi P wr) (P' : Nat) : EB w B Z Xi P' ((((wr.setCell ⟨B, 0, none⟩ (.int .u64 (limb P' 0))).setCell ⟨B, 1, none⟩ (.int .u64 (limb P' 1))).setCell ⟨B, 2, none⟩ (.int .u64 (limb P' 2))).setCell ⟨B, 3, none⟩ (.int .u64 (limb P' 3))) := by
  have hl := h.lt
  exact ⟨(other4 (by omega)).trans h.x, (other4 (by omega)).trans h.y, (other4 (by omega)).trans h.r, stored4 h.p, hl, below_stored4 h.b (by omega)⟩

theorem EB.setX (h : EB w B Z Xi P wr) (X' : Nat) : EB w B Z X' P ((((wr.setCell ⟨w.heap.size, 0, none⟩ (.int .u64 (limb X' 0))).setCell ⟨w.heap.size, 1, none⟩ (.int .u64 (limb X' 1))).setCell ⟨w.heap.size, 2, none⟩ (.int .u64 (limb X' 2))).setCell ⟨w.heap.size, 3, none⟩ (.int .u64 (limb X' 3))) := by
  have hl := h.lt
  exact ⟨stored4 h.x, (other4 (by omega)).trans h.y, (other4 (by omega)).trans h.r, (other4 (by omega)).trans h.p, hl, below_stored4 h.b (by omega)⟩

end

/-- Where a power has come to. -/
def EI (w wr : World) (B X Z k Xi P : Nat) : Prop := EB w B Z Xi P wr ∧ P * Xi ^ (Z / 2 ^ k) % M256 = X ^ Z % M256

theorem bit_test (Z a s : Nat) (hs : s < 64) : (bits .and .u64 ((limb Z a : Int) / 2 ^ s) 1 == 1) = decide (Z / 2 ^ (64 * a + s) % 2 = 1) := by
  have hl := limb_lt Z a
  have h1 : limb Z a / 2 ^ s < 18446744073709551616 := Nat.lt_of_le_of_lt (Nat.div_le_self _ _) hl
  have e : ((limb Z a : Int) / 2 ^ s) = ((limb Z a / 2 ^ s : Nat) : Int) := by simp
  have h2 := bits_and_u64_nat (limb Z a / 2 ^ s) 1 h1 (by omega)
  rw [Nat.and_one_is_mod] at h2
  rw [e]
  rw [show (1 : Int) = ((1 : Nat) : Int) from rfl, h2]
  have h3 : (limb Z a / 2 ^ s % 2 = 1) ↔ (Z / 2 ^ (64 * a + s) % 2 = 1) := by
    have t1 := Nat.testBit_eq_decide_div_mod_eq (x := limb Z a) (i := s)
    have t2 := Nat.testBit_eq_decide_div_mod_eq (x := Z / 18446744073709551616 ^ a) (i := s)
    have t3 : (limb Z a).testBit s = (Z / 18446744073709551616 ^ a).testBit s := by
      unfold limb
      rw [show (18446744073709551616 : Nat) = 2 ^ 64 by decide, Nat.testBit_mod_two_pow]
      simp [hs]
    rw [t1, t2, Nat.div_div_eq_div_mul, show (18446744073709551616 : Nat) = 2 ^ 64 by decide, ← Nat.pow_mul, ← Nat.pow_add] at t3
    simpa using t3
  rw [Bool.eq_iff_iff]
  simp only [beq_iff_eq, decide_eq_true_eq]
  omega

theorem pow_step {P Xi Z k X : Nat} (h : P * Xi ^ (Z / 2 ^ k) % M256 = X ^ Z % M256) :
    (if Z / 2 ^ k % 2 = 1 then P * Xi else P) * (Xi * Xi) ^ (Z / 2 ^ (k + 1)) % M256 = X ^ Z % M256 := by
  rw [← h, Nat.pow_succ, ← Nat.div_div_eq_div_mul]
  generalize Z / 2 ^ k = m
  have e : (Xi * Xi) ^ (m / 2) = Xi ^ (2 * (m / 2)) := by rw [Nat.pow_mul, Nat.pow_two]
  rw [e]
  split
  · rename_i h1
    rw [Nat.mul_assoc, ← Nat.pow_succ', show (2 * (m / 2)).succ = m by omega]
  · rename_i h1
    rw [show 2 * (m / 2) = m by omega]

set_option maxHeartbeats 2000000 in
set_option maxRecDepth 100000 in
theorem exp_any (X Y : Nat) (w : World) : Calls Try.prog 45 #[wv X, wv Y] w fun e w' => e = .returned (wv (X ^ (Y % M256))) ∧ Below w.heap.size w w' := by
  rw [← wv_mod Y]
  obtain ⟨Z, hZ⟩ : ∃ Z, Z = Y % M256 := ⟨_, rfl⟩
  have hZM : Z % M256 = Z := by rw [hZ, Nat.mod_mod]
  rw [← hZ]
  clear hZ
  obtain ⟨RES, hRES⟩ : ∃ RES, RES = wv (X ^ Z) := ⟨_, rfl⟩
  rw [← hRES]
  have HRES := hideP hRES
  clear hRES
  have hof := fun W => of_any 1 (by omega) W
  have hbi := fun W => bits_any Z W
  have hmu := fun A C W => mul_any A C W
  simp only [wv_limb, hZM] at hof hbi hmu ⊢
  have HOF := hideP hof
  have HBI := hideP hbi
  have HMU := hideP hmu
  clear hof hbi hmu hZM
  go_enter Try.func45, Try.ntmps45
  go_wp2_with fail
  refine (HOF.out _).mono ?_
  rintro e w1 ⟨rfl, hb⟩
  have hx1 := (kept4 hb ((heap_old _ _ (by simp <;> omega)).trans ((heap_old _ _ (by simp)).trans (heap_new _ _)))).1
  obtain ⟨hy1, cy0, cy1, cy2, cy3, _, _, _, _⟩ := kept4 hb ((heap_old _ _ (by simp)).trans (heap_new1 _ _ _))
  have hr1 := (kept4 hb (heap_new2 _ _ _ _)).1
  have hsz := hb.size
  simp only [World.size_alloc] at hsz
  have HB1 : Hid (Below w.heap.size w w1) := ((((Below.refl _ w).alloc (Nat.le_refl _) _).alloc (by simp) _).alloc (by simp <;> omega) _).trans (hb.mono (by simp <;> omega))
  have HX1 := hideP hx1
  have HY1 := hideP hy1
  have HR1 := hideP hr1
  have hlt : w.heap.size + 1 < w1.heap.size := by omega
  have hne : ¬ (w.heap.size + 1 = w1.heap.size) := by omega
  have HSZ := hideP hsz
  clear hb hx1 hy1 hr1 hsz
  go_wp2_with fail
  refine (HBI.out _).mono ?_
  rintro e w2 ⟨⟨n, rfl, hn, hZn, _⟩, hb2⟩
  obtain ⟨B, hB⟩ : ∃ B, B = w1.heap.size := ⟨_, rfl⟩
  have HI0 : Hid (EI w w2 B X Z 0 X 1) := by
    have k : ∀ {b : Nat} {o : Obj}, w1.heap[b]? = some o → w2.heap[b]? = some o := fun h => (hb2.block _ (by have := (Array.getElem?_eq_some_iff.1 h).1; simp; omega)).trans ((heap_old _ _ (Array.getElem?_eq_some_iff.1 h).1).trans h)
    refine ⟨⟨k HX1.out, k HY1.out, k HR1.out, ?_, by have := HSZ.out; omega, ((HB1.out.alloc HB1.out.size _).trans (hb2.mono (Nat.le_trans HB1.out.size (by simp))))⟩, by rw [Nat.pow_zero, Nat.div_one, Nat.one_mul]⟩
    rw [hB]
    exact (hb2.block _ (by simp)).trans (heap_new _ _)
  have HZN := hideP hZn
  rw [← hB]
  clear hb2 hZn hB cy0 cy1 cy2 cy3 hlt hne HX1 HY1 HR1 HB1 HSZ HOF HBI
  go_wp2_with fail
  go_loopw [6, 10] (fun _ i wr => ∃ k Xi P : Nat, k ≤ n ∧ i = .int .i64 k ∧ EI w wr B X Z k Xi P) (fun _ i _ => n - (intOf i).toNat)
  case atStart => exact ⟨0, X, 1, Nat.zero_le _, rfl, HI0.out⟩
  case round =>
    obtain ⟨k, Xi, P, hk, rfl, I⟩ := hrel
    have HI := hideP I
    clear I
    by_cases hlt : k < n
    · obtain ⟨a, ha⟩ : ∃ a, a = k / 64 := ⟨_, rfl⟩
      obtain ⟨s, hs⟩ : ∃ s, s = k % 64 := ⟨_, rfl⟩
      have cy : wr.cell? ⟨w.heap.size + 1, a, none⟩ = some (.int .u64 (limb Z a)) := blk_cell HI.out.1.y (get4 _ (by omega))
      obtain ⟨cx0, cx1, cx2, cx3⟩ := cells4 HI.out.1.x
      obtain ⟨cp0, cp1, cp2, cp3⟩ := cells4 HI.out.1.p
      have e1 : (k : Int) / 64 = (a : Int) := by omega
      have e2 : (k : Int) % 64 = (s : Int) := by omega
      have e3 : IntKind.i64.wrap ((k : Int) + 1) = (k : Int) + 1 := by rw [IntKind.wrap_i64]; omega
      have ha4 : (a : Int) < 4 := by omega
      have hs64 : (s : Int) < 64 := by omega
      have hlt' : (k : Int) < n := by omega
      have hbt := bit_test Z a s (by omega)
      rw [show 64 * a + s = k by omega] at hbt
      have hps := pow_step HI.out.2
      have hks : k + 1 ≤ n := hlt
      have HKS := hideP hks
      clear ha hs hlt hk hks
      by_cases hbit : Z / 2 ^ k % 2 = 1
      · rw [if_pos hbit] at hps
        have hbb : (bits .and .u64 ((limb Z a : Int) / 2 ^ s) 1 == 1) = true := by rw [hbt]; simpa using hbit
        have HPS := hideP hps
        clear hbt hps hbit
        go_wp2_with fail
        refine (HMU.out P Xi _).mono ?_
        rintro e V1 ⟨rfl, hb1⟩
        have hE1 := HI.out.1.call hb1
        obtain ⟨a0, a1, a2, a3⟩ := cells4 hE1.p
        have fa : ∀ o, V1.frozen? ⟨B, o, none⟩ = false := fun o => blk_free hE1.p
        have hE2 := hE1.setP (P * Xi)
        have HE1 := hideP hE1
        have hx1 := cells4 hE1.x
        obtain ⟨b0, b1, b2, b3⟩ := hx1
        have hlB := hE1.lt
        have n1 : ¬ (w.heap.size = B) := by omega
        have n2 : ¬ (B = w.heap.size) := by omega
        have HE := hideP hE2
        clear hb1 hE1 hE2 cy cx0 cx1 cx2 cx3 cp0 cp1 cp2 cp3 hbb hlB
        go_wp2_with fail
        refine (HMU.out Xi Xi _).mono ?_
        rintro e V3 ⟨rfl, hb3⟩
        have hE3 := HE.out.call hb3
        obtain ⟨a0, a1, a2, a3⟩ := cells4 hE3.x
        have fa : ∀ o, V3.frozen? ⟨w.heap.size, o, none⟩ = false := fun o => blk_free hE3.x
        have hE4 := hE3.setX (Xi * Xi)
        have HE4 := hideP hE4
        clear hb3 hE3 hE4
        go_wp2_with fail
        refine ⟨⟨k + 1, Xi * Xi, (P * Xi), HKS.out, by go_num, HE4.out, HPS.out⟩, by have := HKS.out; simp [intOf]; omega⟩
      · rw [if_neg hbit] at hps
        have hbb : (bits .and .u64 ((limb Z a : Int) / 2 ^ s) 1 == 1) = false := by rw [hbt]; simpa using hbit
        have HPS := hideP hps
        have HE := hideP HI.out.1
        clear hbt hps hbit
        go_wp2_with fail
        refine (HMU.out Xi Xi _).mono ?_
        rintro e V3 ⟨rfl, hb3⟩
        have hE3 := HE.out.call hb3
        obtain ⟨a0, a1, a2, a3⟩ := cells4 hE3.x
        have fa : ∀ o, V3.frozen? ⟨w.heap.size, o, none⟩ = false := fun o => blk_free hE3.x
        have hE4 := hE3.setX (Xi * Xi)
        have HE4 := hideP hE4
        clear hb3 hE3 hE4
        go_wp2_with fail
        refine ⟨⟨k + 1, Xi * Xi, P, HKS.out, by go_num, HE4.out, HPS.out⟩, by have := HKS.out; simp [intOf]; omega⟩
    · have hkn : k = n := by omega
      subst hkn
      have he := HI.out.2
      rw [Nat.div_eq_of_lt HZN.out, Nat.pow_zero, Nat.mul_one] at he
      have HE : Hid (RES = .agg #[.int .u64 (limb P 0), .int .u64 (limb P 1), .int .u64 (limb P 2), .int .u64 (limb P 3)]) := by
        show _ = _
        rw [HRES.out, ← wv_limb]
        exact wv_congr he.symm
      obtain ⟨cp0, cp1, cp2, cp3⟩ := cells4 HI.out.1.p
      obtain ⟨k0, k1, k2, k3⟩ := cells4 HI.out.1.r
      have fr : ∀ o, wr.frozen? ⟨w.heap.size + 1 + 1, o, none⟩ = false := fun o => blk_free HI.out.1.r
      have HB3 := hideP HI.out.1.b
      clear he hlt hk
      go_wp2_with fail
      refine bodyPost_ret (v := .agg #[.int .u64 (limb P 0), .int .u64 (limb P 1), .int .u64 (limb P 2), .int .u64 (limb P 3)]) (by simp [results, Try.results45, go_sem, k0, k1, k2, k3, World.cell?_setCell_same]) rfl ⟨by rw [HE.out], ?_⟩
      repeat first | exact HB3.out | apply Below.drew | (refine Below.alloc ?_ (by simp <;> omega) _) | (refine Below.setCell ?_ (by simp <;> omega) _)

end Go.Proofs.Ytpnijncoldihfaa

namespace Go.Proofs.Ytpnijncoldihfaa
open Go.RowKit Go.Shelf

theorem num_row {x0 x1 x2 x3 y a l0 l1 l2 l3 h0 h1 h2 h3 : Nat} (e0 : x0 * y + a + 0 = l0 + 18446744073709551616 * h0) (e1 : x1 * y + h0 + 0 = l1 + 18446744073709551616 * h1)
    (e2 : x2 * y + h1 + 0 = l2 + 18446744073709551616 * h2) (e3 : x3 * y + h2 + 0 = l3 + 18446744073709551616 * h3) : num x0 x1 x2 x3 * y + a = num l0 l1 l2 l3 + M256 * h3 := by
  have s : ∀ {B x Q y a l h R : Nat}, x * y + a + 0 = l + B * h → Q * y + h = R → (x + B * Q) * y + a = l + B * R := by
    intro B x Q y a l h R e1 e2
    subst e2
    rw [Nat.add_mul, Nat.mul_add, Nat.mul_assoc]
    omega
  have t3 : x3 * y + h2 = l3 + 18446744073709551616 * h3 := by omega
  have t2 := s e2 t3
  have t1 := s e1 t2
  have t0 := s e0 t1
  rw [Gen.flat] at t0
  rw [M256_eq]
  exact t0

set_option maxHeartbeats 1000000 in
set_option maxRecDepth 100000 in
theorem multiplyLimb_any (X y a : Nat) (hy : y < 18446744073709551616) (ha : a < 18446744073709551616) (w : World) : Calls Try.prog 135 #[wv X, .int .u64 y, .int .u64 a] w fun e w' => ∃ c : Nat, e = .returned (.tuple #[wv (X * y + a), .int .u64 c]) ∧ X % M256 * y + a = (X * y + a) % M256 + M256 * c ∧ Below w.heap.size w w' := by
  obtain ⟨x0, x1, x2, x3, hx0, hx1, hx2, hx3, eX, hX⟩ := wv_limbs X
  rw [hX]
  obtain ⟨h0, l0, bh0, bl0, e0, m0⟩ := multiplyAdd_ex x0 y a 0 hx0 hy ha (by decide)
  replace m0 : ∀ w, Calls Try.prog 91 #[.int .u64 x0, .int .u64 y, .int .u64 a, .int .u64 (0 : Int)] w fun e w' => e = .returned (.tuple #[.int .u64 h0, .int .u64 l0]) ∧ w = w' := m0
  obtain ⟨h1, l1, bh1, bl1, e1, m1⟩ := multiplyAdd_ex x1 y h0 0 hx1 hy bh0 (by decide)
  replace m1 : ∀ w, Calls Try.prog 91 #[.int .u64 x1, .int .u64 y, .int .u64 h0, .int .u64 (0 : Int)] w fun e w' => e = .returned (.tuple #[.int .u64 h1, .int .u64 l1]) ∧ w = w' := m1
  obtain ⟨h2, l2, bh2, bl2, e2, m2⟩ := multiplyAdd_ex x2 y h1 0 hx2 hy bh1 (by decide)
  replace m2 : ∀ w, Calls Try.prog 91 #[.int .u64 x2, .int .u64 y, .int .u64 h1, .int .u64 (0 : Int)] w fun e w' => e = .returned (.tuple #[.int .u64 h2, .int .u64 l2]) ∧ w = w' := m2
  obtain ⟨h3, l3, bh3, bl3, e3, m3⟩ := multiplyAdd_ex x3 y h2 0 hx3 hy bh2 (by decide)
  replace m3 : ∀ w, Calls Try.prog 91 #[.int .u64 x3, .int .u64 y, .int .u64 h2, .int .u64 (0 : Int)] w fun e w' => e = .returned (.tuple #[.int .u64 h3, .int .u64 l3]) ∧ w = w' := m3
  have hr := num_row e0 e1 e2 e3
  rw [← eX] at hr
  have hm : (X * y + a) % M256 = num l0 l1 l2 l3 := by
    have : (X % M256 * y + a) % M256 = (X * y + a) % M256 := by rw [Nat.add_mod, Nat.mul_mod, Nat.mod_mod, ← Nat.mul_mod, ← Nat.add_mod]
    rw [← this, hr, Nat.add_mul_mod_self_left, Nat.mod_eq_of_lt (num_lt bl0 bl1 bl2 bl3)]
  have HR : Hid (Value.agg #[.int .u64 l0, .int .u64 l1, .int .u64 l2, .int .u64 l3] = wv (X * y + a) ∧ X % M256 * y + a = (X * y + a) % M256 + M256 * h3) := ⟨wv_num bl0 bl1 bl2 bl3 hm, by rw [hr, hm]⟩
  clear hr hm eX hX hy ha hx0 hx1 hx2 hx3 bh0 bh1 bh2 bh3 bl0 bl1 bl2 bl3 e0 e1 e2 e3
  go_enter Try.func135, Try.ntmps135
  go_wp2_with fail
  refine wp_loop_rounds 5 ?_
  rw [rounds_succ]
  go_wp2_with fail
  refine (m0 _).mono ?_
  rintro e w' ⟨rfl, rfl⟩
  go_wp2_with fail
  rw [rounds_succ]
  go_wp2_with fail
  refine (m1 _).mono ?_
  rintro e w' ⟨rfl, rfl⟩
  go_wp2_with fail
  rw [rounds_succ]
  go_wp2_with fail
  refine (m2 _).mono ?_
  rintro e w' ⟨rfl, rfl⟩
  go_wp2_with fail
  rw [rounds_succ]
  go_wp2_with fail
  refine (m3 _).mono ?_
  rintro e w' ⟨rfl, rfl⟩
  go_wp2_with fail
  rw [rounds_succ]
  go_wp2_with fail
  refine bodyPost_ret (v := .tuple #[.agg #[.int .u64 l0, .int .u64 l1, .int .u64 l2, .int .u64 l3], .int .u64 h3]) (by simp [results, Try.results135, go_sem]) rfl ⟨h3, by rw [HR.out.1], HR.out.2, ?_⟩
  repeat first | exact Below.refl _ _ | apply Below.drew | (refine Below.alloc ?_ (by simp <;> omega) _) | (refine Below.setCell ?_ (by simp <;> omega) _)

end Go.Proofs.Ytpnijncoldihfaa
