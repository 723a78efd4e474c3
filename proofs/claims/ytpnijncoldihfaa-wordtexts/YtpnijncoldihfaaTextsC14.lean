/-
  Powers of words.
-/
import Derived.Test.YtpnijncoldihfaaTextsC13
namespace Go.Proofs.Ytpnijncoldihfaa
open Go.RowKit Go.Shelf

theorem get4 (g : Nat → Nat) {j : Nat} (h : j < 4) : (#[.int .u64 (g 0), .int .u64 (g 1), .int .u64 (g 2), .int .u64 (g 3)] : Array Value)[j]? = some (.int .u64 (g j)) := by
  match j, h with
  | 0, _ => rfl
  | 1, _ => rfl
  | 2, _ => rfl
  | 3, _ => rfl

theorem top_zero_m {N m : Nat} (hN : N < 18446744073709551616 ^ m) : ∀ (d n : Nat), n + d = m → (∀ j, n ≤ j → j < m → limb N j = 0) → N < 18446744073709551616 ^ n := by
  intro d
  induction d with
  | zero => intro n h _; rwa [show n = m by omega]
  | succ d ih =>
    intro n h hz
    have h1 := ih (n + 1) (by omega) (fun j h1 h2 => hz j (by omega) h2)
    have h2 := hz n (Nat.le_refl _) (by omega)
    unfold limb at h2
    rw [Nat.mod_eq_of_lt (by rw [Nat.div_lt_iff_lt_mul (Nat.pow_pos (by decide)), Nat.mul_comm, ← Nat.pow_succ]; exact h1)] at h2
    exact (Nat.div_eq_zero_iff_lt (Nat.pow_pos (by decide))).1 h2

/-- How many bits a number has: the top limb's, and 64 for each limb below it. -/
theorem bits_lt {Z j : Nat} (ht : Z < 18446744073709551616 ^ (j + 1)) : Z < 2 ^ (64 * j + Lib.bitLen (limb Z j)) := by
  have hl := limb_lt Z j
  have hb := bitLen_upper _ (limb Z j) (by simpa using hl) (Nat.le_refl _)
  have hd : Z / 18446744073709551616 ^ j = limb Z j := by
    unfold limb
    rw [Nat.mod_eq_of_lt]
    rw [Nat.div_lt_iff_lt_mul (Nat.pow_pos (by decide)), Nat.mul_comm, ← Nat.pow_succ]
    exact ht
  have h2 : Z < (limb Z j + 1) * 18446744073709551616 ^ j := by
    rw [← hd]
    have := Nat.lt_mul_div_succ Z (Nat.pow_pos (n := j) (show 0 < 18446744073709551616 by decide))
    rw [Nat.mul_comm]
    exact this
  refine Nat.lt_of_lt_of_le h2 ?_
  rw [Nat.pow_add, Nat.mul_comm, show (18446744073709551616 : Nat) = 2 ^ 64 by decide, ← Nat.pow_mul]
  exact Nat.mul_le_mul_left _ hb

/-- How many bits a number has, from below. -/
theorem bits_ge {Z j : Nat} (hnz : limb Z j ≠ 0) : 2 ^ (64 * j + Lib.bitLen (limb Z j) - 1) ≤ Z := by
  have hl := limb_lt Z j
  obtain ⟨h1, h2⟩ := bitLen_pos (x := limb Z j) (by omega) hl
  have hb := bitLen_lower (x := limb Z j) (k := Lib.bitLen (limb Z j) - 1) (by omega) (by omega)
  have hd : limb Z j ≤ Z / 18446744073709551616 ^ j := Nat.mod_le _ _
  have h3 : limb Z j * 18446744073709551616 ^ j ≤ Z := Nat.le_trans (Nat.mul_le_mul_right _ hd) (Nat.div_mul_le_self _ _)
  refine Nat.le_trans ?_ h3
  rw [show 64 * j + Lib.bitLen (limb Z j) - 1 = (Lib.bitLen (limb Z j) - 1) + 64 * j by omega, Nat.pow_add, show (18446744073709551616 : Nat) = 2 ^ 64 by decide, ← Nat.pow_mul]
  exact Nat.mul_le_mul_right _ hb

set_option maxHeartbeats 1000000 in
set_option maxRecDepth 100000 in
theorem bits_any (Y : Nat) (w : World) : Calls Try.prog 66 #[wv Y] w fun e w' => (∃ n : Nat, e = .returned (.int .i64 n) ∧ n ≤ 256 ∧ Y % M256 < 2 ^ n ∧ (0 < n → 2 ^ (n - 1) ≤ Y % M256)) ∧ Below w.heap.size w w' := by
  rw [← wv_mod Y]
  obtain ⟨Z, hZ⟩ : ∃ Z, Z = Y % M256 := ⟨_, rfl⟩
  have hZ4 : Z < 18446744073709551616 ^ 4 := by rw [hZ]; exact Nat.lt_of_lt_of_le (Nat.mod_lt _ M256_pos) (by decide)
  rw [← hZ, wv_limb]
  clear hZ
  have hu := fun W (h : ∀ j, j < 4 → W.cell? ⟨w.heap.size, j, none⟩ = some (.int .u64 (limb Z j))) => used_any W (w.heap.size) 4 4 (limb Z) (by omega) h
  have HU := hideP hu
  have HZ := hideP hZ4
  clear hu hZ4
  go_enter Try.func66, Try.ntmps66
  go_wp2_with fail
  refine (HU.out _ (fun j hj => ?_)).mono ?_
  · match j, hj with
    | 0, _ => exact blk_cell (heap_new _ _) rfl
    | 1, _ => exact blk_cell (heap_new _ _) rfl
    | 2, _ => exact blk_cell (heap_new _ _) rfl
    | 3, _ => exact blk_cell (heap_new _ _) rfl
  rintro e W1 ⟨⟨k, rfl, hk, hz, hnz⟩, rfl⟩
  by_cases h0 : k = 0
  · subst h0
    have hZ0 : Z < 18446744073709551616 ^ 0 := top_zero_m HZ.out 4 0 (by omega) hz
    have HZ0 := hideP hZ0
    clear hz hnz hk hZ0
    go_wp2_with fail
    go_ret
    refine ⟨⟨0, rfl, by omega, by simpa using HZ0.out, fun h => by omega⟩, ?_⟩
    repeat first | exact Below.refl _ _ | apply Below.drew | (refine Below.alloc ?_ (by simp <;> omega) _) | (refine Below.setCell ?_ (by simp <;> omega) _)
  · obtain ⟨j, rfl⟩ : ∃ j, k = j + 1 := ⟨k - 1, by omega⟩
    have ht : Z < 18446744073709551616 ^ (j + 1) := top_zero_m HZ.out (4 - (j + 1)) (j + 1) (by omega) hz
    have hn := hnz (by omega)
    simp only [Nat.add_sub_cancel] at hn
    have hl := limb_lt Z j
    obtain ⟨p1, p2⟩ := bitLen_pos (x := limb Z j) (by omega) hl
    have HR : Hid (64 * j + Lib.bitLen (limb Z j) ≤ 256 ∧ Z < 2 ^ (64 * j + Lib.bitLen (limb Z j)) ∧ 2 ^ (64 * j + Lib.bitLen (limb Z j) - 1) ≤ Z) := ⟨by omega, bits_lt ht, bits_ge hn⟩
    have hlen := fun W => len64_any (limb Z j) W hl
    have HLEN := hideP hlen
    have cj' : (w.alloc (.cells #[.int .u64 (limb Z 0), .int .u64 (limb Z 1), .int .u64 (limb Z 2), .int .u64 (limb Z 3)] 24)).cell? ⟨w.heap.size, j, none⟩ = some (.int .u64 (limb Z j)) := blk_cell (heap_new _ _) (get4 _ (by omega))
    generalize Lib.bitLen (limb Z j) = bl at HR HLEN p1 p2
    have e0 : IntKind.i64.wrap ((j : Int) + 1 - 1) = (j : Int) := by rw [IntKind.wrap_i64]; omega
    have e0' : IntKind.i64.wrap (j : Int) = (j : Int) := by rw [IntKind.wrap_i64]; omega
    have e1 : IntKind.i64.wrap (64 * (j : Int)) = 64 * (j : Int) := by rw [IntKind.wrap_i64]; omega
    have e2 : IntKind.i64.wrap (64 * (j : Int) + bl) = 64 * (j : Int) + bl := by rw [IntKind.wrap_i64]; omega
    have hj4 : (j : Int) < 4 := by omega
    have hj0 : ¬ ((j : Int) + 1 = 0) := by omega
    clear hz hnz hk ht hn hl hlen h0
    go_wp2_with (go_at_call 112; refine (HLEN.out _).mono ?_; rintro e w' ⟨rfl, rfl⟩)
    go_ret
    refine ⟨⟨64 * j + bl, by simp, HR.out.1, HR.out.2.1, fun _ => HR.out.2.2⟩, ?_⟩
    repeat first | exact Below.refl _ _ | apply Below.drew | (refine Below.alloc ?_ (by simp <;> omega) _) | (refine Below.setCell ?_ (by simp <;> omega) _)

end Go.Proofs.Ytpnijncoldihfaa

namespace Go.Proofs.Ytpnijncoldihfaa
open Go.RowKit Go.Shelf

/-- The boxes of a power. -/
structure EB (w : World) (B Z Xi P : Nat) (wr : World) : Prop where
  x : wr.heap[w.heap.size]? = some (.cells #[.int .u64 (limb Xi 0), .int .u64 (limb Xi 1), .int .u64 (limb Xi 2), .int .u64 (limb Xi 3)] 24 (0, 0))
  y : wr.heap[w.heap.size + 1]? = some (.cells #[.int .u64 (limb Z 0), .int .u64 (limb Z 1), .int .u64 (limb Z 2), .int .u64 (limb Z 3)] 24 (0, 0))
  r : wr.heap[w.heap.size + 1 + 1]? = some (.cells #[.int .u64 0, .int .u64 0, .int .u64 0, .int .u64 0] 24 (0, 0))
  p : wr.heap[B]? = some (.cells #[.int .u64 (limb P 0), .int .u64 (limb P 1), .int .u64 (limb P 2), .int .u64 (limb P 3)] 24 (0, 0))
  lt : w.heap.size + 1 + 1 < B
  b : Below w.heap.size w wr

section
variable {w wr V : World} {B Z Xi P : Nat}
theorem EB.call (h : EB w B Z Xi P wr) (hb : Below wr.heap.size wr V) : EB w B Z Xi P V := by
  have k : ∀ {b : Nat} {o : Obj}, wr.heap[b]? = some o → V.heap[b]? = some o := fun h => (hb.block _ (Array.getElem?_eq_some_iff.1 h).1).trans h
  exact ⟨k h.x, k h.y, k h.r, k h.p, h.lt, h.b.trans (hb.mono h.b.size)⟩

theorem EB.setP (h : EB w B Z Xi P wr) (P' : Nat) : EB w B Z Xi P' ((((wr.setCell ⟨B, 0, none⟩ (.int .u64 (limb P' 0))).setCell ⟨B, 1, none⟩ (.int .u64 (limb P' 1))).setCell ⟨B, 2, none⟩ (.int .u64 (limb P' 2))).setCell ⟨B, 3, none⟩ (.int .u64 (limb P' 3))) := by
  have hl := h.lt
  exact ⟨(other4 (by omega)).trans h.x, (other4 (by omega)).trans h.y, (other4 (by omega)).trans h.r, stored4 h.p, hl, below_stored4 h.b (by omega)⟩

theorem EB.setX (h : EB w B Z Xi P wr) (X' : Nat) : EB w B Z X' P ((((wr.setCell ⟨w.heap.size, 0, none⟩ (.int .u64 (limb X' 0))).setCell ⟨w.heap.size, 1, none⟩ (.int .u64 (limb X' 1))).setCell ⟨w.heap.size, 2, none⟩ (.int .u64 (limb X' 2))).setCell ⟨w.heap.size, 3, none⟩ (.int .u64 (limb X' 3))) := by
  have hl := h.lt
  exact ⟨stored4 h.x, (other4 (by omega)).trans h.y, (other4 (by omega)).trans h.r, (other4 (by omega)).trans h.p, hl, below_stored4 h.b (by omega)⟩

end

/-- Where a power has come to. -/
def EI (w wr : World) (B X Z k Xi P : Nat) : Prop := EB w B Z Xi P wr ∧ P * Xi ^ (Z / 2 ^ k) % M256 = X ^ Z % M256

theorem bit_test (Z a s : Nat) (hs : s < 64) : (bits .and .u64 ((limb Z a : Int) / 2 ^ s) 1 == 1) = decide (Z / 2 ^ (64 * a + s) % 2 = 1) := by
  have hl := limb_lt Z a
  have h1 : limb Z a / 2 ^ s < 18446744073709551616 := Nat.lt_of_le_of_lt (Nat.div_le_self _ _) hl
  have e : ((limb Z a : Int) / 2 ^ s) = ((limb Z a / 2 ^ s : Nat) : Int) := by simp
  have h2 := bits_and_u64_nat (limb Z a / 2 ^ s) 1 h1 (by omega)
  rw [Nat.and_one_is_mod] at h2
  rw [e]
  rw [show (1 : Int) = ((1 : Nat) : Int) from rfl, h2]
  have h3 : (limb Z a / 2 ^ s % 2 = 1) ↔ (Z / 2 ^ (64 * a + s) % 2 = 1) := by
    have t1 := Nat.testBit_eq_decide_div_mod_eq (x := limb Z a) (i := s)
    have t2 := Nat.testBit_eq_decide_div_mod_eq (x := Z / 18446744073709551616 ^ a) (i := s)
    have t3 : (limb Z a).testBit s = (Z / 18446744073709551616 ^ a).testBit s := by
      unfold limb
      rw [show (18446744073709551616 : Nat) = 2 ^ 64 by decide, Nat.testBit_mod_two_pow]
      simp [hs]
    rw [t1, t2, Nat.div_div_eq_div_mul, show (18446744073709551616 : Nat) = 2 ^ 64 by decide, ← Nat.pow_mul, ← Nat.pow_add] at t3
    simpa using t3
  rw [Bool.eq_iff_iff]
  simp only [beq_iff_eq, decide_eq_true_eq]
  omega

theorem pow_step {P Xi Z k X : Nat} (h : P * Xi ^ (Z / 2 ^ k) % M256 = X ^ Z % M256) :
    (if Z / 2 ^ k % 2 = 1 then P * Xi else P) * (Xi * Xi) ^ (Z / 2 ^ (k + 1)) % M256 = X ^ Z % M256 := by
  rw [← h, Nat.pow_succ, ← Nat.div_div_eq_div_mul]
  generalize Z / 2 ^ k = m
  have e : (Xi * Xi) ^ (m / 2) = Xi ^ (2 * (m / 2)) := by rw [Nat.pow_mul, Nat.pow_two]
  rw [e]
  split
  · rename_i h1
    rw [Nat.mul_assoc, ← Nat.pow_succ', show (2 * (m / 2)).succ = m by omega]
  · rename_i h1
    rw [show 2 * (m / 2) = m by omega]

set_option maxHeartbeats 2000000 in
set_option maxRecDepth 100000 in
theorem exp_any (X Y : Nat) (w : World) : Calls Try.prog 45 #[wv X, wv Y] w fun e w' => e = .returned (wv (X ^ (Y % M256))) ∧ Below w.heap.size w w' := by
  rw [← wv_mod Y]
  obtain ⟨Z, hZ⟩ : ∃ Z, Z = Y % M256 := ⟨_, rfl⟩
  have hZM : Z % M256 = Z := by rw [hZ, Nat.mod_mod]
  rw [← hZ]
  clear hZ
  obtain ⟨RES, hRES⟩ : ∃ RES, RES = wv (X ^ Z) := ⟨_, rfl⟩
  rw [← hRES]
  have HRES := hideP hRES
  clear hRES
  have hof := fun W => of_any 1 (by omega) W
  have hbi := fun W => bits_any Z W
  have hmu := fun A C W => mul_any A C W
  simp only [wv_limb, hZM] at hof hbi hmu ⊢
  have HOF := hideP hof
  have HBI := hideP hbi
  have HMU := hideP hmu
  clear hof hbi hmu hZM
  go_enter Try.func45, Try.ntmps45
  go_wp2_with fail
  refine (HOF.out _).mono ?_
  rintro e w1 ⟨rfl, hb⟩
  have hx1 := (kept4 hb ((heap_old _ _ (by simp <;> omega)).trans ((heap_old _ _ (by simp)).trans (heap_new _ _)))).1
  obtain ⟨hy1, cy0, cy1, cy2, cy3, _, _, _, _⟩ := kept4 hb ((heap_old _ _ (by simp)).trans (heap_new1 _ _ _))
  have hr1 := (kept4 hb (heap_new2 _ _ _ _)).1
  have hsz := hb.size
  simp only [World.size_alloc] at hsz
  have HB1 : Hid (Below w.heap.size w w1) := ((((Below.refl _ w).alloc (Nat.le_refl _) _).alloc (by simp) _).alloc (by simp <;> omega) _).trans (hb.mono (by simp <;> omega))
  have HX1 := hideP hx1
  have HY1 := hideP hy1
  have HR1 := hideP hr1
  have hlt : w.heap.size + 1 < w1.heap.size := by omega
  have hne : ¬ (w.heap.size + 1 = w1.heap.size) := by omega
  have HSZ := hideP hsz
  clear hb hx1 hy1 hr1 hsz
  go_wp2_with fail
  refine (HBI.out _).mono ?_
  rintro e w2 ⟨⟨n, rfl, hn, hZn, _⟩, hb2⟩
  obtain ⟨B, hB⟩ : ∃ B, B = w1.heap.size := ⟨_, rfl⟩
  have HI0 : Hid (EI w w2 B X Z 0 X 1) := by
    have k : ∀ {b : Nat} {o : Obj}, w1.heap[b]? = some o → w2.heap[b]? = some o := fun h => (hb2.block _ (by have := (Array.getElem?_eq_some_iff.1 h).1; simp; omega)).trans ((heap_old _ _ (Array.getElem?_eq_some_iff.1 h).1).trans h)
    refine ⟨⟨k HX1.out, k HY1.out, k HR1.out, ?_, by have := HSZ.out; omega, ((HB1.out.alloc HB1.out.size _).trans (hb2.mono (Nat.le_trans HB1.out.size (by simp))))⟩, by rw [Nat.pow_zero, Nat.div_one, Nat.one_mul]⟩
    rw [hB]
    exact (hb2.block _ (by simp)).trans (heap_new _ _)
  have HZN := hideP hZn
  rw [← hB]
  clear hb2 hZn hB cy0 cy1 cy2 cy3 hlt hne HX1 HY1 HR1 HB1 HSZ HOF HBI
  go_wp2_with fail
  go_loopw [6, 10] (fun _ i wr => ∃ k Xi P : Nat, k ≤ n ∧ i = .int .i64 k ∧ EI w wr B X Z k Xi P) (fun _ i _ => n - (intOf i).toNat)
  case atStart => exact ⟨0, X, 1, Nat.zero_le _, rfl, HI0.out⟩
  case round =>
    obtain ⟨k, Xi, P, hk, rfl, I⟩ := hrel
    have HI := hideP I
    clear I
    by_cases hlt : k < n
    · obtain ⟨a, ha⟩ : ∃ a, a = k / 64 := ⟨_, rfl⟩
      obtain ⟨s, hs⟩ : ∃ s, s = k % 64 := ⟨_, rfl⟩
      have cy : wr.cell? ⟨w.heap.size + 1, a, none⟩ = some (.int .u64 (limb Z a)) := blk_cell HI.out.1.y (get4 _ (by omega))
      obtain ⟨cx0, cx1, cx2, cx3⟩ := cells4 HI.out.1.x
      obtain ⟨cp0, cp1, cp2, cp3⟩ := cells4 HI.out.1.p
      have e1 : (k : Int) / 64 = (a : Int) := by omega
      have e2 : (k : Int) % 64 = (s : Int) := by omega
      have e3 : IntKind.i64.wrap ((k : Int) + 1) = (k : Int) + 1 := by rw [IntKind.wrap_i64]; omega
      have ha4 : (a : Int) < 4 := by omega
      have hs64 : (s : Int) < 64 := by omega
      have hlt' : (k : Int) < n := by omega
      have hbt := bit_test Z a s (by omega)
      rw [show 64 * a + s = k by omega] at hbt
      have hps := pow_step HI.out.2
      have hks : k + 1 ≤ n := hlt
      have HKS := hideP hks
      clear ha hs hlt hk hks
      by_cases hbit : Z / 2 ^ k % 2 = 1
      · rw [if_pos hbit] at hps
        have hbb : (bits .and .u64 ((limb Z a : Int) / 2 ^ s) 1 == 1) = true := by rw [hbt]; simpa using hbit
        have HPS := hideP hps
        clear hbt hps hbit
        go_wp2_with fail
        refine (HMU.out P Xi _).mono ?_
        rintro e V1 ⟨rfl, hb1⟩
        have hE1 := HI.out.1.call hb1
        obtain ⟨a0, a1, a2, a3⟩ := cells4 hE1.p
        have fa : ∀ o, V1.frozen? ⟨B, o, none⟩ = false := fun o => blk_free hE1.p
        have hE2 := hE1.setP (P * Xi)
        have HE1 := hideP hE1
        have hx1 := cells4 hE1.x
        obtain ⟨b0, b1, b2, b3⟩ := hx1
        have hlB := hE1.lt
        have n1 : ¬ (w.heap.size = B) := by omega
        have n2 : ¬ (B = w.heap.size) := by omega
        have HE := hideP hE2
        clear hb1 hE1 hE2 cy cx0 cx1 cx2 cx3 cp0 cp1 cp2 cp3 hbb hlB
        go_wp2_with fail
        refine (HMU.out Xi Xi _).mono ?_
        rintro e V3 ⟨rfl, hb3⟩
        have hE3 := HE.out.call hb3
        obtain ⟨a0, a1, a2, a3⟩ := cells4 hE3.x
        have fa : ∀ o, V3.frozen? ⟨w.heap.size, o, none⟩ = false := fun o => blk_free hE3.x
        have hE4 := hE3.setX (Xi * Xi)
        have HE4 := hideP hE4
        clear hb3 hE3 hE4
        go_wp2_with fail
        refine ⟨⟨k + 1, Xi * Xi, (P * Xi), HKS.out, by go_num, HE4.out, HPS.out⟩, by have := HKS.out; simp [intOf]; omega⟩
      · rw [if_neg hbit] at hps
        have hbb : (bits .and .u64 ((limb Z a : Int) / 2 ^ s) 1 == 1) = false := by rw [hbt]; simpa using hbit
        have HPS := hideP hps
        have HE := hideP HI.out.1
        clear hbt hps hbit
        go_wp2_with fail
        refine (HMU.out Xi Xi _).mono ?_
        rintro e V3 ⟨rfl, hb3⟩
        have hE3 := HE.out.call hb3
        obtain ⟨a0, a1, a2, a3⟩ := cells4 hE3.x
        have fa : ∀ o, V3.frozen? ⟨w.heap.size, o, none⟩ = false := fun o => blk_free hE3.x
        have hE4 := hE3.setX (Xi * Xi)
        have HE4 := hideP hE4
        clear hb3 hE3 hE4
        go_wp2_with fail
        refine ⟨⟨k + 1, Xi * Xi, P, HKS.out, by go_num, HE4.out, HPS.out⟩, by have := HKS.out; simp [intOf]; omega⟩
    · have hkn : k = n := by omega
      subst hkn
      have he := HI.out.2
      rw [Nat.div_eq_of_lt HZN.out, Nat.pow_zero, Nat.mul_one] at he
      have HE : Hid (RES = .agg #[.int .u64 (limb P 0), .int .u64 (limb P 1), .int .u64 (limb P 2), .int .u64 (limb P 3)]) := by
        show _ = _
        rw [HRES.out, ← wv_limb]
        exact wv_congr he.symm
      obtain ⟨cp0, cp1, cp2, cp3⟩ := cells4 HI.out.1.p
      obtain ⟨k0, k1, k2, k3⟩ := cells4 HI.out.1.r
      have fr : ∀ o, wr.frozen? ⟨w.heap.size + 1 + 1, o, none⟩ = false := fun o => blk_free HI.out.1.r
      have HB3 := hideP HI.out.1.b
      clear he hlt hk
      go_wp2_with fail
      refine bodyPost_ret (v := .agg #[.int .u64 (limb P 0), .int .u64 (limb P 1), .int .u64 (limb P 2), .int .u64 (limb P 3)]) (by simp [results, Try.results45, go_sem, k0, k1, k2, k3, World.cell?_setCell_same]) rfl ⟨by rw [HE.out], ?_⟩
      repeat first | exact HB3.out | apply Below.drew | (refine Below.alloc ?_ (by simp <;> omega) _) | (refine Below.setCell ?_ (by simp <;> omega) _)

end Go.Proofs.Ytpnijncoldihfaa
