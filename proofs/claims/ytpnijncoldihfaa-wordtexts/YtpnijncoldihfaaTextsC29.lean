/-
  A round of long division, in numbers.
-/
import Derived.Test.YtpnijncoldihfaaTextsC16
namespace Go.Proofs.Ytpnijncoldihfaa
open Go.RowKit Go.Shelf

/-- What is divided, as its lowest limbs and the part that a round looks at. -/
theorem part_split {lg : Nat → Nat} {V a n : Nat} (hV : V < 18446744073709551616 ^ n) (han : a + n < 9) (hlt : val lg 9 < V * 18446744073709551616 ^ (a + 1)) :
    val lg 9 = val lg a + val (fun j => lg (a + j)) (n + 1) * 18446744073709551616 ^ a ∧ val (fun j => lg (a + j)) (n + 1) < V * 18446744073709551616 ∧ ∀ j, a + n < j → j < 9 → lg j = 0 := by
  have hB : 0 < 18446744073709551616 ^ a := Nat.pow_pos (by decide)
  obtain ⟨d, hd⟩ : ∃ d, 9 = a + (n + 1) + d := ⟨9 - (a + (n + 1)), by omega⟩
  have h1 : val lg 9 = val lg a + val (fun j => lg (a + j)) (n + 1 + d) * 18446744073709551616 ^ a := by
    rw [hd, Nat.add_assoc, val_add]
  have h2 := val_add (fun j => lg (a + j)) (n + 1) d
  have hz : val (fun j => lg (a + (n + 1 + j))) d = 0 := by
    rcases Nat.eq_zero_or_pos (val (fun j => lg (a + (n + 1 + j))) d) with h | h
    · exact h
    · exfalso
      have h3 : 1 * 18446744073709551616 ^ (n + 1) ≤ val (fun j => lg (a + (n + 1 + j))) d * 18446744073709551616 ^ (n + 1) := Nat.mul_le_mul_right _ h
      have h4 : 18446744073709551616 ^ (n + 1) * 18446744073709551616 ^ a ≤ val (fun j => lg (a + j)) (n + 1 + d) * 18446744073709551616 ^ a := Nat.mul_le_mul_right _ (by rw [h2]; omega)
      have h5 : V * 18446744073709551616 ^ (a + 1) ≤ 18446744073709551616 ^ n * 18446744073709551616 ^ (a + 1) := Nat.mul_le_mul_right _ (Nat.le_of_lt hV)
      rw [← Nat.pow_add] at h4 h5
      rw [show n + 1 + a = n + (a + 1) by omega] at h4
      omega
  rw [hz, Nat.zero_mul, Nat.add_zero] at h2
  rw [h2] at h1
  refine ⟨h1, ?_, fun j hj hj9 => ?_⟩
  · apply Nat.lt_of_not_le
    intro hle
    have h6 : V * 18446744073709551616 * 18446744073709551616 ^ a ≤ val (fun j => lg (a + j)) (n + 1) * 18446744073709551616 ^ a := Nat.mul_le_mul_right _ hle
    have h8 : V * 18446744073709551616 * 18446744073709551616 ^ a = V * 18446744073709551616 ^ (a + 1) := by rw [Nat.mul_assoc, Nat.pow_succ, Nat.mul_comm (18446744073709551616 ^ a)]
    rw [h8] at h6
    exact absurd hlt (Nat.not_lt.2 (Nat.le_trans h6 (by rw [h1]; exact Nat.le_add_left _ _)))
  · have h7 : ∀ (m : Nat) (f : Nat → Nat), val f m = 0 → ∀ i, i < m → f i = 0 := by
      intro m
      induction m with
      | zero => intro f _ i hi; omega
      | succ m ih =>
        intro f hf i hi
        have e1 : val f m = 0 := by unfold val at hf; omega
        have e2 : f m * 18446744073709551616 ^ m = 0 := by unfold val at hf; omega
        by_cases him : i = m
        · subst him
          rcases Nat.mul_eq_zero.1 e2 with h | h
          · exact h
          · exact absurd h (Nat.ne_of_gt (Nat.pow_pos (by decide)))
        · exact ih f e1 i (by omega)
    have := h7 d (fun j => lg (a + (n + 1 + j))) hz (j - (a + (n + 1))) (by omega)
    rw [show a + (n + 1 + (j - (a + (n + 1)))) = j by omega] at this
    exact this

/-- The highest limbs of a number of n limbs, two or more. -/
theorem top_two {g : Nat → Nat} {k : Nat} : val g (k + 2) = (g (k + 1) * 18446744073709551616 + g k) * 18446744073709551616 ^ k + val g k := by
  show val g k + g k * 18446744073709551616 ^ k + g (k + 1) * 18446744073709551616 ^ (k + 1) = _
  rw [Nat.add_mul, Nat.pow_succ, Nat.mul_comm (18446744073709551616 ^ k), ← Nat.mul_assoc]
  omega

theorem top_three {g : Nat → Nat} {k : Nat} : val g (k + 3) = ((g (k + 2) * 18446744073709551616 + g (k + 1)) * 18446744073709551616 + g k) * 18446744073709551616 ^ k + val g k := by
  show val g (k + 2) + g (k + 2) * 18446744073709551616 ^ (k + 2) = _
  rw [top_two, Nat.pow_succ, Nat.pow_succ]
  generalize 18446744073709551616 ^ k = K
  generalize val g k = v
  rw [show g (k + 2) * (K * 18446744073709551616 * 18446744073709551616) = g (k + 2) * 18446744073709551616 * 18446744073709551616 * K by rw [Nat.mul_comm (K * 18446744073709551616), Nat.mul_comm K, ← Nat.mul_assoc, ← Nat.mul_assoc]]
  rw [Nat.add_mul (g (k + 2) * 18446744073709551616), Nat.add_mul _ _ K, Nat.add_mul _ _ K, Nat.add_mul _ _ K]
  omega

theorem big_hi {fi hi mi lo : Nat} (hc : fi < hi) : (fi + 1) * 18446744073709551616 * 18446744073709551616 ≤ (hi * 18446744073709551616 + mi) * 18446744073709551616 + lo := by omega

theorem big_fi {fi se : Nat} (h : se < 18446744073709551616) : fi * 18446744073709551616 + se + 1 ≤ (fi + 1) * 18446744073709551616 := by omega

/-- The guess of a round. -/
theorem round_guess {lg y : Nat → Nat} {V a k g0 R : Nat} (hl : ∀ j, lg j < 18446744073709551616) (hy : ∀ j, y j < 18446744073709551616) (hV : V = val y (k + 2)) (hf : 18446744073709551616 ≤ 2 * y (k + 1))
    (hP : val (fun j => lg (a + j)) (k + 3) < V * 18446744073709551616)
    (hg : (lg (a + (k + 2)) < y (k + 1) ∧ g0 = (lg (a + (k + 2)) * 18446744073709551616 + lg (a + (k + 1))) / y (k + 1) ∧ R = (lg (a + (k + 2)) * 18446744073709551616 + lg (a + (k + 1))) % y (k + 1)) ∨ (y (k + 1) ≤ lg (a + (k + 2)) ∧ g0 = 18446744073709551615 ∧ R = lg (a + (k + 1)) + y (k + 1))) :
    val (fun j => lg (a + j)) (k + 3) / V ≤ guessN g0 R (y k) (lg (a + k)) ∧ guessN g0 R (y k) (lg (a + k)) ≤ val (fun j => lg (a + j)) (k + 3) / V + 1 ∧ guessN g0 R (y k) (lg (a + k)) < 18446744073709551616 := by
  have e1 := top_three (g := fun j => lg (a + j)) (k := k)
  have e2 := top_two (g := y) (k := k)
  have b1 := val_lt (g := fun j => lg (a + j)) k (fun j _ => hl _)
  have b2 := val_lt (g := y) k (fun j _ => hy _)
  rw [← hV] at e2
  have f1 := hl (a + (k + 2))
  have f2 := hl (a + (k + 1))
  have f3 := hl (a + k)
  have f4 := hy (k + 1)
  have f5 := hy k
  generalize val (fun j => lg (a + j)) (k + 3) = P at *
  generalize val (fun j => lg (a + j)) k = plow at *
  generalize val y k = vlow at *
  generalize lg (a + (k + 2)) = hi at *
  generalize lg (a + (k + 1)) = mi at *
  generalize lg (a + k) = lo at *
  generalize y (k + 1) = fi at *
  generalize y k = se at *
  have hK : 0 < 18446744073709551616 ^ k := Nat.pow_pos (by decide)
  generalize 18446744073709551616 ^ k = K at *
  have hfi : 0 < fi := by omega
  have hle : hi ≤ fi := by
    apply Nat.le_of_not_lt
    intro hc
    have h1 : (fi + 1) * 18446744073709551616 * 18446744073709551616 * K ≤ P := by
      rw [e1]
      have : (fi + 1) * 18446744073709551616 * 18446744073709551616 ≤ (hi * 18446744073709551616 + mi) * 18446744073709551616 + lo := big_hi hc
      exact Nat.le_trans (Nat.mul_le_mul_right K this) (Nat.le_add_right _ _)
    have h2 : V * 18446744073709551616 ≤ (fi * 18446744073709551616 + se + 1) * K * 18446744073709551616 := by
      apply Nat.mul_le_mul_right
      rw [e2, Nat.add_mul _ 1 K, Nat.one_mul]
      exact Nat.add_le_add_left (Nat.le_of_lt b2) _
    have h3 : (fi * 18446744073709551616 + se + 1) * K * 18446744073709551616 ≤ (fi + 1) * 18446744073709551616 * 18446744073709551616 * K := by
      rw [Nat.mul_right_comm]
      apply Nat.mul_le_mul_right
      have : fi * 18446744073709551616 + se + 1 ≤ (fi + 1) * 18446744073709551616 := big_fi f5
      exact Nat.mul_le_mul_right _ this
    exact absurd hP (Nat.not_lt.2 (Nat.le_trans h2 (Nat.le_trans h3 h1)))
  unfold guessN
  rcases hg with ⟨g1, g2, g3⟩ | ⟨g1, g2, g3⟩
  · have hd := Nat.div_add_mod (hi * 18446744073709551616 + mi) fi
    rw [← g2, ← g3] at hd
    refine KD.guess (first := fi) (high := hi) (mid := mi) (K := K) (vlow := vlow) (plow := plow) _ e2 e1 (by rw [Nat.mul_comm]; exact hd) (Or.inl (by rw [g3]; exact Nat.mod_lt _ hfi)) ?_ rfl hP f5 f3 b2 b1 hf (by decide)
    rw [g2, Nat.div_lt_iff_lt_mul hfi, Nat.mul_comm]
    have : (hi + 1) * 18446744073709551616 ≤ fi * 18446744073709551616 := Nat.mul_le_mul_right _ g1
    omega
  · have hhf : hi = fi := by omega
    subst hhf
    refine KD.guess (first := hi) (high := hi) (mid := mi) (K := K) (vlow := vlow) (plow := plow) _ e2 e1 (by rw [g2, g3]; omega) (Or.inr (by rw [g2])) (by rw [g2]; omega) rfl hP f5 f3 b2 b1 hf (by decide)

/-- What the taking away shows of a guess. -/
theorem round_sub {P V G P' c M : Nat} (hV : 0 < V) (hVM : V < M) (h1 : P / V ≤ G) (h2 : G ≤ P / V + 1) (hP' : P' < M) (hc : c ≤ 1) (h : P + M * c = P' + G * V) :
    (c = 0 → G = P / V ∧ P' = P % V) ∧ (c = 1 → G = P / V + 1 ∧ ∀ P'' d, P'' < M → P' + V = P'' + M * d → P'' = P % V) := by
  have hd := Nat.div_add_mod P V
  have hm := Nat.mod_lt P hV
  rw [Nat.mul_comm] at hd
  refine ⟨fun hc0 => ?_, fun hc1 => ?_⟩
  · subst hc0
    have hG : G = P / V := by
      apply Nat.le_antisymm _ h1
      rw [Nat.le_div_iff_mul_le hV]
      omega
    subst hG
    omega
  · subst hc1
    have hG : G = P / V + 1 := by
      apply Nat.le_antisymm h2
      apply Nat.lt_of_not_le
      intro hle
      have : G * V ≤ P / V * V := Nat.mul_le_mul_right _ hle
      omega
    subst hG
    refine ⟨rfl, fun P'' d hP2 he => ?_⟩
    rw [Nat.add_mul, Nat.one_mul] at h
    have e : P'' + M * d = M + P % V := by omega
    have hd1 : d = 1 := by
      rcases Nat.lt_trichotomy d 1 with hh | hh | hh
      · have : d = 0 := by omega
        subst this; omega
      · exact hh
      · have : M * 2 ≤ M * d := Nat.mul_le_mul_left _ hh
        omega
    subst hd1
    omega

/-- The limbs behind a round. -/
theorem round_next {lg lg' : Nat → Nat} {V a n P : Nat} (hl : ∀ j, lg j < 18446744073709551616) (hV : 0 < V) (han : a + n < 9) (hsp : val lg 9 = val lg a + P * 18446744073709551616 ^ a)
    (hfar : ∀ j, j < a ∨ a + n < j → lg' j = lg j) (hhi : ∀ j, a + n < j → j < 9 → lg j = 0) (hp : val (fun j => lg' (a + j)) (n + 1) = P % V) :
    val lg 9 = val lg' 9 + P / V * V * 18446744073709551616 ^ a ∧ val lg' 9 < V * 18446744073709551616 ^ a := by
  obtain ⟨d, hd⟩ : ∃ d, 9 = a + (n + 1) + d := ⟨9 - (a + (n + 1)), by omega⟩
  have h0 : val lg' a = val lg a := val_congr a (fun j hj => hfar j (by omega))
  have hz : ∀ m (f : Nat → Nat), (∀ i, i < m → f i = 0) → val f m = 0 := by
    intro m
    induction m with
    | zero => intro f _; rfl
    | succ m ih => intro f hf; unfold val; rw [ih f (fun i hi => hf i (by omega)), hf m (by omega), Nat.zero_mul]
  have h1 : val lg' 9 = val lg a + P % V * 18446744073709551616 ^ a := by
    rw [hd, val_add, val_add, h0, hp]
    rw [hz d (fun j => lg' (a + (n + 1) + j)) (fun i hi => by rw [hfar _ (by omega)]; exact hhi _ (by omega) (by omega))]
    omega
  have hdm := Nat.div_add_mod P V
  have hm := Nat.mod_lt P hV
  refine ⟨?_, ?_⟩
  · rw [hsp, h1]
    have : P * 18446744073709551616 ^ a = (V * (P / V) + P % V) * 18446744073709551616 ^ a := by rw [hdm]
    rw [Nat.add_mul, Nat.mul_comm V] at this
    omega
  · rw [h1]
    have h2 := val_lt (g := lg) a (fun j _ => hl j)
    have h3 : (P % V + 1) * 18446744073709551616 ^ a ≤ V * 18446744073709551616 ^ a := Nat.mul_le_mul_right _ hm
    rw [Nat.add_mul, Nat.one_mul] at h3
    omega

end Go.Proofs.Ytpnijncoldihfaa
