/-
  Primes by their certificates: of every number that is not 0 modulo such a prime p the power p - 1 is 1.
-/
import Derived.Test.YtiekipkmfopdoaaBase
namespace Go.Proofs.Ytiekipkmfopdoaa
open Go.RowKit Go.Shelf

/-- A prime. -/
def Pr (p : Nat) : Prop := 1 < p ∧ ∀ d, d ∣ p → d = 1 ∨ d = p

theorem Pr.euclid {p a b : Nat} (h : Pr p) (hd : p ∣ a * b) : p ∣ a ∨ p ∣ b := by
  by_cases ha : p ∣ a
  · exact Or.inl ha
  · right
    have hc : Nat.Coprime p a := by
      rcases h.2 _ (Nat.gcd_dvd_left p a) with e | e
      · exact e
      · exact absurd (e ▸ Nat.gcd_dvd_right p a) ha
    exact hc.dvd_of_dvd_mul_left hd

theorem Pr.pow {p q : Nat} (h : Pr p) (hq : Pr q) : ∀ e, p ∣ q ^ e → p = q
  | 0, hd => by
    rw [Nat.pow_zero, Nat.dvd_one] at hd
    have := h.1
    omega
  | e + 1, hd => by
    rw [Nat.pow_succ] at hd
    rcases h.euclid hd with hd | hd
    · exact h.pow hq e hd
    · rcases hq.2 _ hd with e | e
      · have := h.1
        omega
      · exact e

/-- Every number above 1 has a prime that divides it. -/
theorem has_prime : ∀ (k n : Nat), n ≤ k → 1 < n → ∃ p, Pr p ∧ p ∣ n
  | 0, n, h, h1 => by omega
  | k + 1, n, h, h1 => by
    by_cases hp : ∀ d, d ∣ n → d = 1 ∨ d = n
    · exact ⟨n, ⟨h1, hp⟩, Nat.dvd_refl n⟩
    · simp only [Classical.not_forall] at hp
      obtain ⟨d, hd, hne⟩ := hp
      have hle := Nat.le_of_dvd (by omega) hd
      have hd0 : d ≠ 0 := by
        rintro rfl
        rw [Nat.zero_dvd] at hd
        omega
      obtain ⟨p, hp1, hp2⟩ := has_prime k d (by omega) (by omega)
      exact ⟨p, hp1, Nat.dvd_trans hp2 hd⟩

/-- The product of primes to their powers. -/
def prodL : List (Nat × Nat) → Nat
  | [] => 1
  | (q, e) :: r => q ^ e * prodL r

def AllPr : List (Nat × Nat) → Prop
  | [] => True
  | (q, _) :: r => Pr q ∧ AllPr r

theorem prime_in {p : Nat} (hp : Pr p) : ∀ (L : List (Nat × Nat)), AllPr L → p ∣ prodL L → ∃ e, (p, e) ∈ L
  | [], _, hd => by
    unfold prodL at hd
    rw [Nat.dvd_one] at hd
    have := hp.1
    omega
  | (q, e) :: r, hL, hd => by
    unfold prodL at hd
    unfold AllPr at hL
    rcases hp.euclid hd with hd | hd
    · have := hp.pow hL.1 e hd
      subst this
      exact ⟨e, by simp⟩
    · obtain ⟨e', he⟩ := prime_in hp r hL.2 hd
      exact ⟨e', by simp [he]⟩

theorem pow_one_mod {N a d : Nat} (h : a ^ d % N = 1) (k : Nat) (hN : 1 < N) : (a ^ d) ^ k % N = 1 := by
  rw [Nat.pow_mod, h, Nat.one_pow, Nat.mod_eq_of_lt hN]

/-- Exponents whose power is 1 have a greatest divisor whose power is 1. -/
theorem pow_gcd {N a : Nat} (hN : 1 < N) (m n : Nat) : a ^ m % N = 1 → a ^ n % N = 1 → a ^ Nat.gcd m n % N = 1 := by
  induction m, n using Nat.gcd.induction with
  | H0 n => intro _ h; rwa [Nat.gcd_zero_left]
  | H1 m n hm ih =>
    intro h1 h2
    rw [Nat.gcd_rec]
    refine ih ?_ h1
    have e : a ^ n = (a ^ m) ^ (n / m) * a ^ (n % m) := by
      rw [← Nat.pow_mul, ← Nat.pow_add, Nat.div_add_mod]
    rw [e, Nat.mul_mod, pow_one_mod h1 _ hN, Nat.one_mul, Nat.mod_mod] at h2
    exact h2

/-- So many different values in so few places: each place has one. -/
theorem php : ∀ (n : Nat) (f : Nat → Nat), (∀ i, i < n → f i < n) → (∀ i j, i < n → j < n → f i = f j → i = j) → ∀ y, y < n → ∃ i, i < n ∧ f i = y
  | 0, _, _, _, y, hy => by omega
  | n + 1, f, hf, hi, y, hy => by
    have hne : ∀ i, i < n → f i ≠ f n := fun i h e => by
      have := hi i n (by omega) (by omega) e
      omega
    have ih := php n (fun i => if f i = n then f n else f i) (fun i h => by
      show (if f i = n then f n else f i) < n
      have h1 := hf i (by omega)
      have h2 := hf n (by omega)
      have h3 := hne i h
      split <;> omega) (fun i j h1 h2 e => by
      have e' : (if f i = n then f n else f i) = (if f j = n then f n else f j) := e
      have a1 := hne i h1
      have a2 := hne j h2
      apply hi i j (by omega) (by omega)
      split at e' <;> split at e' <;> omega)
    by_cases h1 : y = f n
    · exact ⟨n, by omega, h1.symm⟩
    · by_cases h2 : y = n
      · have hv := hf n (by omega)
        obtain ⟨i, hin, he⟩ := ih (f n) (by omega)
        have he' : (if f i = n then f n else f i) = f n := he
        have a1 := hne i hin
        refine ⟨i, by omega, ?_⟩
        split at he' <;> omega
      · obtain ⟨i, hin, he⟩ := ih y (by omega)
        have he' : (if f i = n then f n else f i) = y := he
        refine ⟨i, by omega, ?_⟩
        split at he' <;> omega

/-- A power, modulo n. -/
def pm (n : Nat) : Nat → Nat → Nat → Nat
  | 0, _, _ => 1 % n
  | k + 1, a, e => bif Nat.beq e 0 then 1 % n else bif Nat.beq (e % 2) 1 then a * pm n k (a * a % n) (e / 2) % n else pm n k (a * a % n) (e / 2)

theorem pm_eq (n : Nat) : ∀ (k a e : Nat), e < 2 ^ k → pm n k a e = a ^ e % n
  | 0, a, e, h => by
    obtain rfl : e = 0 := by simpa using h
    simp [pm]
  | k + 1, a, e, h => by
    have ih := pm_eq n k (a * a % n) (e / 2) (by rw [Nat.pow_succ] at h; omega)
    unfold pm
    by_cases h0 : e = 0
    · subst h0
      simp
    · have b0 : Nat.beq e 0 = false := by
        rw [Bool.eq_false_iff]
        intro hb
        exact h0 (Nat.eq_of_beq_eq_true hb)
      have hsq : (a * a % n) ^ (e / 2) % n = a ^ (2 * (e / 2)) % n := by
        rw [← Nat.pow_mod, Nat.pow_mul, Nat.pow_two]
      rw [b0, cond_false]
      by_cases h1 : e % 2 = 1
      · have b1 : Nat.beq (e % 2) 1 = true := by rw [h1]; rfl
        rw [b1, cond_true, ih, hsq, Nat.mul_mod_mod, Nat.mul_comm, ← Nat.pow_succ, show (2 * (e / 2)).succ = e by omega]
      · have b1 : Nat.beq (e % 2) 1 = false := by
          rw [show e % 2 = 0 by omega]
          rfl
        rw [b1, cond_false, ih, hsq, show 2 * (e / 2) = e by omega]

/-- A certificate holds. -/
def lucB (k N a : Nat) (L : List (Nat × Nat)) : Bool :=
  Nat.beq (prodL L) (N - 1) && Nat.beq (pm N (64 * k) a (N - 1)) 1 && (L.all fun q => !(Nat.beq (pm N (64 * k) a ((N - 1) / q.1)) 1))

/-- Fermat's law holds modulo p. -/
def Ferm (p : Nat) : Prop := ∀ X, X % p ≠ 0 → X ^ (p - 1) % p = 1

theorem lucas {k N a : Nat} {L : List (Nat × Nat)} (h2 : 2 < N) (hN4 : N < 18446744073709551616 ^ k) (hL : AllPr L) (h : lucB k N a L = true) : Ferm N := by
  have hN : 1 < N := by omega
  have hb400 : ∀ e, e ≤ N → e < 2 ^ (64 * k) := fun e he => by
    rw [Nat.pow_mul]
    exact Nat.lt_of_le_of_lt he hN4
  unfold lucB at h
  simp only [Bool.and_eq_true, List.all_eq_true] at h
  obtain ⟨⟨hp, h1⟩, hq⟩ := h
  replace hp := Nat.eq_of_beq_eq_true hp
  replace h1 := Nat.eq_of_beq_eq_true h1
  rw [pm_eq N (64 * k) a _ (hb400 _ (by omega))] at h1
  have hq' : ∀ q e, (q, e) ∈ L → a ^ ((N - 1) / q) % N ≠ 1 := fun q e hm hc => by
    have := hq (q, e) hm
    rw [pm_eq N (64 * k) a _ (hb400 _ (Nat.le_trans (Nat.div_le_self _ _) (by omega))), hc] at this
    cases this
  -- no smaller power is 1
  have hord : ∀ d, 0 < d → d < N - 1 → a ^ d % N ≠ 1 := fun d hd0 hd hc => by
    have hg := pow_gcd hN d (N - 1) hc h1
    have hgd : Nat.gcd d (N - 1) ∣ N - 1 := Nat.gcd_dvd_right _ _
    have hgl := Nat.le_of_dvd hd0 (Nat.gcd_dvd_left d (N - 1))
    have hg0 : 0 < Nat.gcd d (N - 1) := Nat.gcd_pos_of_pos_left _ hd0
    generalize Nat.gcd d (N - 1) = g at *
    obtain ⟨t, ht⟩ := hgd
    have ht1 : 1 < t := by
      rcases t with _ | _ | t
      · omega
      · omega
      · omega
    obtain ⟨q, hqp, t', hqt⟩ := has_prime t t (Nat.le_refl _) ht1
    have hqN : q ∣ prodL L := by rw [hp, ht, hqt]; exact ⟨g * t', by grind⟩
    obtain ⟨e, hqe⟩ := prime_in hqp L hL hqN
    refine hq' q e hqe ?_
    have hq0 : 0 < q := by have := hqp.1; omega
    have hdiv : (N - 1) / q = g * t' := by
      rw [ht, hqt, show g * (q * t') = q * (g * t') by grind, Nat.mul_div_cancel_left _ hq0]
    rw [hdiv, Nat.pow_mul]
    exact pow_one_mod hg t' hN
  have hnz : ∀ i, i ≤ N - 1 → a ^ i % N ≠ 0 := fun i hi hc => by
    have e : a ^ (N - 1) = a ^ i * a ^ (N - 1 - i) := by rw [← Nat.pow_add]; congr 1; omega
    rw [e, Nat.mul_mod, hc, Nat.zero_mul, Nat.zero_mod] at h1
    cases h1
  have hinj : ∀ i j, i < j → j < N - 1 → a ^ i % N ≠ a ^ j % N := fun i j hij hj hc => by
    refine hord (j - i) (by omega) (by omega) ?_
    -- a^(N-1-i) * a^i = 1
    have e1 : a ^ (N - 1 - i) * a ^ i = a ^ (N - 1) := by rw [← Nat.pow_add]; congr 1; omega
    have e2 : a ^ (N - 1 - i) * a ^ j = a ^ (N - 1) * a ^ (j - i) := by rw [← Nat.pow_add, ← Nat.pow_add]; congr 1; omega
    have e3 : a ^ (N - 1 - i) * a ^ i % N = a ^ (N - 1 - i) * a ^ j % N := by rw [Nat.mul_mod, hc, ← Nat.mul_mod]
    rw [e1, e2, h1, Nat.mul_mod, h1, Nat.one_mul, Nat.mod_mod] at e3
    exact e3.symm
  unfold Ferm
  intro X hX
  have hlt : ∀ i, a ^ i % N < N := fun i => Nat.mod_lt _ (by omega)
  obtain ⟨i, hi, hf⟩ := php (N - 1) (fun i => a ^ i % N - 1) (fun i h => by
    have := hlt i
    show a ^ i % N - 1 < N - 1
    omega) (fun i j h3 h4 e => by
    have e' : a ^ i % N - 1 = a ^ j % N - 1 := e
    have n1 := hnz i (by omega)
    have n2 := hnz j (by omega)
    rcases Nat.lt_trichotomy i j with h | h | h
    · exact absurd (show a ^ i % N = a ^ j % N by omega) (hinj i j h h4)
    · exact h
    · exact absurd (show a ^ j % N = a ^ i % N by omega) (hinj j i h h3)) (X % N - 1) (by have := Nat.mod_lt X (show 0 < N by omega); omega)
  have hf' : a ^ i % N - 1 = X % N - 1 := hf
  have hXi : X % N = a ^ i % N := by
    have := hnz i (by omega)
    omega
  rw [Nat.pow_mod, hXi, ← Nat.pow_mod, ← Nat.pow_mul, Nat.mul_comm, Nat.pow_mul]
  exact pow_one_mod h1 i hN

theorem lucas_pr {k N a : Nat} {L : List (Nat × Nat)} (h2 : 2 < N) (hN4 : N < 18446744073709551616 ^ k) (hL : AllPr L) (h : lucB k N a L = true) : Pr N := by
  have hall := lucas h2 hN4 hL h
  unfold Ferm at hall
  refine ⟨by omega, fun d hd => ?_⟩
  by_cases h1 : d = 1
  · exact Or.inl h1
  · right
    have hle := Nat.le_of_dvd (by omega) hd
    apply Classical.byContradiction
    intro hne
    have hd0 : d ≠ 0 := by
      rintro rfl
      rw [Nat.zero_dvd] at hd
      omega
    have h3 := hall d (by rw [Nat.mod_eq_of_lt (by omega)]; exact hd0)
    have h4 := Nat.div_add_mod (d ^ (N - 1)) N
    rw [h3] at h4
    have h5 : d ∣ d ^ (N - 1) := by
      obtain ⟨k, hk⟩ : ∃ k, N - 1 = k + 1 := ⟨N - 2, by omega⟩
      rw [hk, Nat.pow_succ]
      exact Nat.dvd_mul_left _ _
    rw [← h4] at h5
    have h6 : d ∣ N * (d ^ (N - 1) / N) := Nat.dvd_trans hd (Nat.dvd_mul_right _ _)
    have h7 := (Nat.dvd_add_right h6).1 h5
    rw [Nat.dvd_one] at h7
    exact h1 h7

/-- A small prime. -/
theorem small_pr {p : Nat} (h : (Nat.ble 2 p && (List.range p).all fun d => Nat.ble d 1 || !(Nat.beq (p % d) 0)) = true) : Pr p := by
  simp only [Bool.and_eq_true, List.all_eq_true] at h
  obtain ⟨h1, h2⟩ := h
  have hp := Nat.le_of_ble_eq_true h1
  refine ⟨by omega, fun d hd => ?_⟩
  have hle := Nat.le_of_dvd (by omega) hd
  by_cases e : d = p
  · exact Or.inr e
  · left
    have := h2 d (List.mem_range.2 (by omega))
    rw [Nat.mod_eq_zero_of_dvd hd] at this
    simp only [Bool.or_eq_true] at this
    rcases this with h | h
    · have := Nat.le_of_ble_eq_true h
      have hd0 : d ≠ 0 := by
        rintro rfl
        rw [Nat.zero_dvd] at hd
        omega
      omega
    · cases h

end Go.Proofs.Ytiekipkmfopdoaa
