/-
  A limb of a quotient, guessed.
-/
import Derived.Test.YtpnijncoldihfaaTextsC15
namespace Go.Proofs.Ytpnijncoldihfaa
open Go.RowKit Go.Shelf

namespace KD
theorem guess_le {B first second high mid low K vlow plow g R q : Nat}
    (hg : g * first + R = high * B + mid) (hRf : R < first ∨ (g + 1 = B))
    (hq : q * ((first * B + second) * K + vlow) ≤ ((high * B + mid) * B + low) * K + plow) (hqB : q < B)
    (hl : low < B) (hp : plow < K) : q ≤ g := by
  rcases hRf with hR | hR
  · apply Nat.le_of_not_lt
    intro hlt
    have h1 : (g + 1) * first ≤ q * first := Nat.mul_le_mul_right _ hlt
    have h2 : high * B + mid + 1 ≤ q * first := by rw [Nat.add_mul] at h1; omega
    have h3 : (high * B + mid + 1) * (B * K) ≤ q * first * (B * K) := Nat.mul_le_mul_right _ h2
    have h4 : q * first * (B * K) ≤ q * ((first * B + second) * K + vlow) := by
      have : first * (B * K) ≤ (first * B + second) * K + vlow := by
        rw [Nat.add_mul, Nat.mul_assoc]; omega
      rw [Nat.mul_assoc]
      exact Nat.mul_le_mul_left _ this
    have h5 : ((high * B + mid) * B + low) * K + plow < (high * B + mid + 1) * (B * K) := by
      have : ((high * B + mid) * B + low + 1) * K ≤ ((high * B + mid) * B + B) * K := Nat.mul_le_mul_right _ (by omega)
      have e : (high * B + mid + 1) * (B * K) = ((high * B + mid) * B + B) * K := by
        rw [← Nat.mul_assoc, Nat.add_mul (high * B + mid), Nat.one_mul]
      rw [e]
      rw [Nat.add_mul _ 1] at this
      omega
    omega
  · omega

theorem guess_hit {B first second high mid low K vlow plow g R q : Nat}
    (hg : g * first + R = high * B + mid) (ht : R * B + low < g * second)
    (hq : q * ((first * B + second) * K + vlow) ≤ ((high * B + mid) * B + low) * K + plow) (hp : plow < K) : q + 1 ≤ g := by
  apply Nat.lt_of_not_le
  intro hle
  have h1 : g * ((first * B + second) * K + vlow) ≤ q * ((first * B + second) * K + vlow) := Nat.mul_le_mul_right _ hle
  have h2 : ((high * B + mid) * B + low + 1) ≤ g * (first * B + second) := by
    rw [Nat.mul_add, ← Nat.mul_assoc, ← hg, Nat.add_mul]; omega
  have h3 := Nat.mul_le_mul_right K h2
  rw [Nat.add_mul _ 1] at h3
  have h4 : g * (first * B + second) * K ≤ g * ((first * B + second) * K + vlow) := by
    rw [Nat.mul_assoc]; exact Nat.mul_le_mul_left _ (Nat.le_add_right _ _)
  omega

theorem guess_near {B first second high mid low K vlow plow g R : Nat}
    (hg : g * first + R = high * B + mid) (ht : g * second ≤ R * B + low) (hgB : g < B) (hv : vlow < K) (hf : 0 < first) :
    g * ((first * B + second) * K + vlow) ≤ ((high * B + mid) * B + low) * K + plow + ((first * B + second) * K + vlow) := by
  have h2 : g * (first * B + second) ≤ (high * B + mid) * B + low := by
    rw [Nat.mul_add, ← Nat.mul_assoc, ← hg, Nat.add_mul]; omega
  have h3 := Nat.mul_le_mul_right K h2
  have h4 : g * vlow ≤ B * K := Nat.mul_le_mul (by omega) (by omega)
  have h5 : B * K ≤ (first * B + second) * K := by
    apply Nat.mul_le_mul_right
    have : 1 * B ≤ first * B := Nat.mul_le_mul_right _ hf
    omega
  rw [Nat.mul_add, ← Nat.mul_assoc]
  omega

theorem guess_two {B first second high mid low K vlow plow g R : Nat}
    (hg : g * first + R = high * B + mid) (hgB : g < B) (hs : second < B) (hv : vlow < K) (hf : B ≤ 2 * first) :
    g * ((first * B + second) * K + vlow) ≤ ((high * B + mid) * B + low) * K + plow + 2 * ((first * B + second) * K + vlow) := by
  have h2 : g * (first * B + second) ≤ (high * B + mid) * B + g * second := by
    rw [Nat.mul_add, ← Nat.mul_assoc, ← hg, Nat.add_mul]; omega
  have h3 := Nat.mul_le_mul_right K h2
  have h4 : g * second * K + g * vlow ≤ g * (B * K) := by
    rw [Nat.mul_assoc, ← Nat.mul_add]
    apply Nat.mul_le_mul_left
    have : (second + 1) * K ≤ B * K := Nat.mul_le_mul_right _ hs
    rw [Nat.add_mul] at this
    omega
  have h5 : g * (B * K) ≤ 2 * ((first * B + second) * K) := by
    have h6 : g * (B * K) ≤ (2 * first) * (B * K) := Nat.mul_le_mul_right _ (by omega)
    have h7 : first * (B * K) ≤ (first * B + second) * K := by
      rw [← Nat.mul_assoc]; exact Nat.mul_le_mul_right _ (Nat.le_add_right _ _)
    rw [Nat.mul_assoc] at h6
    omega
  rw [Nat.mul_add, ← Nat.mul_assoc]
  rw [Nat.add_mul] at h3
  rw [Nat.add_mul _ low]
  omega

/-- A guess by the highest limbs is right or one too great. -/
theorem guess {B first second high mid low K vlow plow g0 R P v : Nat} (hit : Bool)
    (hvd : v = (first * B + second) * K + vlow) (hPd : P = ((high * B + mid) * B + low) * K + plow)
    (hg : g0 * first + R = high * B + mid) (hRf : R < first ∨ (g0 + 1 = B)) (hgB : g0 < B)
    (hhit : hit = decide (R * B + low < g0 * second)) (hPv : P < v * B) (hs : second < B) (hl : low < B) (hv : vlow < K) (hp : plow < K) (hf : B ≤ 2 * first) (hB : 0 < B) :
    P / v ≤ (if hit then g0 - 1 else g0) ∧ (if hit then g0 - 1 else g0) ≤ P / v + 1 ∧ (if hit then g0 - 1 else g0) < B := by
  have hK : 0 < K := by omega
  have hf0 : 0 < first := by omega
  have hvpos : 0 < v := by
    rw [hvd]
    have : 0 < first * B := Nat.mul_pos hf0 hB
    have : 0 < (first * B + second) * K := Nat.mul_pos (by omega) hK
    omega
  have hq : P / v * v ≤ P := Nat.div_mul_le_self _ _
  have hqB : P / v < B := by
    rw [Nat.div_lt_iff_lt_mul hvpos, Nat.mul_comm]; exact hPv
  have hq' := hq
  rw [hPd] at hq'
  conv at hq' => lhs; rw [hvd]
  have le0 : P / v ≤ g0 := by
    refine guess_le (vlow := vlow) (second := second) hg hRf ?_ hqB hl hp
    rw [← hvd, ← hPd]; exact hq
  by_cases ht : R * B + low < g0 * second
  · have e : hit = true := by rw [hhit]; simpa using ht
    rw [e]
    simp only [if_true]
    have h1 : P / v + 1 ≤ g0 := by
      refine guess_hit (vlow := vlow) (plow := plow) hg ht ?_ hp
      rw [← hvd, ← hPd]; exact hq
    have h2 := guess_two (low := low) (plow := plow) hg hgB hs hv hf
    rw [← hvd, ← hPd] at h2
    refine ⟨by omega, ?_, by omega⟩
    have h3 : (g0 - 2) * v ≤ P := by
      rw [Nat.sub_mul]; omega
    have := (Nat.le_div_iff_mul_le hvpos).2 h3
    omega
  · have e : hit = false := by rw [hhit]; simpa using ht
    rw [e]
    simp only [Bool.false_eq_true, if_false]
    have h2 := guess_near (plow := plow) hg (by omega : g0 * second ≤ R * B + low) hgB hv hf0
    rw [← hvd, ← hPd] at h2
    refine ⟨le0, ?_, hgB⟩
    have h3 : (g0 - 1) * v ≤ P := by
      rw [Nat.sub_mul]; omega
    have := (Nat.le_div_iff_mul_le hvpos).2 h3
    omega

end KD

/-- The number of the first n limbs. -/
def val (g : Nat → Nat) : Nat → Nat
  | 0 => 0
  | n + 1 => val g n + g n * 18446744073709551616 ^ n

theorem val_lt {g : Nat → Nat} (n : Nat) (h : ∀ j, j < n → g j < 18446744073709551616) : val g n < 18446744073709551616 ^ n := by
  induction n with
  | zero => simp [val]
  | succ n ih =>
    have h1 := ih (fun j hj => h j (by omega))
    have h2 : (g n + 1) * 18446744073709551616 ^ n ≤ 18446744073709551616 * 18446744073709551616 ^ n := Nat.mul_le_mul_right _ (h n (by omega))
    rw [Nat.pow_succ, Nat.mul_comm _ 18446744073709551616]
    rw [Nat.add_mul, Nat.one_mul] at h2
    unfold val
    omega

theorem val_congr {f g : Nat → Nat} (n : Nat) (h : ∀ j, j < n → f j = g j) : val f n = val g n := by
  induction n with
  | zero => rfl
  | succ n ih => unfold val; rw [ih (fun j hj => h j (by omega)), h n (by omega)]

theorem val_add (g : Nat → Nat) (a n : Nat) : val g (a + n) = val g a + val (fun j => g (a + j)) n * 18446744073709551616 ^ a := by
  induction n with
  | zero => simp [val]
  | succ n ih =>
    rw [← Nat.add_assoc]
    show val g (a + n) + g (a + n) * 18446744073709551616 ^ (a + n) = val g a + (val (fun j => g (a + j)) n + g (a + n) * 18446744073709551616 ^ n) * 18446744073709551616 ^ a
    rw [ih, Nat.add_mul, Nat.pow_add, Nat.mul_assoc (g (a + n)), Nat.mul_comm (18446744073709551616 ^ a) (18446744073709551616 ^ n)]
    omega

theorem val_limb (N n : Nat) : val (limb N) n = N % 18446744073709551616 ^ n := by
  induction n with
  | zero => simp [val, Nat.mod_one]
  | succ n ih =>
    unfold val
    rw [ih]
    unfold limb
    rw [Nat.pow_succ, Nat.mod_mul, Nat.mul_comm (18446744073709551616 ^ n)]

theorem limb_val {g : Nat → Nat} (n : Nat) (h : ∀ j, j < n → g j < 18446744073709551616) {i : Nat} (hi : i < n) : limb (val g n) i = g i := by
  obtain ⟨d, rfl⟩ : ∃ d, n = i + 1 + d := ⟨n - (i + 1), by omega⟩
  rw [val_add]
  unfold limb
  have h1 := val_lt i (fun j hj => h j (by omega))
  have e : val g (i + 1) + val (fun j => g (i + 1 + j)) d * 18446744073709551616 ^ (i + 1) = val g i + 18446744073709551616 ^ i * (g i + 18446744073709551616 * val (fun j => g (i + 1 + j)) d) := by
    show val g i + g i * 18446744073709551616 ^ i + _ = _
    rw [Nat.pow_succ, Nat.mul_add, Nat.mul_comm (g i), ← Nat.mul_assoc (18446744073709551616 ^ i), Nat.mul_comm (val (fun j => g (i + 1 + j)) d)]
    omega
  rw [e, Nat.add_mul_div_left _ _ (Nat.pow_pos (by decide)), Nat.div_eq_of_lt h1, Nat.zero_add, Nat.add_mul_mod_self_left, Nat.mod_eq_of_lt (h i (by omega))]

end Go.Proofs.Ytpnijncoldihfaa

namespace Go.Proofs.Ytpnijncoldihfaa
open Go.RowKit Go.Shelf

set_option maxHeartbeats 1000000 in
set_option maxRecDepth 100000 in
theorem isTooGreat_any (g s r l : Nat) (hg : g < 18446744073709551616) (hs : s < 18446744073709551616) (hl : l < 18446744073709551616) (w : World) :
    Calls Try.prog 136 #[.int .u64 g, .int .u64 s, .int .u64 r, .int .u64 l] w fun e w' => e = .returned (.bool (decide (r * 18446744073709551616 + l < g * s))) ∧ w' = w := by
  have hm := fun W => mul64_any g s hg hs W
  have hd := Nat.mod_add_div (g * s) 18446744073709551616
  have hlt := Nat.mod_lt (g * s) (by decide : 0 < 18446744073709551616)
  generalize g * s = P at hm hd hlt ⊢
  generalize P / 18446744073709551616 = A at hm hd
  generalize P % 18446744073709551616 = L at hm hd hlt
  have HM := hideP hm
  clear hm
  rcases Nat.lt_trichotomy r A with h | h | h
  · rw [show decide (r * 18446744073709551616 + l < P) = true from decide_eq_true (by omega)]
    have h1 : (r : Int) < A := by omega
    clear hd hlt h
    go_enter Try.func136, Try.ntmps136
    go_wp2_with fail
    refine (HM.out _).mono ?_
    rintro e w1 ⟨rfl, rfl⟩
    go_wp2
    go_ret
    exact ⟨rfl, rfl⟩
  · subst h
    by_cases h2 : l < L
    · rw [show decide (r * 18446744073709551616 + l < P) = true from decide_eq_true (by omega)]
      have h1 : (l : Int) < L := by omega
      clear hd hlt h2
      go_enter Try.func136, Try.ntmps136
      go_wp2_with fail
      refine (HM.out _).mono ?_
      rintro e w1 ⟨rfl, rfl⟩
      go_wp2
      go_ret
      exact ⟨rfl, rfl⟩
    · rw [show decide (r * 18446744073709551616 + l < P) = false from decide_eq_false (by omega)]
      clear hd hlt
      go_enter Try.func136, Try.ntmps136
      go_wp2_with fail
      refine (HM.out _).mono ?_
      rintro e w1 ⟨rfl, rfl⟩
      go_wp2
      go_ret
      exact ⟨rfl, rfl⟩
  · rw [show decide (r * 18446744073709551616 + l < P) = false from decide_eq_false (by omega)]
    have h1 : ¬ r < A := by omega
    have h3 : ((A : Int) == r) = false := beq_eq_false_iff_ne.2 (by omega)
    clear hd hlt h
    go_enter Try.func136, Try.ntmps136
    go_wp2_with fail
    refine (HM.out _).mono ?_
    rintro e w1 ⟨rfl, rfl⟩
    go_wp2
    go_ret
    exact ⟨rfl, rfl⟩

/-- What the look at the second limb leaves of a guess. -/
def guessN (g0 R s l : Nat) : Nat := if decide (R * 18446744073709551616 + l < g0 * s) then g0 - 1 else g0

set_option maxHeartbeats 1000000 in
set_option maxRecDepth 100000 in
theorem guessLimb_lt (h m l f s : Nat) (hf : h < f) (hfB : f < 18446744073709551616) (hm : m < 18446744073709551616) (hl : l < 18446744073709551616) (hs : s < 18446744073709551616) (w : World) :
    Calls Try.prog 130 #[.int .u64 h, .int .u64 m, .int .u64 l, .int .u64 f, .int .u64 s] w fun e w' => e = .returned (.int .u64 (guessN ((h * 18446744073709551616 + m) / f) ((h * 18446744073709551616 + m) % f) s l : Nat)) ∧ ∃ n, w' = w.drewN n := by
  have hd := fun W => div64_any h m f hf hfB hm W
  have hq : (h * 18446744073709551616 + m) / f < 18446744073709551616 := by
    rw [Nat.div_lt_iff_lt_mul (by omega)]
    have : (h + 1) * 18446744073709551616 ≤ f * 18446744073709551616 := Nat.mul_le_mul_right _ hf
    rw [Nat.mul_comm 18446744073709551616]
    omega
  generalize (h * 18446744073709551616 + m) / f = g at hd hq ⊢
  generalize (h * 18446744073709551616 + m) % f = R at hd ⊢
  have ht := fun W => isTooGreat_any g s R l hq hs hl W
  have hfi : (h : Int) < f := by omega
  have HD := hideP hd
  unfold guessN
  by_cases hit : R * 18446744073709551616 + l < g * s
  · rw [if_pos (decide_eq_true hit)]
    rw [decide_eq_true hit] at ht
    have HT := hideP ht
    have hg0 : 0 < g := by
      rcases Nat.eq_zero_or_pos g with e | e
      · subst e; omega
      · exact e
    have hw : IntKind.u64.wrap ((g : Int) - 1) = ((g - 1 : Nat) : Int) := by rw [IntKind.wrap_u64]; omega
    clear hd ht hf hfB hm hl hs hq hit hg0
    go_enter Try.func130, Try.ntmps130
    go_wp2_with fail
    refine (HD.out _).mono ?_
    rintro e w1 ⟨rfl, n, rfl⟩
    go_wp2_with fail
    refine (HT.out _).mono ?_
    rintro e w1 ⟨rfl, rfl⟩
    go_wp2
    go_ret
    exact ⟨by simp, n, rfl⟩
  · rw [if_neg (by simpa using hit)]
    rw [decide_eq_false hit] at ht
    have HT := hideP ht
    clear hd ht hf hfB hm hl hs hq hit
    go_enter Try.func130, Try.ntmps130
    go_wp2_with fail
    refine (HD.out _).mono ?_
    rintro e w1 ⟨rfl, n, rfl⟩
    go_wp2_with fail
    refine (HT.out _).mono ?_
    rintro e w1 ⟨rfl, rfl⟩
    go_wp2
    go_ret
    exact ⟨rfl, n, rfl⟩

set_option maxHeartbeats 1000000 in
set_option maxRecDepth 100000 in
theorem guessLimb_ge (h m l f s : Nat) (hf : f ≤ h) (hfB : f < 18446744073709551616) (hm : m < 18446744073709551616) (hl : l < 18446744073709551616) (hs : s < 18446744073709551616) (w : World) :
    Calls Try.prog 130 #[.int .u64 h, .int .u64 m, .int .u64 l, .int .u64 f, .int .u64 s] w fun e w' => e = .returned (.int .u64 (guessN 18446744073709551615 (m + f) s l : Nat)) ∧ ∃ n, w' = w.drewN n := by
  obtain ⟨r, o, hr, ho, he, hrun⟩ := add64_ex0 m f hm hfB
  have hfi : ¬ (h : Int) < f := by omega
  unfold guessN
  rcases (show o = 0 ∨ o = 1 by omega) with h0 | h0
  · subst h0
    have hR : m + f = r := by omega
    rw [hR]
    have ht := fun W => isTooGreat_any 18446744073709551615 s r l (by omega) hs hl W
    by_cases hit : r * 18446744073709551616 + l < 18446744073709551615 * s
    · rw [if_pos (decide_eq_true hit)]
      rw [decide_eq_true hit] at ht
      have HT := hideP ht
      clear ht hf hfB hm hl hs hit hR he hr ho
      go_enter Try.func130, Try.ntmps130
      go_wp2_with fail
      refine (HT.out _).mono ?_
      rintro e w1 ⟨rfl, rfl⟩
      go_wp2
      go_ret
      exact ⟨rfl, 0, rfl⟩
    · rw [if_neg (by simpa using hit)]
      rw [decide_eq_false hit] at ht
      have HT := hideP ht
      clear ht hf hfB hm hl hs hit hR he hr ho
      go_enter Try.func130, Try.ntmps130
      go_wp2_with fail
      refine (HT.out _).mono ?_
      rintro e w1 ⟨rfl, rfl⟩
      go_wp2
      go_ret
      exact ⟨rfl, 0, rfl⟩
  · subst h0
    have hbig : ¬ ((m + f) * 18446744073709551616 + l < 18446744073709551615 * s) := by omega
    rw [if_neg (by simpa using hbig)]
    clear hf hfB hm hl hs hbig he hr ho
    go_enter Try.func130, Try.ntmps130
    go_wp2
    go_ret
    exact ⟨rfl, 0, rfl⟩

end Go.Proofs.Ytpnijncoldihfaa
