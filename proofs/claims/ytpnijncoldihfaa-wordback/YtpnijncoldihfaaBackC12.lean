/-
  A limb of a quotient, guessed.
-/
import Derived.Test.YtpnijncoldihfaaBackC11
namespace Go.Proofs.Ytpnijncoldihfaa
open Go.RowKit Go.Shelf

set_option maxHeartbeats 1000000 in
set_option maxRecDepth 100000 in
theorem isTooGreat_any (g s r l : Nat) (hg : g < 18446744073709551616) (hs : s < 18446744073709551616) (hl : l < 18446744073709551616) (w : World) :
    Calls Try.prog 136 #[.int .u64 g, .int .u64 s, .int .u64 r, .int .u64 l] w fun e w' => e = .returned (.bool (decide (r * 18446744073709551616 + l < g * s))) ∧ w' = w := by
  have hm := fun W => mul64_any g s hg hs W
  have hd := Nat.mod_add_div (g * s) 18446744073709551616
  have hlt := Nat.mod_lt (g * s) (by decide : 0 < 18446744073709551616)
  generalize g * s = P at hm hd hlt ⊢
  generalize P / 18446744073709551616 = A at hm hd
  generalize P % 18446744073709551616 = L at hm hd hlt
  have HM := hideP hm
  clear hm
  rcases Nat.lt_trichotomy r A with h | h | h
  · rw [show decide (r * 18446744073709551616 + l < P) = true from decide_eq_true (by omega)]
    have h1 : (r : Int) < A := by omega
    clear hd hlt h
    go_enter Try.func136, Try.ntmps136
    go_wp2_with fail
    refine (HM.out _).mono ?_
    rintro e w1 ⟨rfl, rfl⟩
    go_wp2
    go_ret
    exact ⟨rfl, rfl⟩
  · subst h
    by_cases h2 : l < L
    · rw [show decide (r * 18446744073709551616 + l < P) = true from decide_eq_true (by omega)]
      have h1 : (l : Int) < L := by omega
      clear hd hlt h2
      go_enter Try.func136, Try.ntmps136
      go_wp2_with fail
      refine (HM.out _).mono ?_
      rintro e w1 ⟨rfl, rfl⟩
      go_wp2
      go_ret
      exact ⟨rfl, rfl⟩
    · rw [show decide (r * 18446744073709551616 + l < P) = false from decide_eq_false (by omega)]
      clear hd hlt
      go_enter Try.func136, Try.ntmps136
      go_wp2_with fail
      refine (HM.out _).mono ?_
      rintro e w1 ⟨rfl, rfl⟩
      go_wp2
      go_ret
      exact ⟨rfl, rfl⟩
  · rw [show decide (r * 18446744073709551616 + l < P) = false from decide_eq_false (by omega)]
    have h1 : ¬ r < A := by omega
    have h3 : ((A : Int) == r) = false := beq_eq_false_iff_ne.2 (by omega)
    clear hd hlt h
    go_enter Try.func136, Try.ntmps136
    go_wp2_with fail
    refine (HM.out _).mono ?_
    rintro e w1 ⟨rfl, rfl⟩
    go_wp2
    go_ret
    exact ⟨rfl, rfl⟩

/-- What the look at the second limb leaves of a guess. -/
def guessN (g0 R s l : Nat) : Nat := if decide (R * 18446744073709551616 + l < g0 * s) then g0 - 1 else g0

set_option maxHeartbeats 1000000 in
set_option maxRecDepth 100000 in
theorem guessLimb_lt (h m l f s : Nat) (hf : h < f) (hfB : f < 18446744073709551616) (hm : m < 18446744073709551616) (hl : l < 18446744073709551616) (hs : s < 18446744073709551616) (w : World) :
    Calls Try.prog 130 #[.int .u64 h, .int .u64 m, .int .u64 l, .int .u64 f, .int .u64 s] w fun e w' => e = .returned (.int .u64 (guessN ((h * 18446744073709551616 + m) / f) ((h * 18446744073709551616 + m) % f) s l : Nat)) ∧ ∃ n, w' = w.drewN n := by
  have hd := fun W => div64_any h m f hf hfB hm W
  have hq : (h * 18446744073709551616 + m) / f < 18446744073709551616 := by
    rw [Nat.div_lt_iff_lt_mul (by omega)]
    have : (h + 1) * 18446744073709551616 ≤ f * 18446744073709551616 := Nat.mul_le_mul_right _ hf
    rw [Nat.mul_comm 18446744073709551616]
    omega
  generalize (h * 18446744073709551616 + m) / f = g at hd hq ⊢
  generalize (h * 18446744073709551616 + m) % f = R at hd ⊢
  have ht := fun W => isTooGreat_any g s R l hq hs hl W
  have hfi : (h : Int) < f := by omega
  have HD := hideP hd
  unfold guessN
  by_cases hit : R * 18446744073709551616 + l < g * s
  · rw [if_pos (decide_eq_true hit)]
    rw [decide_eq_true hit] at ht
    have HT := hideP ht
    have hg0 : 0 < g := by
      rcases Nat.eq_zero_or_pos g with e | e
      · subst e; omega
      · exact e
    have hw : IntKind.u64.wrap ((g : Int) - 1) = ((g - 1 : Nat) : Int) := by rw [IntKind.wrap_u64]; omega
    clear hd ht hf hfB hm hl hs hq hit hg0
    go_enter Try.func130, Try.ntmps130
    go_wp2_with fail
    refine (HD.out _).mono ?_
    rintro e w1 ⟨rfl, n, rfl⟩
    go_wp2_with fail
    refine (HT.out _).mono ?_
    rintro e w1 ⟨rfl, rfl⟩
    go_wp2
    go_ret
    exact ⟨by simp, n, rfl⟩
  · rw [if_neg (by simpa using hit)]
    rw [decide_eq_false hit] at ht
    have HT := hideP ht
    clear hd ht hf hfB hm hl hs hq hit
    go_enter Try.func130, Try.ntmps130
    go_wp2_with fail
    refine (HD.out _).mono ?_
    rintro e w1 ⟨rfl, n, rfl⟩
    go_wp2_with fail
    refine (HT.out _).mono ?_
    rintro e w1 ⟨rfl, rfl⟩
    go_wp2
    go_ret
    exact ⟨rfl, n, rfl⟩

set_option maxHeartbeats 1000000 in
set_option maxRecDepth 100000 in
theorem guessLimb_ge (h m l f s : Nat) (hf : f ≤ h) (hfB : f < 18446744073709551616) (hm : m < 18446744073709551616) (hl : l < 18446744073709551616) (hs : s < 18446744073709551616) (w : World) :
    Calls Try.prog 130 #[.int .u64 h, .int .u64 m, .int .u64 l, .int .u64 f, .int .u64 s] w fun e w' => e = .returned (.int .u64 (guessN 18446744073709551615 (m + f) s l : Nat)) ∧ ∃ n, w' = w.drewN n := by
  obtain ⟨r, o, hr, ho, he, hrun⟩ := add64_ex0 m f hm hfB
  have hfi : ¬ (h : Int) < f := by omega
  unfold guessN
  rcases (show o = 0 ∨ o = 1 by omega) with h0 | h0
  · subst h0
    have hR : m + f = r := by omega
    rw [hR]
    have ht := fun W => isTooGreat_any 18446744073709551615 s r l (by omega) hs hl W
    by_cases hit : r * 18446744073709551616 + l < 18446744073709551615 * s
    · rw [if_pos (decide_eq_true hit)]
      rw [decide_eq_true hit] at ht
      have HT := hideP ht
      clear ht hf hfB hm hl hs hit hR he hr ho
      go_enter Try.func130, Try.ntmps130
      go_wp2_with fail
      refine (HT.out _).mono ?_
      rintro e w1 ⟨rfl, rfl⟩
      go_wp2
      go_ret
      exact ⟨rfl, 0, rfl⟩
    · rw [if_neg (by simpa using hit)]
      rw [decide_eq_false hit] at ht
      have HT := hideP ht
      clear ht hf hfB hm hl hs hit hR he hr ho
      go_enter Try.func130, Try.ntmps130
      go_wp2_with fail
      refine (HT.out _).mono ?_
      rintro e w1 ⟨rfl, rfl⟩
      go_wp2
      go_ret
      exact ⟨rfl, 0, rfl⟩
  · subst h0
    have hbig : ¬ ((m + f) * 18446744073709551616 + l < 18446744073709551615 * s) := by omega
    rw [if_neg (by simpa using hbig)]
    clear hf hfB hm hl hs hbig he hr ho
    go_enter Try.func130, Try.ntmps130
    go_wp2
    go_ret
    exact ⟨rfl, 0, rfl⟩

end Go.Proofs.Ytpnijncoldihfaa
