/-
  The texts of words, and what they tell.
-/
import Derived.Test.YtpnijncoldihfaaBackC29
import Derived.Test.YtpnijncoldihfaaBackC42
namespace Go.Proofs.Ytpnijncoldihfaa
open Go.RowKit Go.Shelf

theorem strD_size (b X n : Nat) : (strD b X n).size = n := by
  show ((List.range n).map (fun j => UInt8.ofNat (digB b X n j))).toArray.size = n
  simp

theorem digB_lt {b X n j : Nat} (hb : b ≤ 16) (hb0 : 0 < b) : digB b X n j < 256 := hexd_lt (Nat.lt_of_lt_of_le (Nat.mod_lt _ hb0) hb)

theorem sb_strD {b X n j : Nat} (hb : b ≤ 16) (hb0 : 0 < b) (hj : j < n) : sb (strD b X n) j = digB b X n j := by
  unfold sb strD
  rw [List.getElem?_toArray]
  have h := digB_lt (X := X) (n := n) (j := j) hb hb0
  simp [hj, Nat.mod_eq_of_lt h]

/-- Digits tell their number. -/
theorem pre_digits {b X n : Nat} (hb : b ≤ 16) (hb0 : 1 < b) (hX : X < M256) (hn : X < b ^ n) : ∀ k, k ≤ n → pre b (sb (strD b X n)) k = some (X / b ^ (n - k))
  | 0, _ => by
    rw [Nat.sub_zero, Nat.div_eq_of_lt hn]
    rfl
  | k + 1, hk => by
    have ih := pre_digits hb hb0 hX hn k (by omega)
    have hd : digV (sb (strD b X n) k) = X / b ^ (n - (k + 1)) % b := by
      rw [sb_strD hb (by omega) (by omega)]
      unfold digB
      rw [digV_hexd (Nat.lt_of_lt_of_le (Nat.mod_lt _ (by omega)) hb), show n - 1 - k = n - (k + 1) by omega]
    have hs : X / b ^ (n - k) * b + digV (sb (strD b X n) k) = X / b ^ (n - (k + 1)) := by
      rw [hd, show n - k = n - (k + 1) + 1 by omega, Nat.pow_succ, ← Nat.div_div_eq_div_mul, Nat.mul_comm]
      exact Nat.div_add_mod _ _
    rw [pre_good ih ⟨by rw [hd]; exact Nat.mod_lt _ (by omega), by rw [hs]; exact Nat.lt_of_le_of_lt (Nat.div_le_self _ _) hX⟩, hs]

theorem preads_digits {b X n : Nat} (hb : b ≤ 16) (hb0 : 1 < b) (hX : X < M256) (h : ND b X n) : preads b (strD b X n) = some X := by
  unfold preads
  have hp := h.pos
  rw [strD_size, if_neg (by omega), pre_digits hb hb0 hX h.lt n (Nat.le_refl _), Nat.sub_self, Nat.pow_zero, Nat.div_one]

/-- The text to the base 16. -/
def hexT (X n : Nat) : ByteArray := ⟨#[48, 120]⟩ ++ strD 16 X n

theorem hexT_size (X n : Nat) : (hexT X n).size = 2 + n := by
  unfold hexT
  rw [ByteArray.size_append, strD_size]
  rfl

theorem hexT_rest (X n : Nat) : restS (hexT X n) = strD 16 X n := by
  unfold restS
  rw [hexT_size]
  exact ByteArray.extract_append_eq_right rfl (by rw [strD_size]; rfl)

theorem hexT_hex (X n : Nat) : hexS (hexT X n) = true := by
  unfold hexS
  rw [hexT_size, decide_eq_true (by omega), Bool.true_and, ByteArray.toList_eq, ByteArray.data_extract]
  unfold hexT
  rw [ByteArray.data_append, Array.extract_append]
  have : (#[48, 120] : Array UInt8).size = 2 := rfl
  simp

theorem hex_count {X n : Nat} (hX : X < M256) (h : ND 16 X n) : n ≤ 64 := by
  rcases Nat.lt_or_ge 64 n with hl | hl
  · have h1 := h.ge (by omega)
    have h2 : 16 ^ 64 ≤ 16 ^ (n - 1) := Nat.pow_le_pow_right (by decide) (by omega)
    have h3 : M256 = 16 ^ 64 := by decide
    omega
  · exact hl

theorem hexT_tells {X n : Nat} (hX : X < M256) (h : ND 16 X n) : pans (hexT X n) = .tuple #[wv X, .int .i64 0] := by
  have hn := hex_count hX h
  unfold pans ptext
  rw [hexT_size, if_neg (by omega), hexT_hex, if_pos rfl, hexT_rest, strD_size, if_neg (by omega), preads_digits (by decide) (by decide) hX h]
  rfl

theorem dec_byte {X n j : Nat} : digB 10 X n j ≤ 57 := by
  unfold digB hexd
  have := Nat.mod_lt (X / 10 ^ (n - 1 - j)) (show 0 < 10 by decide)
  rw [if_pos (by omega)]
  omega

theorem decT_hex (X n : Nat) : hexS (strD 10 X n) = false := by
  unfold hexS
  rw [strD_size]
  by_cases h : 2 ≤ n
  · rw [decide_eq_true h, Bool.true_and]
    refine beq_eq_false_iff_ne.2 (fun e => ?_)
    rw [ByteArray.toList_eq, ByteArray.data_extract] at e
    have h1 : (strD 10 X n).data[1]? = some 120 := by
      have := congrArg (fun l => l[1]?) e
      simpa using this
    have h2 : sb (strD 10 X n) 1 = 120 := by unfold sb; rw [h1]; rfl
    rw [sb_strD (by decide) (by decide) (by omega)] at h2
    have := dec_byte (X := X) (n := n) (j := 1)
    omega
  · rw [decide_eq_false h, Bool.false_and]

theorem decT_first {X n : Nat} (h : ND 10 X n) : ¬ (1 < n ∧ sb (strD 10 X n) 0 = 48) := by
  rintro ⟨h1, h2⟩
  rw [sb_strD (by decide) (by decide) (by omega)] at h2
  unfold digB hexd at h2
  rw [Nat.sub_zero] at h2
  have h3 := h.ge h1
  have h4 := h.lt
  have h5 : 0 < X / 10 ^ (n - 1) := Nat.div_pos h3 (Nat.pow_pos (by decide))
  have h6 : X / 10 ^ (n - 1) < 10 := by
    rw [Nat.div_lt_iff_lt_mul (Nat.pow_pos (by decide)), Nat.mul_comm, ← Nat.pow_succ]
    show X < 10 ^ (n - 1 + 1)
    rw [show n - 1 + 1 = n by omega]
    exact h4
  rw [Nat.mod_eq_of_lt h6, if_pos h6] at h2
  omega

theorem decT_tells {X n : Nat} (hX : X < M256) (hn : n ≤ 78) (h : ND 10 X n) : pans (strD 10 X n) = .tuple #[wv X, .int .i64 0] := by
  unfold pans ptext
  rw [strD_size, if_neg (by omega), decT_hex, if_neg (by decide), if_neg (decT_first h), preads_digits (by decide) (by decide) hX h]
  rfl

set_option maxHeartbeats 1000000 in
set_option maxRecDepth 100000 in
theorem hex_any (X : Nat) (hX : X < M256) (w : World) : Calls Try.prog 76 #[wv X] w fun e w' => (∃ n, ND 16 X n ∧ e = .returned (.string (hexT X n))) ∧ Below w.heap.size w w' := by
  have h := fun W => digits_any X 16 hX (Or.inr rfl) W
  obtain ⟨x0, x1, x2, x3, hx⟩ := wv_form X
  simp only [hx] at h ⊢
  have H := hideP h
  clear h hx
  go_enter Try.func76, Try.ntmps76
  go_wp2_with fail
  refine (H.out _).mono ?_
  rintro e w1 ⟨⟨n, h78, hn, rfl⟩, hb⟩
  have hsz : ¬ 9223372036854775807 < 2 + (strD 16 X n).size := by rw [strD_size]; omega
  have HB1 : Hid (Below w.heap.size w w1) := by
    first
      | exact ((Below.refl _ w).alloc (Nat.le_refl _) _).trans (hb.mono (by simp))
      | exact hb
  have HN := hideP hn
  clear hb hn h78
  go_wp2_with fail
  go_ret
  exact ⟨⟨n, HN.out, rfl⟩, HB1.out⟩

set_option maxHeartbeats 1000000 in
set_option maxRecDepth 100000 in
theorem dec_any (X : Nat) (hX : X < M256) (w : World) : Calls Try.prog 78 #[wv X] w fun e w' => (∃ n, n ≤ 78 ∧ ND 10 X n ∧ e = .returned (.string (strD 10 X n))) ∧ Below w.heap.size w w' := by
  have h := fun W => digits_any X 10 hX (Or.inl rfl) W
  obtain ⟨x0, x1, x2, x3, hx⟩ := wv_form X
  simp only [hx] at h ⊢
  have H := hideP h
  clear h hx
  go_enter Try.func78, Try.ntmps78
  go_wp2_with fail
  refine (H.out _).mono ?_
  rintro e w1 ⟨⟨n, h78, hn, rfl⟩, hb⟩
  have HB1 : Hid (Below w.heap.size w w1) := by
    first
      | exact ((Below.refl _ w).alloc (Nat.le_refl _) _).trans (hb.mono (by simp))
      | exact hb
  have HN := hideP hn
  have H78 := hideP h78
  clear hb hn h78
  go_wp2_with fail
  go_ret
  exact ⟨⟨n, H78.out, HN.out, rfl⟩, HB1.out⟩

end Go.Proofs.Ytpnijncoldihfaa
