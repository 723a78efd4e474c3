/-
  What is read is written again, byte for byte.
-/
import Derived.Test.YtigebmidfddbcaaForm
namespace Go.Proofs.Ytigebmidfddbcaa
open Go.RowKit Go.Shelf

theorem pay_succ (bs : Nat → Nat) (n : Nat) : pay bs (n + 1) = bs 0 :: pay (fun j => bs (1 + j)) n := by
  unfold pay
  rw [List.range_succ_eq_map, List.map_cons, List.map_map]
  congr 1
  exact List.map_congr_left fun j _ => by simp [Nat.add_comm]

theorem pay_add (bs : Nat → Nat) (n m : Nat) : pay bs (n + m) = pay bs n ++ pay (fun j => bs (n + j)) m := by
  unfold pay
  rw [List.range_add, List.map_append, List.map_map]
  rfl

theorem pay_split {bs : Nat → Nat} {n m : Nat} (h : n ≤ m) : pay bs m = pay bs n ++ pay (fun j => bs (n + j)) (m - n) := by
  rw [← pay_add, Nat.add_sub_cancel' h]

theorem dv_lt {bs : Nat → Nat} (hl : ∀ j, bs j < 256) : ∀ k, dv bs k < 256 ^ k
  | 0 => by simp [dv]
  | k + 1 => by
    have := dv_lt hl k
    have := hl (k + 1)
    rw [dv, Nat.pow_succ]
    omega

theorem dv_ge {bs : Nat → Nat} (h1 : bs 1 ≠ 0) : ∀ k, 256 ^ k ≤ dv bs (k + 1)
  | 0 => by simp [dv]; omega
  | k + 1 => by
    have := dv_ge h1 k
    rw [dv, Nat.pow_succ]
    omega

theorem NB_of {x k : Nat} (hx : x < 18446744073709551616) (h1 : 256 ^ k ≤ x) (h2 : x < 256 ^ (k + 1)) : NB x = k + 1 := by
  have a1 := NB_lt hx
  have hp : 0 < x := Nat.lt_of_lt_of_le (Nat.pow_pos (by decide)) h1
  have a2 := NB_ge hx (NB_pos hx hp)
  have b1 : k < NB x := (Nat.pow_lt_pow_iff_right (by decide)).1 (Nat.lt_of_le_of_lt h1 a1)
  have b2 : NB x - 1 < k + 1 := (Nat.pow_lt_pow_iff_right (by decide)).1 (Nat.lt_of_le_of_lt a2 h2)
  omega

theorem dv_div {bs : Nat → Nat} (hl : ∀ j, bs j < 256) : ∀ (k i : Nat), dv bs (k + i) / 256 ^ i = dv bs k
  | k, 0 => by simp
  | k, i + 1 => by
    have h := dv_div hl k i
    have hb := hl (k + i + 1)
    rw [show k + (i + 1) = k + i + 1 by omega, dv, Nat.pow_succ, Nat.mul_comm (256 ^ i) 256, ← Nat.div_div_eq_div_mul]
    rw [show (dv bs (k + i) * 256 + bs (k + i + 1)) / 256 = dv bs (k + i) by omega, h]

theorem dv_digit {bs : Nat → Nat} (hl : ∀ j, bs j < 256) {k j : Nat} (h : j < k) : dv bs k / 256 ^ (k - 1 - j) % 256 = bs (1 + j) := by
  have := dv_div hl (j + 1) (k - 1 - j)
  rw [show j + 1 + (k - 1 - j) = k by omega] at this
  rw [this, dv]
  have := hl (j + 1)
  rw [Nat.add_comm 1 j]
  omega

/-- The head that is read is the one that is written. -/
theorem rl_back {bs : Nat → Nat} (hl : ∀ j, bs j < 256) {n m fr len : Nat} (hm : m ≤ bs 0) (hm2 : bs 0 ≤ m + 63) (h : rl bs n m = (fr, len, 0)) : hdB m len = pay bs fr ∧ fr = hsz len ∧ fr ≤ 9 := by
  unfold rl at h
  by_cases h55 : bs 0 - m ≤ 55
  · rw [if_pos h55] at h
    simp only [Prod.mk.injEq, and_true] at h
    obtain ⟨rfl, rfl⟩ := h
    refine ⟨?_, ?_, by omega⟩
    · unfold hdB pay
      rw [if_pos h55]
      simp
      omega
    · unfold hsz
      rw [if_pos h55]
  · rw [if_neg h55] at h
    by_cases h2 : n < bs 0 - m - 54
    · rw [if_pos h2] at h; cases h
    · rw [if_neg h2] at h
      by_cases h3 : bs 1 = 0 ∨ dv bs (bs 0 - m - 55) ≤ 55 ∨ 1099511627776 < dv bs (bs 0 - m - 55)
      · rw [if_pos h3] at h; cases h
      · rw [if_neg h3] at h
        simp only [Prod.mk.injEq, and_true] at h
        obtain ⟨rfl, rfl⟩ := h
        simp only [not_or, Nat.not_lt, Nat.not_le] at h3
        obtain ⟨h31, h32, h33⟩ := h3
        obtain ⟨k, hk⟩ : ∃ k, bs 0 - m - 55 = k + 1 := ⟨bs 0 - m - 56, by omega⟩
        have hk2 : bs 0 - m - 54 = k + 2 := by omega
        rw [hk] at h32 h33 ⊢
        rw [hk2]
        have hnb : NB (dv bs (k + 1)) = k + 1 := NB_of (by omega) (dv_ge h31 k) (dv_lt hl (k + 1))
        refine ⟨?_, ?_, by omega⟩
        · unfold hdB
          rw [if_neg (by omega), hnb, pay_succ]
          have e0 : m + 55 + (k + 1) = bs 0 := by omega
          rw [e0]
          congr 1
          apply List.ext_getElem?
          intro j
          by_cases hj : j < k + 1
          · have a := lowd_get (dv bs (k + 1)) (k + 1) j hj
            rw [dv_digit hl hj] at a
            unfold lb at a
            rw [List.getD_eq_getElem?_getD, List.getElem?_eq_getElem (by rw [lowd_length]; exact hj)] at a
            rw [List.getElem?_eq_getElem (by rw [lowd_length]; exact hj)]
            simp only [Option.getD_some] at a
            rw [a]
            simp [pay, hj]
          · rw [List.getElem?_eq_none (by rw [lowd_length]; omega), List.getElem?_eq_none (by rw [pay_length]; omega)]
        · rw [hsz_long (by omega), hnb]
          omega

/-- The head of a piece that is read, and the form that it is. -/
theorem hd_back {bs : Nat → Nat} (hl : ∀ j, bs j < 256) {n l fr to : Nat} (h : hd bs n = (l, fr, to, 0)) :
    (l = 0 ∧ (Tree.node 0 (pay (fun j => bs (fr + j)) (to - fr)) []).enc = pay bs to ∧ 9 + (to - fr) ≤ 10 * to) ∨ (l = 1 ∧ hdB 192 (to - fr) = pay bs fr ∧ 1 ≤ fr ∧ fr ≤ to) := by
  have hok := hd_ok (bs := bs) (n := n) (by rw [h])
  rw [h] at hok
  dsimp only at hok
  have hplen := pay_length (fun j => bs (fr + j)) (to - fr)
  unfold hd at h
  rw [if_neg (by omega)] at h
  by_cases h1 : bs 0 < 128
  · rw [if_pos h1] at h
    cases h
    refine Or.inl ⟨rfl, ?_, by omega⟩
    rw [enc_eq, if_pos]
    · simp [Tree.encs]
    · rw [hplen, lb_pay (by omega)]
      simpa using h1
  · rw [if_neg h1] at h
    by_cases h2 : bs 0 < 192
    · rw [if_pos h2] at h
      by_cases h3 : (rl bs n 128).2.2 = 0
      · rw [if_neg (by simp [h3])] at h
        by_cases h4 : n - (rl bs n 128).1 < (rl bs n 128).2.1
        · rw [if_pos h4] at h; cases h
        · rw [if_neg h4] at h
          by_cases h5 : (rl bs n 128).2.1 = 1 ∧ bs (rl bs n 128).1 < 128
          · rw [if_pos h5] at h; cases h
          · rw [if_neg h5] at h
            generalize hr : rl bs n 128 = r at *
            obtain ⟨r1, r2, r3⟩ := r
            dsimp only at h3 h4 h5 h
            subst h3
            simp only [Prod.mk.injEq, and_true] at h
            obtain ⟨rfl, rfl, rfl⟩ := h
            obtain ⟨hb, hs, h9⟩ := rl_back hl (by omega) (by omega) hr
            rw [Nat.add_sub_cancel_left] at hplen
            have hp1 := hsz_pos r2
            refine Or.inl ⟨rfl, ?_, by omega⟩
            rw [Nat.add_sub_cancel_left, enc_eq, if_neg]
            · simp only [Tree.encs, List.append_nil, if_true]
              rw [hplen, hb, pay_add]
            · rw [hplen]
              rintro ⟨h6, h7⟩
              rw [lb_pay (by omega), Nat.add_zero] at h7
              exact h5 ⟨h6, h7⟩
      · rw [if_pos h3] at h
        simp only [Prod.mk.injEq] at h
        exact absurd h.2.2.2 h3
    · rw [if_neg h2] at h
      by_cases h3 : (rl bs n 192).2.2 = 0
      · rw [if_neg (by simp [h3])] at h
        by_cases h4 : n - (rl bs n 192).1 < (rl bs n 192).2.1
        · rw [if_pos h4] at h; cases h
        · rw [if_neg h4] at h
          generalize hr : rl bs n 192 = r at *
          obtain ⟨r1, r2, r3⟩ := r
          dsimp only at h3 h4 h
          subst h3
          simp only [Prod.mk.injEq, and_true] at h
          obtain ⟨rfl, rfl, rfl⟩ := h
          have := hl 0
          obtain ⟨hb, hs, _⟩ := rl_back hl (by omega) (by omega) hr
          rw [Nat.add_sub_cancel_left]
          have := hsz_pos r2
          exact Or.inr ⟨rfl, hb, by omega, by omega⟩
      · rw [if_pos h3] at h
        simp only [Prod.mk.injEq] at h
        exact absurd h.2.2.2 h3

theorem text_meas (b : List Nat) (w : Nat) : ((Tree.node 0 b []).meas w).2 = 0 := by
  unfold Tree.meas
  have hc : chk 0 b.length ([] : List Tree).length w = 0 := by
    unfold chk
    rw [if_neg (by simp), if_pos (Or.inl ⟨rfl, rfl⟩)]
  rw [if_neg (fun h => h hc)]
  split
  · rfl
  · rw [Tree.measK_nil]
    rfl

theorem list_meas {k : List Tree} {w : Nat} (hw : w < 64) (h : (Tree.measK k (w + 1) 0).2 = 0) : ((Tree.node 1 [] k).meas w).2 = 0 := by
  unfold Tree.meas
  have hc : chk 1 ([] : List Nat).length k.length w = 0 := by
    unfold chk
    rw [if_neg (by omega), if_pos (Or.inr ⟨rfl, rfl⟩)]
  rw [if_neg (fun h => h hc), if_neg (by simp), List.length_nil, if_neg (by simp [h])]

/-- What a reading is worth. -/
def RdBack (d : Nat) : Prop := ∀ (bs : Nat → Nat), (∀ j, bs j < 256) → ∀ (n p l f t : Nat), p ≤ n → hd (fun j => bs (p + j)) (n - p) = (l, f, t, 0) → (rd d bs l (p + f) (p + t)).2 = 0 →
  (rd d bs l (p + f) (p + t)).1.enc = pay (fun j => bs (p + j)) t ∧ ((rd d bs l (p + f) (p + t)).1.meas (64 - d)).2 = 0 ∧ (rd d bs l (p + f) (p + t)).1.wt ≤ 10 * t

theorem rdK_back {d : Nat} (h : RdBack d) (bs : Nat → Nat) (hl : ∀ j, bs j < 256) (m : Nat) : ∀ (fuel p acc : Nat), p ≤ m → m + 1 ≤ fuel + p → (rdK (rd d bs) (pcs bs m fuel p)).2 = 0 →
    Tree.encs (rdK (rd d bs) (pcs bs m fuel p)).1 = pay (fun j => bs (p + j)) (m - p) ∧ (Tree.measK (rdK (rd d bs) (pcs bs m fuel p)).1 (64 - d) acc).2 = 0 ∧ Tree.wts (rdK (rd d bs) (pcs bs m fuel p)).1 ≤ 10 * (m - p)
  | 0, p, acc, h1, h2, _ => by omega
  | fuel + 1, p, acc, h1, h2, h0 => by
    rw [pcs] at h0 ⊢
    by_cases hp : p < m
    · rw [if_pos hp] at h0 ⊢
      have hok := hd_ok (bs := fun j => bs (p + j)) (n := m - p)
      have hB := h bs hl m p
      generalize hd (fun j => bs (p + j)) (m - p) = q at *
      obtain ⟨l, f, t, e⟩ := q
      dsimp only at h0 hok ⊢
      by_cases he : e = 0
      · subst he
        obtain ⟨_, o1, o2, o3, o4⟩ := hok rfl
        rw [if_neg (by simp)] at h0 ⊢
        have hB := hB l f t (by omega) rfl
        by_cases hr : (rd d bs l (p + f) (p + t)).2 = 0
        · obtain ⟨b1, b2, b3⟩ := hB hr
          rw [rdK_next rfl hr] at h0 ⊢
          dsimp only at h0 ⊢
          by_cases hrest : (rdK (rd d bs) (pcs bs m fuel (p + t))).2 = 0
          · obtain ⟨r1, r2, r3⟩ := rdK_back h bs hl m fuel (p + t) (acc + ((rd d bs l (p + f) (p + t)).1.meas (64 - d)).1) (by omega) (by omega) hrest
            rw [if_neg (by simp [hrest])]
            dsimp only
            refine ⟨?_, ?_, ?_⟩
            · rw [Tree.encs_cons, b1, r1, pay_split (bs := fun j => bs (p + j)) (show t ≤ m - p by omega), show m - p - t = m - (p + t) by omega]
              congr 2
              funext j
              rw [Nat.add_assoc]
            · rw [Tree.measK_cons, if_neg (by simp [b2])]
              exact r2
            · rw [Tree.wts_cons]
              omega
          · rw [if_pos hrest] at h0
            exact absurd h0 hrest
        · rw [rdK_worse rfl hr] at h0
          exact absurd h0 hr
      · rw [if_pos he, rdK_bad he] at h0
        exact absurd h0 he
    · rw [if_neg hp, rdK]
      have : m - p = 0 := by omega
      rw [this]
      exact ⟨by simp [Tree.encs, pay], by rw [Tree.measK_nil], by simp [Tree.wts]⟩

theorem rd_back : ∀ d, d ≤ 64 → RdBack d
  | 0, _, bs, hl, n, p, l, f, t, hpn, hh, h0 => by
    rcases hd_back (bs := fun j => bs (p + j)) (fun j => hl _) hh with ⟨rfl, he, hw⟩ | ⟨rfl, _⟩
    · rw [rd_text]
      dsimp only
      rw [show p + t - (p + f) = t - f by omega]
      have e : (fun j => bs (p + f + j)) = fun j => bs (p + (f + j)) := by funext j; rw [Nat.add_assoc]
      rw [e]
      exact ⟨he, text_meas _ _, by simp only [Tree.wt, Tree.wts, pay_length]; omega⟩
    · rw [rd_deep] at h0
      cases h0
  | d + 1, hd64, bs, hl, n, p, l, f, t, hpn, hh, h0 => by
    have e : (fun j => bs (p + f + j)) = fun j => bs (p + (f + j)) := by funext j; rw [Nat.add_assoc]
    rcases hd_back (bs := fun j => bs (p + j)) (fun j => hl _) hh with ⟨rfl, he, hw⟩ | ⟨rfl, he, h1f, hft⟩
    · rw [rd_text]
      dsimp only
      rw [show p + t - (p + f) = t - f by omega, e]
      exact ⟨he, text_meas _ _, by simp only [Tree.wt, Tree.wts, pay_length]; omega⟩
    · rw [rd_list] at h0 ⊢
      rw [show p + t - (p + f) = t - f by omega] at h0 ⊢
      by_cases hk : (rdK (rd d (fun j => bs (p + f + j))) (pcs (fun j => bs (p + f + j)) (t - f) (t - f + 1) 0)).2 = 0
      · obtain ⟨k1, k2, k3⟩ := rdK_back (rd_back d (by omega)) (fun j => bs (p + f + j)) (fun j => hl _) (t - f) (t - f + 1) 0 0 (by omega) (by omega) hk
        rw [if_neg (by simp [hk])]
        dsimp only
        generalize (rdK (rd d (fun j => bs (p + f + j))) (pcs (fun j => bs (p + f + j)) (t - f) (t - f + 1) 0)).1 = ks at *
        have hlen : (Tree.encs ks).length = t - f := by rw [k1, pay_length]; omega
        refine ⟨?_, list_meas (by omega) (by rw [show 64 - (d + 1) + 1 = 64 - d by omega]; exact k2), ?_⟩
        · rw [enc_eq, if_neg (by simp)]
          simp only [List.nil_append, show ¬ (1 : Int) = 0 by decide, if_false]
          rw [hlen, he, k1, pay_split (bs := fun j => bs (p + j)) hft]
          congr 1
          simp only [Nat.zero_add, Nat.sub_zero, e]
        · simp only [Tree.wt, List.length_nil]
          omega
      · rw [if_pos hk] at h0
        exact absurd h0 hk

/-- What Decode reads is written again, byte for byte. -/
theorem dec_back {bs : Nat → Nat} (hl : ∀ j, bs j < 256) {n : Nat} (h : (dec bs n).2 = 0) : (dec bs n).1.enc = pay bs n ∧ ((dec bs n).1.meas 0).2 = 0 ∧ (dec bs n).1.wt ≤ 10 * n := by
  unfold dec at h ⊢
  have hok := hd_ok (bs := bs) (n := n)
  have hB := rd_back 64 (Nat.le_refl _) bs hl n 0
  simp only [Nat.zero_add, Nat.sub_zero, Nat.sub_self] at hB
  generalize hd bs n = q at *
  obtain ⟨l, f, t, e⟩ := q
  dsimp only at h hok ⊢
  by_cases he : e = 0
  · subst he
    rw [if_neg (by simp)] at h ⊢
    by_cases hr : (rd 64 bs l f t).2 = 0
    · rw [if_neg (by simp [hr])] at h ⊢
      by_cases ht : t < n
      · rw [if_pos ht] at h; cases h
      · rw [if_neg ht]
        have := hok rfl
        obtain rfl : t = n := by omega
        exact hB l f t (Nat.zero_le _) rfl hr
    · rw [if_pos hr] at h; exact absurd h hr
  · rw [if_pos he] at h; exact absurd h he

/-- What is refused is nothing. -/
theorem dec_none {bs : Nat → Nat} {n : Nat} (h : (dec bs n).2 ≠ 0) : (dec bs n).1 = .node 0 [] [] := by
  unfold dec at h ⊢
  repeat' split
  all_goals first | rfl | skip
  rename_i h1 h2 h3
  rw [if_neg h1, if_neg h2, if_neg h3] at h
  exact absurd rfl h

end Go.Proofs.Ytigebmidfddbcaa
