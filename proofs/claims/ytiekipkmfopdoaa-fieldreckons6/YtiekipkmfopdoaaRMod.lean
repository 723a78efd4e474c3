/-
  The document's sums and differences modulo a number, and its rests, bit by bit.
-/
import Derived.Test.YtiekipkmfopdoaaRAdd
namespace Go.Proofs.Ytiekipkmfopdoaa
open Go.RowKit Go.Shelf

/-- The document's Sub, of numbers. -/
theorem rsub_num {n : Nat} (hn : n ≤ 8) (X Y : Nat) (hX : X < 18446744073709551616 ^ n) (hY : Y < 18446744073709551616 ^ n) (w : World) (u v : Value) (hu : LW w u n (limb X)) (hv : LW w v n (limb Y)) :
    Calls Try.prog 84 #[u, v] w fun r w' => (∃ (v' : Value) (c : Nat), r = .returned (.tuple #[v', .int .u64 c]) ∧ LW w' v' n (limb (if X < Y then X + 18446744073709551616 ^ n - Y else X - Y)) ∧ c = if X < Y then 1 else 0) ∧ Below w.heap.size w w' := by
  refine (rsub_raw hn (limb X) (limb Y) (limb_lt X) (limb_lt Y) w u v hu hv).mono ?_
  rintro r w' ⟨⟨g, c, rfl, f, hg, _, hf, hc, hs⟩, hb⟩
  refine ⟨⟨_, c, rfl, ?_, ?_⟩, hb⟩
  · have h1 := (row_LW (by omega) hg).num hf
    have h2 := val_lt n (fun j _ => hf j)
    rw [val_limbs hX, val_limbs hY] at hs
    generalize 18446744073709551616 ^ n = P at *
    generalize val f n = Z at *
    have e : (if X < Y then X + P - Y else X - Y) = Z := by
      rcases (show c = 0 ∨ c = 1 by omega) with rfl | rfl
      · rw [if_neg (by omega)]; omega
      · rw [if_pos (by omega)]; omega
    rw [e]
    exact h1
  · have h2 := val_lt n (fun j _ => hf j)
    rw [val_limbs hX, val_limbs hY] at hs
    generalize 18446744073709551616 ^ n = P at *
    generalize val f n = Z at *
    rcases (show c = 0 ∨ c = 1 by omega) with rfl | rfl
    · rw [if_neg (by omega)]
    · rw [if_pos (by omega)]

/-- The document's Add, of numbers. -/
theorem radd_num {n : Nat} (hn : n ≤ 8) (X Y : Nat) (hX : X < 18446744073709551616 ^ n) (hY : Y < 18446744073709551616 ^ n) (w : World) (u v : Value) (hu : LW w u n (limb X)) (hv : LW w v n (limb Y)) :
    Calls Try.prog 81 #[u, v] w fun r w' => (∃ (v' : Value) (c : Nat), r = .returned (.tuple #[v', .int .u64 c]) ∧ LW w' v' n (limb (if X + Y < 18446744073709551616 ^ n then X + Y else X + Y - 18446744073709551616 ^ n)) ∧ c = if X + Y < 18446744073709551616 ^ n then 0 else 1) ∧ Below w.heap.size w w' := by
  refine (radd_raw hn (limb X) (limb Y) (limb_lt X) (limb_lt Y) w u v hu hv).mono ?_
  rintro r w' ⟨⟨g, c, rfl, f, hg, _, hf, hc, hs⟩, hb⟩
  refine ⟨⟨_, c, rfl, ?_, ?_⟩, hb⟩
  · have h1 := (row_LW (by omega) hg).num hf
    have h2 := val_lt n (fun j _ => hf j)
    rw [val_limbs hX, val_limbs hY] at hs
    generalize 18446744073709551616 ^ n = P at *
    generalize val f n = Z at *
    have e : (if X + Y < P then X + Y else X + Y - P) = Z := by
      rcases (show c = 0 ∨ c = 1 by omega) with rfl | rfl
      · rw [if_pos (by omega)]; omega
      · rw [if_neg (by omega)]; omega
    rw [e]
    exact h1
  · have h2 := val_lt n (fun j _ => hf j)
    rw [val_limbs hX, val_limbs hY] at hs
    generalize 18446744073709551616 ^ n = P at *
    generalize val f n = Z at *
    rcases (show c = 0 ∨ c = 1 by omega) with rfl | rfl
    · rw [if_pos (by omega)]
    · rw [if_neg (by omega)]

theorem mod_once {X M : Nat} (h : M ≤ X) (h2 : X < 2 * M) : X % M = X - M := by
  rw [Nat.mod_eq_sub_mod h, Nat.mod_eq_of_lt (by omega)]

set_option maxHeartbeats 1000000 in
set_option maxRecDepth 100000 in
/-- The document's AddMod. -/
theorem raddMod_any {n : Nat} (hn : n ≤ 8) (X Y M : Nat) (hX : X < M) (hY : Y < M) (hM : M < 18446744073709551616 ^ n) (w : World) (u v m : Value) (hu : LW w u n (limb X)) (hv : LW w v n (limb Y)) (hm : LW w m n (limb M)) :
    Calls Try.prog 37 #[u, v, m] w fun r w' => (∃ v', r = .returned v' ∧ LW w' v' n (limb ((X + Y) % M))) ∧ Below w.heap.size w w' := by
  have C1 := hideP (radd_num hn X Y (by omega) (by omega) w u v hu hv)
  have HM := hideP hm
  have HH : Hid (X < M ∧ Y < M ∧ M < 18446744073709551616 ^ n ∧ n ≤ 8) := ⟨hX, hY, hM, hn⟩
  clear hu hv hm hX hY hM hn
  go_enter Try.func37, Try.ntmps37
  go_wp2_with fail
  refine C1.out.mono ?_
  rintro r w1 ⟨⟨v1, c, rfl, h1, hc⟩, hb⟩
  have HM1 := hideP (HM.out.moved hb)
  have HB1 := hideP hb
  have H1 := hideP h1
  obtain ⟨qX, qY, qM, qn⟩ := HH.out
  clear h1 hb C1 HM
  by_cases hov : X + Y < 18446744073709551616 ^ n
  · rw [if_pos hov] at hc H1
    subst hc
    have C2 := hideP (rlt_any qn (X + Y) M hov qM w1 v1 m H1.out HM1.out)
    by_cases hlt : X + Y < M
    · rw [decide_eq_true hlt] at C2
      have HE := hideP (Nat.mod_eq_of_lt hlt)
      clear qX qY qM qn hov hlt HH
      go_wp2_with fail
      refine C2.out.mono ?_
      rintro r w2 ⟨rfl, hb⟩
      have HB2 := hideP (HB1.out.trans (hb.mono HB1.out.size))
      have H2 := hideP (H1.out.moved hb)
      clear hb
      go_wp2
      go_ret
      exact ⟨⟨_, rfl, by rw [HE.out]; exact H2.out⟩, HB2.out⟩
    · rw [decide_eq_false hlt] at C2
      have HE := hideP (mod_once (X := X + Y) (M := M) (by omega) (by omega))
      have C3 := hideP (fun w2 (h2 : LW w2 v1 n (limb (X + Y))) (h3 : LW w2 m n (limb M)) => rsub_num qn (X + Y) M hov qM w2 v1 m h2 h3)
      rw [if_neg hlt] at C3
      clear qX qY qM qn hov hlt HH
      go_wp2_with fail
      refine C2.out.mono ?_
      rintro r w2 ⟨rfl, hb⟩
      have HB2 := hideP (HB1.out.trans (hb.mono HB1.out.size))
      have H2 := hideP (H1.out.moved hb)
      have HM2 := hideP (HM1.out.moved hb)
      clear hb
      go_wp2_with fail
      refine (C3.out _ H2.out HM2.out).mono ?_
      rintro r w3 ⟨⟨v3, c3, rfl, h3, -⟩, hb⟩
      have HB3 := hideP (HB2.out.trans (hb.mono HB2.out.size))
      have H3 := hideP h3
      clear hb h3
      go_wp2
      go_ret
      exact ⟨⟨_, rfl, by rw [HE.out]; exact H3.out⟩, HB3.out⟩
  · rw [if_neg hov] at hc H1
    subst hc
    have HE := hideP (mod_once (X := X + Y) (M := M) (by omega) (by omega))
    have C3 := hideP (rsub_num qn (X + Y - 18446744073709551616 ^ n) M (by omega) qM w1 v1 m H1.out HM1.out)
    rw [if_pos (by omega), show X + Y - 18446744073709551616 ^ n + 18446744073709551616 ^ n - M = X + Y - M by omega] at C3
    clear qX qY qM qn hov HH
    go_wp2_with fail
    refine C3.out.mono ?_
    rintro r w3 ⟨⟨v3, c3, rfl, h3, -⟩, hb⟩
    have HB3 := hideP (HB1.out.trans (hb.mono HB1.out.size))
    have H3 := hideP h3
    clear hb h3
    go_wp2
    go_ret
    exact ⟨⟨_, rfl, by rw [HE.out]; exact H3.out⟩, HB3.out⟩

set_option maxHeartbeats 1000000 in
set_option maxRecDepth 100000 in
/-- The document's SubMod. -/
theorem rsubMod_any {n : Nat} (hn : n ≤ 8) (X Y M : Nat) (hX : X < M) (hY : Y < M) (hM : M < 18446744073709551616 ^ n) (w : World) (u v m : Value) (hu : LW w u n (limb X)) (hv : LW w v n (limb Y)) (hm : LW w m n (limb M)) :
    Calls Try.prog 39 #[u, v, m] w fun r w' => (∃ v', r = .returned v' ∧ LW w' v' n (limb ((X + (M - Y)) % M))) ∧ Below w.heap.size w w' := by
  have C1 := hideP (rsub_num hn X Y (by omega) (by omega) w u v hu hv)
  have HM := hideP hm
  have HH : Hid (X < M ∧ Y < M ∧ M < 18446744073709551616 ^ n ∧ n ≤ 8) := ⟨hX, hY, hM, hn⟩
  clear hu hv hm hX hY hM hn
  go_enter Try.func39, Try.ntmps39
  go_wp2_with fail
  refine C1.out.mono ?_
  rintro r w1 ⟨⟨v1, c, rfl, h1, hc⟩, hb⟩
  have HM1 := hideP (HM.out.moved hb)
  have HB1 := hideP hb
  have H1 := hideP h1
  obtain ⟨qX, qY, qM, qn⟩ := HH.out
  clear h1 hb C1 HM
  by_cases hlt : X < Y
  · rw [if_pos hlt] at hc H1
    subst hc
    have HE := hideP (show (X + (M - Y)) % M = X + (M - Y) from Nat.mod_eq_of_lt (by omega))
    have C3 := hideP (radd_num qn (X + 18446744073709551616 ^ n - Y) M (by omega) qM w1 v1 m H1.out HM1.out)
    rw [if_neg (by omega), show X + 18446744073709551616 ^ n - Y + M - 18446744073709551616 ^ n = X + (M - Y) by omega] at C3
    clear qX qY qM qn hlt HH
    go_wp2_with fail
    refine C3.out.mono ?_
    rintro r w3 ⟨⟨v3, c3, rfl, h3, -⟩, hb⟩
    have HB3 := hideP (HB1.out.trans (hb.mono HB1.out.size))
    have H3 := hideP h3
    clear hb h3
    go_wp2
    go_ret
    exact ⟨⟨_, rfl, by rw [HE.out]; exact H3.out⟩, HB3.out⟩
  · rw [if_neg hlt] at hc H1
    subst hc
    have HE := hideP (show (X + (M - Y)) % M = X - Y by
      rw [show X + (M - Y) = X - Y + M by omega, Nat.add_mod_right, Nat.mod_eq_of_lt (by omega)])
    clear qX qY qM qn hlt HH
    go_wp2
    go_ret
    exact ⟨⟨_, rfl, by rw [HE.out]; exact H1.out⟩, HB1.out⟩

end Go.Proofs.Ytiekipkmfopdoaa
