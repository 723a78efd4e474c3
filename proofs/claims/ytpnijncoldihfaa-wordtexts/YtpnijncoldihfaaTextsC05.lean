/-
  math/bits.Div64: two limbs by one.
-/
import Derived.Test.YtpnijncoldihfaaTextsC04
namespace Go.Proofs.Ytpnijncoldihfaa
open Go.RowKit Go.Shelf

theorem guess_eqs {u y1 : Nat} (hu : u < 18446744073709551616) : ∃ q r : Nat, q = u / y1 ∧ r = u % y1 ∧ IntKind.u64.wrap ((u : Int) / (y1 : Int)) = (q : Int) ∧ IntKind.u64.wrap ((u : Int) - IntKind.u64.wrap ((q : Int) * (y1 : Int))) = (r : Int) := by
  have hq : u / y1 ≤ u := Nat.div_le_self _ _
  have hd := Nat.div_add_mod u y1
  have hm : u / y1 * y1 ≤ u := Nat.div_mul_le_self u y1
  rw [Nat.mul_comm] at hd
  refine ⟨u / y1, u % y1, rfl, rfl, ?_, ?_⟩
  · rw [← Int.natCast_ediv]; exact u64_wrap_nat _ (by omega)
  · rw [M64.mulN, u64_wrap_nat _ (by omega), show (u : Int) - ((u / y1 * y1 : Nat) : Int) = ((u % y1 : Nat) : Int) by omega]
    exact u64_wrap_nat _ (by omega)

theorem Inv_lt {B V y1 y0 u u1 q r : Nat} (I : D64.Inv B V y1 y0 u u1 q r) (hy : 0 < y1) (hu : u < 18446744073709551616) : q < 18446744073709551616 := by
  have h := I.sum
  have : q * 1 ≤ q * y1 := Nat.mul_le_mul_left q hy
  omega

theorem down_wrap {a : Nat} (h : a < 18446744073709551616) (_ : 0 < a) : IntKind.u64.wrap ((a - 1 : Nat) : Int) = ((a - 1 : Nat) : Int) := u64_wrap_nat _ (by omega)

theorem half_end {u u1 V q : Nat} (hq : q = (u * 4294967296 + u1) / V) (hV : V < 18446744073709551616) (h0 : 0 < V) :
    ∃ m : Nat, m = (u * 4294967296 + u1) % V ∧ m < V ∧ IntKind.u64.wrap (IntKind.u64.wrap (IntKind.u64.wrap ((u : Int) * 4294967296) + (u1 : Int)) - IntKind.u64.wrap ((q : Int) * (V : Int))) = (m : Int) := by
  have hd := Nat.div_add_mod (u * 4294967296 + u1) V
  have hm := Nat.mod_lt (u * 4294967296 + u1) h0
  rw [← hq, Nat.mul_comm] at hd
  refine ⟨_, rfl, hm, ?_⟩
  rw [M64.mulN q V]
  generalize q * V = P at hd
  generalize (u * 4294967296 + u1) % V = m at hd hm
  rw [IntKind.wrap_u64, IntKind.wrap_u64, IntKind.wrap_u64, IntKind.wrap_u64]
  omega

theorem last_eqs {hi lo y s V y1 y0 u L u1 u0 q1 q0 m A R : Nat} (D : DSet hi lo y s V y1 y0 u L u1 u0) (h1 : q1 = (u * 4294967296 + u1) / V) (hm : m = (u * 4294967296 + u1) % V) (h0 : q0 = (m * 4294967296 + u0) / V)
    (hA : A = (hi * 18446744073709551616 + lo) / y) (hR : R = (hi * 18446744073709551616 + lo) % y) (hy : hi < y ∧ lo < 18446744073709551616) :
    (IntKind.u64.wrap (IntKind.u64.wrap ((q1 : Int) * 4294967296) + (q0 : Int)) = (A : Int) ∧ IntKind.u64.wrap ((q1 : Int) * 4294967296 + (q0 : Int)) = (A : Int) ∧ (q1 : Int) * 4294967296 + (q0 : Int) = (A : Int) ∧ IntKind.u64.wrap (A : Int) = (A : Int)) ∧
    IntKind.u64.wrap (IntKind.u64.wrap (IntKind.u64.wrap ((m : Int) * 4294967296) + (u0 : Int)) - IntKind.u64.wrap ((q0 : Int) * (V : Int))) / 2 ^ min (IntKind.u64.wrap (s : Int)).toNat 64 = (R : Int) := by
  have hVp : 0 < V := by have := D.hu; omega
  have hN : u * (4294967296 * 4294967296) + (u1 * 4294967296 + u0) = (hi * 18446744073709551616 + lo) * 2 ^ s := by
    have := D.hN
    rw [D.hL2] at this
    omega
  obtain ⟨f1, f2⟩ := D64.fin (B := 4294967296) (q1 := q1) (q0 := q0) D.hV (by omega) hN h1 (by rw [← hm]; exact h0)
  rw [← hA] at f1
  rw [← hR, ← hm] at f2
  obtain ⟨m', e1, _, e3⟩ := half_end (u := m) (u1 := u0) (V := V) h0 D.hV1 hVp
  have hA64 : A < 18446744073709551616 := by
    rw [hA, Nat.div_lt_iff_lt_mul (by omega)]
    have : (hi + 1) * 18446744073709551616 ≤ y * 18446744073709551616 := Nat.mul_le_mul_right _ hy.1
    rw [Nat.mul_comm 18446744073709551616 y]
    omega
  refine ⟨?_, ?_⟩
  · rw [IntKind.wrap_u64, IntKind.wrap_u64, IntKind.wrap_u64, IntKind.wrap_u64]
    omega
  · rw [e3, u64_wrap_nat s (by have := D.hs; omega), show min ((s : Int).toNat) 64 = s by have := D.hs; omega, show ((m' : Int) / 2 ^ s) = ((m' / 2 ^ s : Nat) : Int) by simp, e1, f2]

set_option maxHeartbeats 8000000 in
set_option maxRecDepth 100000 in
theorem div64_any (hi lo y : Nat) (h1 : hi < y) (hy : y < 18446744073709551616) (hlo : lo < 18446744073709551616) (w : World) :
    Calls Try.prog 127 #[.int .u64 hi, .int .u64 lo, .int .u64 y] w fun e w' => e = .returned (.tuple #[.int .u64 (((hi * 18446744073709551616 + lo) / y : Nat) : Int), .int .u64 (((hi * 18446744073709551616 + lo) % y : Nat) : Int)]) ∧ ∃ n, w' = w.drewN n := by
  have hlz := fun w => lz64_any y w hy
  obtain ⟨s, hs⟩ : ∃ s, s = 64 - Lib.bitLen y := ⟨_, rfl⟩
  rw [← hs] at hlz
  obtain ⟨V, y1, y0, u, L, u1, u0, D⟩ := dset hi lo y s h1 hy hlo hs
  have hV3 := D.hV1
  have hu3 := D.hu
  obtain ⟨q, r, hq, hr, eQ, eR⟩ := guess_eqs (u := u) (y1 := y1) (by omega)
  obtain ⟨A, hA⟩ : ∃ A, A = (hi * 18446744073709551616 + lo) / y := ⟨_, rfl⟩
  obtain ⟨R, hR⟩ : ∃ R, R = (hi * 18446744073709551616 + lo) % y := ⟨_, rfl⟩
  rw [← hA, ← hR]
  have HA := hideP hA
  have HR := hideP hR
  have HY : Hid (hi < y ∧ lo < 18446744073709551616) := ⟨h1, hlo⟩
  have HI : Hid (D64.Inv 4294967296 V y1 y0 u u1 q r) := by rw [hq, hr]; exact D64.Inv.start D.hV2 (by have := D.hy1'; omega) D.hy1 D.hu1
  have HD := hideP D
  have HV0 : Hid (0 < V) := by have := D.hu; show 0 < V; omega
  have eV := D.eV
  have eY1 := D.eY1
  have eY0 := D.eY0
  have eU := D.eU
  have eL := D.eL
  have eL1 := D.eL1
  have eL0 := D.eL0
  clear D hs hA hR hq hr hV3 hu3
  by_cases h0 : hi = 0
  · subst h0
    have hn1 : ¬ ((y : Int) = 0) := by omega
    have hn2 : ¬ ((y : Int) ≤ 0) := by omega
    have z1 : IntKind.u64.wrap ((lo : Int) / (y : Int)) = (A : Int) := by
      rw [← Int.natCast_ediv, HA.out, Nat.zero_mul, Nat.zero_add]
      exact u64_wrap_nat _ (Nat.lt_of_le_of_lt (Nat.div_le_self _ _) hlo)
    have z2 : (lo : Int) % (y : Int) = (R : Int) := by
      rw [← Int.natCast_emod, HR.out, Nat.zero_mul, Nat.zero_add]
    clear h1 hy hlo eV eY1 eY0 eU eL eL1 eL0 eQ eR hlz
    go_enter Try.func127, Try.ntmps127
    go_wp2_with fail
    go_region
    all_goals (try go_wp2)
    all_goals (go_ret2; exact ⟨by rw [← z2]; rfl, 1, rfl⟩)
  · have hn1 : ¬ ((y : Int) = 0) := by omega
    have hn2 : ¬ ((y : Int) ≤ hi) := by omega
    have hn3 : ¬ ((hi : Int) = 0) := by omega
    have hn4 : ¬ ((y1 : Int) = 0) := by have := HD.out.hy1'; omega
    clear h0 h1 hy hlo
    go_enter Try.func127, Try.ntmps127
    go_wp2_with (go_at_call 128; refine (hlz _).mono ?_; rintro e w' ⟨rfl, rfl⟩)
    clear eV eY1 eY0 eU eL eL1 eL0 eQ eR hn1 hn2 hn3 hn4 hlz
    go_loop [15, 16] (fun a b => ∃ q r : Nat, a = .int .u64 q ∧ b = .int .u64 r ∧ D64.Inv 4294967296 V y1 y0 u u1 q r) (fun _ b => 4294967296 - (intOf b).toNat)
    case atStart => exact ⟨q, r, rfl, rfl, HI.out⟩
    case round =>
      obtain ⟨a, b, rfl, rfl, I⟩ := hrel
      have hy1 := HD.out.hy1
      have hy1' := HD.out.hy1'
      have hb := I.lt
      have HI2 := hideP I
      clear I
      by_cases hge : 4294967296 ≤ a
      · obtain ⟨g0, g1, g2⟩ := HI2.out.great HD.out.hV2 HD.out.hu HD.out.hu1 (.inl hge)
        have k2 := down_wrap (Inv_lt HI2.out (by have := HD.out.hy1'; omega) (Nat.lt_trans HD.out.hu HD.out.hV1)) g0
        obtain ⟨a', rfl⟩ : ∃ a', a = a' + 1 := ⟨a - 1, by omega⟩
        simp only [Nat.add_sub_cancel] at k2
        have k1 : (4294967296 : Int) ≤ (a' : Int) + 1 := by omega
        have k3 : IntKind.u64.wrap ((b : Int) + (y1 : Int)) = (b : Int) + y1 := by rw [IntKind.wrap_u64]; omega
        have HG : Hid (4294967296 ≤ a' + 1) := hge
        clear g0 g1 g2 hge
        by_cases hbr : 4294967296 ≤ b + y1
        · have k4 : (4294967296 : Int) ≤ (b : Int) + y1 := by omega
          have HF : Hid (a' = (u * 4294967296 + u1) / V) := (HI2.out.broke HD.out.hV2 HD.out.hy0 HD.out.hu HD.out.hu1 (.inl HG.out) hbr).1
          clear hbr hy1 hy1' hb
          have HF1 := hideP HF.out
          obtain ⟨m, hm, hmV, eM⟩ := half_end (q := a') HF.out HD.out.hV1 HV0.out
          clear HF
          have HM2 := hideP (And.intro hm hmV)
          obtain ⟨q2, r2, hq2, hr2, eQ2, eR2⟩ := guess_eqs (u := m) (y1 := y1) (by have := HD.out.hV1; omega)
          have HI3 : Hid (D64.Inv 4294967296 V y1 y0 m u0 q2 r2) := by rw [hq2, hr2]; exact D64.Inv.start HD.out.hV2 (by have := HD.out.hy1'; omega) HD.out.hy1 HD.out.hu0
          have hn4 : ¬ ((y1 : Int) = 0) := by have := HD.out.hy1'; omega
          clear hm hmV hq2 hr2
          go_wp2_with fail
          clear eM eQ2 eR2 hn4
          go_loop [18, 16] (fun a b => ∃ q r : Nat, a = .int .u64 q ∧ b = .int .u64 r ∧ D64.Inv 4294967296 V y1 y0 m u0 q r) (fun _ b => 4294967296 - (intOf b).toNat)
          case atStart => exact ⟨q2, r2, rfl, rfl, HI3.out⟩
          case round =>
            obtain ⟨c, d, rfl, rfl, I⟩ := hrel
            have hy1 := HD.out.hy1
            have hy1' := HD.out.hy1'
            have hb := I.lt
            have HI2 := hideP I
            clear I
            by_cases hge : 4294967296 ≤ c
            · obtain ⟨g0, g1, g2⟩ := HI2.out.great HD.out.hV2 HM2.out.2 HD.out.hu0 (.inl hge)
              have k2 := down_wrap (Inv_lt HI2.out (by have := HD.out.hy1'; omega) (Nat.lt_trans HM2.out.2 HD.out.hV1)) g0
              obtain ⟨a', rfl⟩ : ∃ a', c = a' + 1 := ⟨c - 1, by omega⟩
              simp only [Nat.add_sub_cancel] at k2
              have k1 : (4294967296 : Int) ≤ (a' : Int) + 1 := by omega
              have k3 : IntKind.u64.wrap ((d : Int) + (y1 : Int)) = (d : Int) + y1 := by rw [IntKind.wrap_u64]; omega
              have HG : Hid (4294967296 ≤ a' + 1) := hge
              clear g0 g1 g2 hge
              by_cases hbr : 4294967296 ≤ d + y1
              · have k4 : (4294967296 : Int) ≤ (d : Int) + y1 := by omega
                have HF : Hid (a' = (m * 4294967296 + u0) / V) := (HI2.out.broke HD.out.hV2 HD.out.hy0 HM2.out.2 HD.out.hu0 (.inl HG.out) hbr).1
                clear hbr hy1 hy1' hb
                obtain ⟨⟨eA, eA1, eA2, eA3⟩, eB⟩ := last_eqs HD.out HF1.out HM2.out.1 HF.out HA.out HR.out HY.out
                go_wp2_with fail
                go_ret2
                exact ⟨rfl, 0, rfl⟩
              · have k4 : ¬ (4294967296 : Int) ≤ (d : Int) + y1 := by omega
                go_wp2_with fail
                go_round
                case rel => exact ⟨a', d + y1, rfl, by go_num, HI2.out.back HD.out.hV2 HM2.out.2 HD.out.hu0 (.inl HG.out) (by omega)⟩
                case measure => simp [intOf]; omega
            · have k1 : ¬ (4294967296 : Int) ≤ (c : Int) := by omega
              obtain ⟨P, hP⟩ : ∃ P, P = c * y0 := ⟨_, rfl⟩
              have hP1 : P < 18446744073709551616 := by rw [hP]; have := Nat.mul_le_mul (show c ≤ 4294967295 by omega) (show y0 ≤ 4294967295 by have := HD.out.hy0; omega); omega
              have k5 : IntKind.u64.wrap ((c : Int) * (y0 : Int)) = (P : Int) := by rw [M64.mulN, ← hP]; exact u64_wrap_nat _ hP1
              have hux := HD.out.hu0
              have k6 : IntKind.u64.wrap (4294967296 * (d : Int)) = 4294967296 * (d : Int) := by rw [IntKind.wrap_u64]; omega
              have k7 : IntKind.u64.wrap (4294967296 * (d : Int) + (u0 : Int)) = 4294967296 * (d : Int) + u0 := by rw [IntKind.wrap_u64]; omega
              by_cases hgt : 4294967296 * d + u0 < P
              · have k8 : 4294967296 * (d : Int) + u0 < (P : Int) := by omega
                have HG : Hid (4294967296 * d + u0 < c * y0) := by rw [← hP]; exact hgt
                obtain ⟨g0, g1, g2⟩ := HI2.out.great HD.out.hV2 HM2.out.2 HD.out.hu0 (.inr HG.out)
                have k2 := down_wrap (Inv_lt HI2.out (by have := HD.out.hy1'; omega) (Nat.lt_trans HM2.out.2 HD.out.hV1)) g0
                have k3 : IntKind.u64.wrap ((d : Int) + (y1 : Int)) = (d : Int) + y1 := by rw [IntKind.wrap_u64]; omega
                have HP := hideP hP
                obtain ⟨a', ha'⟩ : ∃ a', c = a' + 1 := ⟨c - 1, by omega⟩
                subst ha'
                simp only [Nat.add_sub_cancel] at k2
                rw [show ((a' + 1 : Nat) : Int) = (a' : Int) + 1 by omega] at k1 k5
                clear g0 g1 g2 hge hP hgt hux hP1
                by_cases hbr : 4294967296 ≤ d + y1
                · have k4 : (4294967296 : Int) ≤ (d : Int) + y1 := by omega
                  have HF : Hid (a' = (m * 4294967296 + u0) / V) := (HI2.out.broke HD.out.hV2 HD.out.hy0 HM2.out.2 HD.out.hu0 (.inr HG.out) hbr).1
                  clear hbr hy1 hy1' hb
                  obtain ⟨⟨eA, eA1, eA2, eA3⟩, eB⟩ := last_eqs HD.out HF1.out HM2.out.1 HF.out HA.out HR.out HY.out
                  go_wp2_with fail
                  go_ret2
                  exact ⟨rfl, 0, rfl⟩
                · have k4 : ¬ (4294967296 : Int) ≤ (d : Int) + y1 := by omega
                  go_wp2_with fail
                  go_round
                  case rel => exact ⟨a', d + y1, rfl, by go_num, HI2.out.back HD.out.hV2 HM2.out.2 HD.out.hu0 (.inr HG.out) (by omega)⟩
                  case measure => simp [intOf]; omega
              · have k8 : ¬ (4294967296 * (d : Int) + u0 < (P : Int)) := by omega
                have HF : Hid (c = (m * 4294967296 + u0) / V) := HI2.out.stop HD.out.hV2 (by rw [← hP]; omega)
                clear hge hP hgt hux hP1 hy1 hy1' hb
                obtain ⟨⟨eA, eA1, eA2, eA3⟩, eB⟩ := last_eqs HD.out HF1.out HM2.out.1 HF.out HA.out HR.out HY.out
                go_wp2_with fail
                go_ret2
                exact ⟨rfl, 0, rfl⟩
        · have k4 : ¬ (4294967296 : Int) ≤ (b : Int) + y1 := by omega
          go_wp2_with fail
          go_round
          case rel => exact ⟨a', b + y1, rfl, by go_num, HI2.out.back HD.out.hV2 HD.out.hu HD.out.hu1 (.inl HG.out) (by omega)⟩
          case measure => simp [intOf]; omega
      · have k1 : ¬ (4294967296 : Int) ≤ (a : Int) := by omega
        obtain ⟨P, hP⟩ : ∃ P, P = a * y0 := ⟨_, rfl⟩
        have hP1 : P < 18446744073709551616 := by rw [hP]; have := Nat.mul_le_mul (show a ≤ 4294967295 by omega) (show y0 ≤ 4294967295 by have := HD.out.hy0; omega); omega
        have k5 : IntKind.u64.wrap ((a : Int) * (y0 : Int)) = (P : Int) := by rw [M64.mulN, ← hP]; exact u64_wrap_nat _ hP1
        have hux := HD.out.hu1
        have k6 : IntKind.u64.wrap (4294967296 * (b : Int)) = 4294967296 * (b : Int) := by rw [IntKind.wrap_u64]; omega
        have k7 : IntKind.u64.wrap (4294967296 * (b : Int) + (u1 : Int)) = 4294967296 * (b : Int) + u1 := by rw [IntKind.wrap_u64]; omega
        by_cases hgt : 4294967296 * b + u1 < P
        · have k8 : 4294967296 * (b : Int) + u1 < (P : Int) := by omega
          have HG : Hid (4294967296 * b + u1 < a * y0) := by rw [← hP]; exact hgt
          obtain ⟨g0, g1, g2⟩ := HI2.out.great HD.out.hV2 HD.out.hu HD.out.hu1 (.inr HG.out)
          have k2 := down_wrap (Inv_lt HI2.out (by have := HD.out.hy1'; omega) (Nat.lt_trans HD.out.hu HD.out.hV1)) g0
          have k3 : IntKind.u64.wrap ((b : Int) + (y1 : Int)) = (b : Int) + y1 := by rw [IntKind.wrap_u64]; omega
          have HP := hideP hP
          obtain ⟨a', ha'⟩ : ∃ a', a = a' + 1 := ⟨a - 1, by omega⟩
          subst ha'
          simp only [Nat.add_sub_cancel] at k2
          rw [show ((a' + 1 : Nat) : Int) = (a' : Int) + 1 by omega] at k1 k5
          clear g0 g1 g2 hge hP hgt hux hP1
          by_cases hbr : 4294967296 ≤ b + y1
          · have k4 : (4294967296 : Int) ≤ (b : Int) + y1 := by omega
            have HF : Hid (a' = (u * 4294967296 + u1) / V) := (HI2.out.broke HD.out.hV2 HD.out.hy0 HD.out.hu HD.out.hu1 (.inr HG.out) hbr).1
            clear hbr hy1 hy1' hb
            have HF1 := hideP HF.out
            obtain ⟨m, hm, hmV, eM⟩ := half_end (q := a') HF.out HD.out.hV1 HV0.out
            clear HF
            have HM2 := hideP (And.intro hm hmV)
            obtain ⟨q2, r2, hq2, hr2, eQ2, eR2⟩ := guess_eqs (u := m) (y1 := y1) (by have := HD.out.hV1; omega)
            have HI3 : Hid (D64.Inv 4294967296 V y1 y0 m u0 q2 r2) := by rw [hq2, hr2]; exact D64.Inv.start HD.out.hV2 (by have := HD.out.hy1'; omega) HD.out.hy1 HD.out.hu0
            have hn4 : ¬ ((y1 : Int) = 0) := by have := HD.out.hy1'; omega
            clear hm hmV hq2 hr2
            go_wp2_with fail
            clear eM eQ2 eR2 hn4
            go_loop [18, 16] (fun a b => ∃ q r : Nat, a = .int .u64 q ∧ b = .int .u64 r ∧ D64.Inv 4294967296 V y1 y0 m u0 q r) (fun _ b => 4294967296 - (intOf b).toNat)
            case atStart => exact ⟨q2, r2, rfl, rfl, HI3.out⟩
            case round =>
              obtain ⟨c, d, rfl, rfl, I⟩ := hrel
              have hy1 := HD.out.hy1
              have hy1' := HD.out.hy1'
              have hb := I.lt
              have HI2 := hideP I
              clear I
              by_cases hge : 4294967296 ≤ c
              · obtain ⟨g0, g1, g2⟩ := HI2.out.great HD.out.hV2 HM2.out.2 HD.out.hu0 (.inl hge)
                have k2 := down_wrap (Inv_lt HI2.out (by have := HD.out.hy1'; omega) (Nat.lt_trans HM2.out.2 HD.out.hV1)) g0
                obtain ⟨a', rfl⟩ : ∃ a', c = a' + 1 := ⟨c - 1, by omega⟩
                simp only [Nat.add_sub_cancel] at k2
                have k1 : (4294967296 : Int) ≤ (a' : Int) + 1 := by omega
                have k3 : IntKind.u64.wrap ((d : Int) + (y1 : Int)) = (d : Int) + y1 := by rw [IntKind.wrap_u64]; omega
                have HG : Hid (4294967296 ≤ a' + 1) := hge
                clear g0 g1 g2 hge
                by_cases hbr : 4294967296 ≤ d + y1
                · have k4 : (4294967296 : Int) ≤ (d : Int) + y1 := by omega
                  have HF : Hid (a' = (m * 4294967296 + u0) / V) := (HI2.out.broke HD.out.hV2 HD.out.hy0 HM2.out.2 HD.out.hu0 (.inl HG.out) hbr).1
                  clear hbr hy1 hy1' hb
                  obtain ⟨⟨eA, eA1, eA2, eA3⟩, eB⟩ := last_eqs HD.out HF1.out HM2.out.1 HF.out HA.out HR.out HY.out
                  go_wp2_with fail
                  go_ret2
                  exact ⟨rfl, 0, rfl⟩
                · have k4 : ¬ (4294967296 : Int) ≤ (d : Int) + y1 := by omega
                  go_wp2_with fail
                  go_round
                  case rel => exact ⟨a', d + y1, rfl, by go_num, HI2.out.back HD.out.hV2 HM2.out.2 HD.out.hu0 (.inl HG.out) (by omega)⟩
                  case measure => simp [intOf]; omega
              · have k1 : ¬ (4294967296 : Int) ≤ (c : Int) := by omega
                obtain ⟨P, hP⟩ : ∃ P, P = c * y0 := ⟨_, rfl⟩
                have hP1 : P < 18446744073709551616 := by rw [hP]; have := Nat.mul_le_mul (show c ≤ 4294967295 by omega) (show y0 ≤ 4294967295 by have := HD.out.hy0; omega); omega
                have k5 : IntKind.u64.wrap ((c : Int) * (y0 : Int)) = (P : Int) := by rw [M64.mulN, ← hP]; exact u64_wrap_nat _ hP1
                have hux := HD.out.hu0
                have k6 : IntKind.u64.wrap (4294967296 * (d : Int)) = 4294967296 * (d : Int) := by rw [IntKind.wrap_u64]; omega
                have k7 : IntKind.u64.wrap (4294967296 * (d : Int) + (u0 : Int)) = 4294967296 * (d : Int) + u0 := by rw [IntKind.wrap_u64]; omega
                by_cases hgt : 4294967296 * d + u0 < P
                · have k8 : 4294967296 * (d : Int) + u0 < (P : Int) := by omega
                  have HG : Hid (4294967296 * d + u0 < c * y0) := by rw [← hP]; exact hgt
                  obtain ⟨g0, g1, g2⟩ := HI2.out.great HD.out.hV2 HM2.out.2 HD.out.hu0 (.inr HG.out)
                  have k2 := down_wrap (Inv_lt HI2.out (by have := HD.out.hy1'; omega) (Nat.lt_trans HM2.out.2 HD.out.hV1)) g0
                  have k3 : IntKind.u64.wrap ((d : Int) + (y1 : Int)) = (d : Int) + y1 := by rw [IntKind.wrap_u64]; omega
                  have HP := hideP hP
                  obtain ⟨a', ha'⟩ : ∃ a', c = a' + 1 := ⟨c - 1, by omega⟩
                  subst ha'
                  simp only [Nat.add_sub_cancel] at k2
                  rw [show ((a' + 1 : Nat) : Int) = (a' : Int) + 1 by omega] at k1 k5
                  clear g0 g1 g2 hge hP hgt hux hP1
                  by_cases hbr : 4294967296 ≤ d + y1
                  · have k4 : (4294967296 : Int) ≤ (d : Int) + y1 := by omega
                    have HF : Hid (a' = (m * 4294967296 + u0) / V) := (HI2.out.broke HD.out.hV2 HD.out.hy0 HM2.out.2 HD.out.hu0 (.inr HG.out) hbr).1
                    clear hbr hy1 hy1' hb
                    obtain ⟨⟨eA, eA1, eA2, eA3⟩, eB⟩ := last_eqs HD.out HF1.out HM2.out.1 HF.out HA.out HR.out HY.out
                    go_wp2_with fail
                    go_ret2
                    exact ⟨rfl, 0, rfl⟩
                  · have k4 : ¬ (4294967296 : Int) ≤ (d : Int) + y1 := by omega
                    go_wp2_with fail
                    go_round
                    case rel => exact ⟨a', d + y1, rfl, by go_num, HI2.out.back HD.out.hV2 HM2.out.2 HD.out.hu0 (.inr HG.out) (by omega)⟩
                    case measure => simp [intOf]; omega
                · have k8 : ¬ (4294967296 * (d : Int) + u0 < (P : Int)) := by omega
                  have HF : Hid (c = (m * 4294967296 + u0) / V) := HI2.out.stop HD.out.hV2 (by rw [← hP]; omega)
                  clear hge hP hgt hux hP1 hy1 hy1' hb
                  obtain ⟨⟨eA, eA1, eA2, eA3⟩, eB⟩ := last_eqs HD.out HF1.out HM2.out.1 HF.out HA.out HR.out HY.out
                  go_wp2_with fail
                  go_ret2
                  exact ⟨rfl, 0, rfl⟩
          · have k4 : ¬ (4294967296 : Int) ≤ (b : Int) + y1 := by omega
            go_wp2_with fail
            go_round
            case rel => exact ⟨a', b + y1, rfl, by go_num, HI2.out.back HD.out.hV2 HD.out.hu HD.out.hu1 (.inr HG.out) (by omega)⟩
            case measure => simp [intOf]; omega
        · have k8 : ¬ (4294967296 * (b : Int) + u1 < (P : Int)) := by omega
          have HF : Hid (a = (u * 4294967296 + u1) / V) := HI2.out.stop HD.out.hV2 (by rw [← hP]; omega)
          clear hge hP hgt hux hP1 hy1 hy1' hb
          have HF1 := hideP HF.out
          obtain ⟨m, hm, hmV, eM⟩ := half_end (q := a) HF.out HD.out.hV1 HV0.out
          clear HF
          have HM2 := hideP (And.intro hm hmV)
          obtain ⟨q2, r2, hq2, hr2, eQ2, eR2⟩ := guess_eqs (u := m) (y1 := y1) (by have := HD.out.hV1; omega)
          have HI3 : Hid (D64.Inv 4294967296 V y1 y0 m u0 q2 r2) := by rw [hq2, hr2]; exact D64.Inv.start HD.out.hV2 (by have := HD.out.hy1'; omega) HD.out.hy1 HD.out.hu0
          have hn4 : ¬ ((y1 : Int) = 0) := by have := HD.out.hy1'; omega
          clear hm hmV hq2 hr2
          go_wp2_with fail
          clear eM eQ2 eR2 hn4
          go_loop [18, 16] (fun a b => ∃ q r : Nat, a = .int .u64 q ∧ b = .int .u64 r ∧ D64.Inv 4294967296 V y1 y0 m u0 q r) (fun _ b => 4294967296 - (intOf b).toNat)
          case atStart => exact ⟨q2, r2, rfl, rfl, HI3.out⟩
          case round =>
            obtain ⟨c, d, rfl, rfl, I⟩ := hrel
            have hy1 := HD.out.hy1
            have hy1' := HD.out.hy1'
            have hb := I.lt
            have HI2 := hideP I
            clear I
            by_cases hge : 4294967296 ≤ c
            · obtain ⟨g0, g1, g2⟩ := HI2.out.great HD.out.hV2 HM2.out.2 HD.out.hu0 (.inl hge)
              have k2 := down_wrap (Inv_lt HI2.out (by have := HD.out.hy1'; omega) (Nat.lt_trans HM2.out.2 HD.out.hV1)) g0
              obtain ⟨a', rfl⟩ : ∃ a', c = a' + 1 := ⟨c - 1, by omega⟩
              simp only [Nat.add_sub_cancel] at k2
              have k1 : (4294967296 : Int) ≤ (a' : Int) + 1 := by omega
              have k3 : IntKind.u64.wrap ((d : Int) + (y1 : Int)) = (d : Int) + y1 := by rw [IntKind.wrap_u64]; omega
              have HG : Hid (4294967296 ≤ a' + 1) := hge
              clear g0 g1 g2 hge
              by_cases hbr : 4294967296 ≤ d + y1
              · have k4 : (4294967296 : Int) ≤ (d : Int) + y1 := by omega
                have HF : Hid (a' = (m * 4294967296 + u0) / V) := (HI2.out.broke HD.out.hV2 HD.out.hy0 HM2.out.2 HD.out.hu0 (.inl HG.out) hbr).1
                clear hbr hy1 hy1' hb
                obtain ⟨⟨eA, eA1, eA2, eA3⟩, eB⟩ := last_eqs HD.out HF1.out HM2.out.1 HF.out HA.out HR.out HY.out
                go_wp2_with fail
                go_ret2
                exact ⟨rfl, 0, rfl⟩
              · have k4 : ¬ (4294967296 : Int) ≤ (d : Int) + y1 := by omega
                go_wp2_with fail
                go_round
                case rel => exact ⟨a', d + y1, rfl, by go_num, HI2.out.back HD.out.hV2 HM2.out.2 HD.out.hu0 (.inl HG.out) (by omega)⟩
                case measure => simp [intOf]; omega
            · have k1 : ¬ (4294967296 : Int) ≤ (c : Int) := by omega
              obtain ⟨P, hP⟩ : ∃ P, P = c * y0 := ⟨_, rfl⟩
              have hP1 : P < 18446744073709551616 := by rw [hP]; have := Nat.mul_le_mul (show c ≤ 4294967295 by omega) (show y0 ≤ 4294967295 by have := HD.out.hy0; omega); omega
              have k5 : IntKind.u64.wrap ((c : Int) * (y0 : Int)) = (P : Int) := by rw [M64.mulN, ← hP]; exact u64_wrap_nat _ hP1
              have hux := HD.out.hu0
              have k6 : IntKind.u64.wrap (4294967296 * (d : Int)) = 4294967296 * (d : Int) := by rw [IntKind.wrap_u64]; omega
              have k7 : IntKind.u64.wrap (4294967296 * (d : Int) + (u0 : Int)) = 4294967296 * (d : Int) + u0 := by rw [IntKind.wrap_u64]; omega
              by_cases hgt : 4294967296 * d + u0 < P
              · have k8 : 4294967296 * (d : Int) + u0 < (P : Int) := by omega
                have HG : Hid (4294967296 * d + u0 < c * y0) := by rw [← hP]; exact hgt
                obtain ⟨g0, g1, g2⟩ := HI2.out.great HD.out.hV2 HM2.out.2 HD.out.hu0 (.inr HG.out)
                have k2 := down_wrap (Inv_lt HI2.out (by have := HD.out.hy1'; omega) (Nat.lt_trans HM2.out.2 HD.out.hV1)) g0
                have k3 : IntKind.u64.wrap ((d : Int) + (y1 : Int)) = (d : Int) + y1 := by rw [IntKind.wrap_u64]; omega
                have HP := hideP hP
                obtain ⟨a', ha'⟩ : ∃ a', c = a' + 1 := ⟨c - 1, by omega⟩
                subst ha'
                simp only [Nat.add_sub_cancel] at k2
                rw [show ((a' + 1 : Nat) : Int) = (a' : Int) + 1 by omega] at k1 k5
                clear g0 g1 g2 hge hP hgt hux hP1
                by_cases hbr : 4294967296 ≤ d + y1
                · have k4 : (4294967296 : Int) ≤ (d : Int) + y1 := by omega
                  have HF : Hid (a' = (m * 4294967296 + u0) / V) := (HI2.out.broke HD.out.hV2 HD.out.hy0 HM2.out.2 HD.out.hu0 (.inr HG.out) hbr).1
                  clear hbr hy1 hy1' hb
                  obtain ⟨⟨eA, eA1, eA2, eA3⟩, eB⟩ := last_eqs HD.out HF1.out HM2.out.1 HF.out HA.out HR.out HY.out
                  go_wp2_with fail
                  go_ret2
                  exact ⟨rfl, 0, rfl⟩
                · have k4 : ¬ (4294967296 : Int) ≤ (d : Int) + y1 := by omega
                  go_wp2_with fail
                  go_round
                  case rel => exact ⟨a', d + y1, rfl, by go_num, HI2.out.back HD.out.hV2 HM2.out.2 HD.out.hu0 (.inr HG.out) (by omega)⟩
                  case measure => simp [intOf]; omega
              · have k8 : ¬ (4294967296 * (d : Int) + u0 < (P : Int)) := by omega
                have HF : Hid (c = (m * 4294967296 + u0) / V) := HI2.out.stop HD.out.hV2 (by rw [← hP]; omega)
                clear hge hP hgt hux hP1 hy1 hy1' hb
                obtain ⟨⟨eA, eA1, eA2, eA3⟩, eB⟩ := last_eqs HD.out HF1.out HM2.out.1 HF.out HA.out HR.out HY.out
                go_wp2_with fail
                go_ret2
                exact ⟨rfl, 0, rfl⟩

end Go.Proofs.Ytpnijncoldihfaa
