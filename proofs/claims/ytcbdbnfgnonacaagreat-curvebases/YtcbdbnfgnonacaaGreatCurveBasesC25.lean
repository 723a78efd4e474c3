/-
  The document's points, as plain ones.
-/
import Derived.Test.YtcbdbnfgnonacaaGreatCurveBasesC24
set_option maxHeartbeats 4000000
set_option maxRecDepth 100000
namespace Go.Proofs.YtcbdbnfgnonacaaGreat
open Go.RowKit Go.Shelf
theorem of_1 {n : Nat} (hn : n = 4 ∨ n = 6) (a c : Nat) (ha : a < 18446744073709551616 ^ n) (hc : c < 18446744073709551616 ^ n) (i : Bool) (w : World) (p : Value) (hP : PT w p n [a] [c] i) : Calls Tryz.prog 17 #[p] w fun r w' => r = .returned (.agg (pn a 0 c 0 i)) ∧ Below w.heap.size w w' := by
 obtain ⟨xv, yv, rfl, hu, hv⟩ := hP.ex
 clear hP
 obtain ⟨gu, ou, cu, u0, rfl, -, -, ku, lu⟩ := hu.one
 have HKu0 := hideP ku
 have HLu0 := hideP lu
 have Ha := hideP ha
 clear hu ku lu ha
 obtain ⟨gv, ov, cv, v0, rfl, -, -, kv, lv⟩ := hv.one
 have HKv0 := hideP kv
 have HLv0 := hideP lv
 have Hc := hideP hc
 clear hv kv lv hc
 have HB : Hid (Up w w) := Below.refl _ _
 go_enter Tryz.func17, Tryz.ntmps17
 refine Zby 44 [(0, .agg #[.slice (some ⟨gu, ou, none⟩) 1 cu, .slice (some ⟨gv, ov, none⟩) 1 cv, .bool i])] rfl ⟨rfl, trivial⟩ (fun L hL hK => ?_)
 refine Zad (fun K1 HK1 => ?_)
 have up : ∀ V, Up w V → Up w V := fun _ h => HB.out.trans (h.mono HB.out.size)
 refine ZaP [.pr (NB w.heap.size #[.slice (some ⟨gu, ou, none⟩) 1 cu, .slice (some ⟨gv, ov, none⟩) 1 cv, .bool i] 42), .pr (NB w.heap.size (pn (0) (0) (0) (0) false) 30)] [1, 2] hL hK ⟨Zbb _ _ _, Zbb _ _ _, trivial⟩
   ⟨ok_x [.ex (.agg #[.slice (some ⟨gu, ou, none⟩) 1 cu, .slice (some ⟨gv, ov, none⟩) 1 cv, .bool i])] hK (fun V h => ⟨_, _, ZfP rfl rfl, Zay _ _, _, rfl, h.size, ⟨Zaf _ _⟩⟩),
   ok_x [] hK (fun V h => ⟨_, _, ZaY rfl (al30 _), Zay _ _, _, rfl, h.size, ⟨Zaf _ _⟩⟩),
   trivial⟩ ?_
 rintro W1 h _ ⟨B1, rfl, lB1, hB1⟩ _ ⟨B2, rfl, lB2, hB2⟩ L1 hL1 hK1
 have LB1 := hideP (Nat.le_trans HB.out.size lB1)
 clear lB1
 have LB2 := hideP (Nat.le_trans HB.out.size lB2)
 clear lB2
 replace HB := hideP (up _ h)
 have HB1 := hideP hB1
 clear hB1
 have HB2 := hideP hB2
 clear hB2
 have hK2 := hK1.to [(1, .pointer (some ⟨B1, 0, none⟩)), (2, .pointer (some ⟨B2, 0, none⟩))] (by kernel_rfl)
 clear up h hK1 hK hL L
 revert L1
 intro L hL hK
 refine HK1.out _ _ ?_
 clear HK1 K1
 refine Zad (fun K2 HK2 => ?_)
 have up : ∀ V, Up W1 V → Up w V := fun _ h => HB.out.trans (h.mono HB.out.size)
 refine ZaP [.pr (NB W1.heap.size (pn (0) (0) (0) (0) false) 30)] [1, 2, 3] hL hK ⟨Zbb _ _ _, trivial⟩
   ⟨ok_x [] hK (fun V h => ⟨_, _, ZaY rfl (al30 _), Zay _ _, _, rfl, h.size, ⟨Zaf _ _⟩⟩),
   trivial⟩ ?_
 rintro W2 h _ ⟨B3, rfl, lB3, hB3⟩ L1 hL1 hK1
 have LB3 := hideP (Nat.le_trans HB.out.size lB3)
 have nB3_B1 : B1 ≠ B3 := by have := HB1.out.lt; omega
 have nB3_B2 : B2 ≠ B3 := by have := HB2.out.lt; omega
 clear lB3
 replace HB := hideP (up _ h)
 replace HB1 := hideP (HB1.out.moved h)
 replace HB2 := hideP (HB2.out.moved h)
 have HB3 := hideP hB3
 clear hB3
 have hK2 := hK1.to [(1, .pointer (some ⟨B1, 0, none⟩)), (2, .pointer (some ⟨B2, 0, none⟩)), (3, .pointer (some ⟨B3, 0, none⟩))] (by kernel_rfl)
 clear up h hK1 hK hL L
 revert L1
 intro L hL hK
 refine HK2.out _ _ ?_
 clear HK2 K2
 refine Zad (fun K3 HK3 => ?_)
 have up : ∀ V, Up W2 V → Up w V := fun _ h => HB.out.trans (h.mono HB.out.size)
 refine ZaL [.ex (.pointer (some ⟨B1, 2, none⟩)), .ex (.bool i), .ex (.pointer (some ⟨B3, 24, none⟩))] [1, 2, 3, 5, 6] hL hK trivial
   ⟨ok_q hK,
   ZcZ 2 hK (fun V h => HB1.out.moved h),
   ok_q hK,
   trivial⟩ ?_
 rintro W3 h  L1 hL1 hK1
 replace HB := hideP (up _ h)
 replace HB1 := hideP (HB1.out.moved h)
 replace HB2 := hideP (HB2.out.moved h)
 replace HB3 := hideP (HB3.out.moved h)
 have hK2 := hK1.to [(1, .pointer (some ⟨B1, 0, none⟩)), (2, .pointer (some ⟨B2, 0, none⟩)), (3, .pointer (some ⟨B3, 0, none⟩)), (5, .bool i), (6, .pointer (some ⟨B3, 24, none⟩))] (by kernel_rfl)
 clear up h hK1 hK hL L
 revert L1
 intro L hL hK
 refine ZbR rfl rfl 4 _ _ rfl rfl B3 24 (pn (0) (0) (0) (0) false) [.bool i] 30 (Zaw (hK.get rfl)) (Zaw (hK.get rfl)) rfl HB3.out (by rw [Za8]; exact Nat.le_refl _) (by kernel_rfl) ⟨rfl, trivial⟩ (fun W4 hb9 hx9 => ?_)
 rw [ZiC] at hx9
 replace HB1 := hideP (HB1.out.but hb9 nB3_B1)
 replace HB2 := hideP (HB2.out.but hb9 nB3_B2)
 replace HB := hideP (HB.out.trans (hb9.below.mono LB3.out))
 replace HB3 := hideP hx9
 clear hb9 hx9
 refine HK3.out _ _ ?_
 clear HK3 K3
 refine Zad (fun K4 HK4 => ?_)
 refine Zad (fun K5 HK5 => ?_)
 have up : ∀ V, Up W4 V → Up w V := fun _ h => HB.out.trans (h.mono HB.out.size)
 refine ZaP [.ex (.pointer (some ⟨B1, 0, none⟩)), .ex (.slice (some ⟨gu, ou, none⟩) 1 cu), .ex (.int .i64 1), .ex (.bool true)] [1, 2, 3, 10] hL hK trivial
   ⟨ok_q hK,
   ZcZ 0 hK (fun V h => HB1.out.moved h),
   ok_q hK,
   ok_q hK,
   trivial⟩ ?_
 rintro W5 h  L1 hL1 hK1
 replace HB := hideP (up _ h)
 replace HB1 := hideP (HB1.out.moved h)
 replace HB2 := hideP (HB2.out.moved h)
 replace HB3 := hideP (HB3.out.moved h)
 have hK2 := hK1.to [(1, .pointer (some ⟨B1, 0, none⟩)), (2, .pointer (some ⟨B2, 0, none⟩)), (3, .pointer (some ⟨B3, 0, none⟩)), (10, .bool true)] (by kernel_rfl)
 clear up h hK1 hK hL L
 revert L1
 intro L hL hK
 refine HK5.out _ _ ?_
 clear HK5 K5
 refine ZgU hK ?_
 refine Zad (fun K6 HK6 => ?_)
 have up : ∀ V, Up W5 V → Up w V := fun _ h => HB.out.trans (h.mono HB.out.size)
 refine ZaL [.ex (.pointer (some ⟨B3, 0, none⟩)), .ex (.slice (some ⟨B3, 0, none⟩) 6 6), .ex (.pointer (some ⟨B1, 0, none⟩)), .ex (.slice (some ⟨gu, ou, none⟩) 1 cu), .ex (.pointer (some ⟨gu, ou + 0, none⟩)), .ex (u0)] [1, 2, 3, 12, 16] hL hK trivial
   ⟨ok_q hK,
   ok_q hK,
   ok_q hK,
   ZcZ 0 hK (fun V h => HB1.out.moved h),
   ok_q hK,
   Zct hK (fun V h => (HKu0.out.moved (up V h))),
   trivial⟩ ?_
 rintro W6 h  L1 hL1 hK1
 replace HB := hideP (up _ h)
 replace HB1 := hideP (HB1.out.moved h)
 replace HB2 := hideP (HB2.out.moved h)
 replace HB3 := hideP (HB3.out.moved h)
 have hK2 := hK1.to [(1, .pointer (some ⟨B1, 0, none⟩)), (2, .pointer (some ⟨B2, 0, none⟩)), (3, .pointer (some ⟨B3, 0, none⟩)), (12, .slice (some ⟨B3, 0, none⟩) 6 6), (16, u0)] (by kernel_rfl)
 clear up h hK1 hK hL L
 revert L1
 intro L hL hK
 refine ZeV rfl rfl _ _ rfl rfl B3 0 n (limb a) (pn (0) (0) (0) (0) i) 30 (Zaw (hK.get rfl)) (Zaw (hK.get rfl)) (HLu0.out.moved HB.out) (by omega) HB3.out (by rw [Za8]; omega) (fun W7 hb9 hx9 => ?_)
 rw [ZiA hn Ha.out (0) (0) (0) i] at hx9
 replace HB1 := hideP (HB1.out.but hb9 nB3_B1)
 replace HB2 := hideP (HB2.out.but hb9 nB3_B2)
 replace HB := hideP (HB.out.trans (hb9.below.mono LB3.out))
 replace HB3 := hideP hx9
 clear hb9 hx9
 replace hK := (KS.set1 (d := 17) (v := goInt n) (by omega) hK (by kernel_rfl)).pick [(1, .pointer (some ⟨B1, 0, none⟩)), (2, .pointer (some ⟨B2, 0, none⟩)), (3, .pointer (some ⟨B3, 0, none⟩))] (by kernel_rfl)
 replace hL : (List.set L 17 (goInt n)).length = _ := (List.length_set ..).trans hL
 generalize List.set L 17 (goInt n) = L1 at hK hL ⊢
 clear L
 revert L1
 intro L hK hL
 refine HK6.out _ _ ?_
 clear HK6 K6
 have up : ∀ V, Up W7 V → Up w V := fun _ h => HB.out.trans (h.mono HB.out.size)
 refine ZaL [.ex (.pointer (some ⟨B3, 12, none⟩)), .ex (.slice (some ⟨B3, 12, none⟩) 6 6), .ex (.pointer (some ⟨B1, 1, none⟩)), .ex (.slice (some ⟨gv, ov, none⟩) 1 cv), .ex (.pointer (some ⟨gv, ov + 0, none⟩)), .ex (v0)] [1, 2, 3, 19, 23] hL hK trivial
   ⟨ok_q hK,
   ok_q hK,
   ok_q hK,
   ZcZ 1 hK (fun V h => HB1.out.moved h),
   ok_q hK,
   Zct hK (fun V h => (HKv0.out.moved (up V h))),
   trivial⟩ ?_
 rintro W8 h  L1 hL1 hK1
 replace HB := hideP (up _ h)
 replace HB1 := hideP (HB1.out.moved h)
 replace HB2 := hideP (HB2.out.moved h)
 replace HB3 := hideP (HB3.out.moved h)
 have hK2 := hK1.to [(1, .pointer (some ⟨B1, 0, none⟩)), (2, .pointer (some ⟨B2, 0, none⟩)), (3, .pointer (some ⟨B3, 0, none⟩)), (19, .slice (some ⟨B3, 12, none⟩) 6 6), (23, v0)] (by kernel_rfl)
 clear up h hK1 hK hL L
 revert L1
 intro L hL hK
 refine ZeV rfl rfl _ _ rfl rfl B3 12 n (limb c) (pn (a) (0) (0) (0) i) 30 (Zaw (hK.get rfl)) (Zaw (hK.get rfl)) (HLv0.out.moved HB.out) (by omega) HB3.out (by rw [Za8]; omega) (fun W9 hb9 hx9 => ?_)
 rw [ZiB hn Hc.out (a) (0) (0) i] at hx9
 replace HB1 := hideP (HB1.out.but hb9 nB3_B1)
 replace HB2 := hideP (HB2.out.but hb9 nB3_B2)
 replace HB := hideP (HB.out.trans (hb9.below.mono LB3.out))
 replace HB3 := hideP hx9
 clear hb9 hx9
 replace hK := (KS.set1 (d := 24) (v := goInt n) (by omega) hK (by kernel_rfl)).pick [(1, .pointer (some ⟨B1, 0, none⟩)), (2, .pointer (some ⟨B2, 0, none⟩)), (3, .pointer (some ⟨B3, 0, none⟩))] (by kernel_rfl)
 replace hL : (List.set L 24 (goInt n)).length = _ := (List.length_set ..).trans hL
 generalize List.set L 24 (goInt n) = L1 at hK hL ⊢
 clear L
 revert L1
 intro L hK hL
 refine HK4.out _ _ ?_
 clear HK4 K4
 refine Zad (fun K7 HK7 => ?_)
 refine Zad (fun K8 HK8 => ?_)
 have up : ∀ V, Up W9 V → Up w V := fun _ h => HB.out.trans (h.mono HB.out.size)
 refine ZaP [.ex (.pointer (some ⟨B1, 0, none⟩)), .ex (.slice (some ⟨gu, ou, none⟩) 1 cu), .ex (.int .i64 1), .ex (.bool false)] [2, 3, 28] hL hK trivial
   ⟨ok_q hK,
   ZcZ 0 hK (fun V h => HB1.out.moved h),
   ok_q hK,
   ok_q hK,
   trivial⟩ ?_
 rintro W10 h  L1 hL1 hK1
 replace HB := hideP (up _ h)
 replace HB1 := hideP (HB1.out.moved h)
 replace HB2 := hideP (HB2.out.moved h)
 replace HB3 := hideP (HB3.out.moved h)
 have hK2 := hK1.to [(2, .pointer (some ⟨B2, 0, none⟩)), (3, .pointer (some ⟨B3, 0, none⟩)), (28, .bool false)] (by kernel_rfl)
 clear up h hK1 hK hL L
 revert L1
 intro L hL hK
 refine HK8.out _ _ ?_
 clear HK8 K8
 refine ZfT hK ?_
 refine wp_skip ?_
 refine HK7.out _ _ ?_
 clear HK7 K7
 refine Zad (fun K9 HK9 => ?_)
 have up : ∀ V, Up W10 V → Up w V := fun _ h => HB.out.trans (h.mono HB.out.size)
 refine ZaL [.ex (.agg (pn (a) (0) (c) (0) i))] [2, 43] hL hK trivial
   ⟨ok_x [.ex (.pointer (some ⟨B3, 0, none⟩))] hK (fun V h => ⟨_, _, ZdY rfl rfl (loadC _ B3 0 30 (pn (a) (0) (c) (0) i) _ (Zah (HB3.out.moved h).heap) ZfC rfl (info30 _ _ _ _ _)), Below.refl _ _, rfl⟩),
   trivial⟩ ?_
 rintro W11 h  L1 hL1 hK1
 replace HB := hideP (up _ h)
 replace HB1 := hideP (HB1.out.moved h)
 replace HB2 := hideP (HB2.out.moved h)
 replace HB3 := hideP (HB3.out.moved h)
 have hK2 := hK1.to [(2, .pointer (some ⟨B2, 0, none⟩)), (43, .agg (pn (a) (0) (c) (0) i))] (by kernel_rfl)
 clear up h hK1 hK hL L
 revert L1
 intro L hL hK
 refine st_pn rfl rfl _ _ rfl rfl B2 (Zaw (hK.get rfl)) (Zaw (hK.get rfl)) HB2.out (fun W12 hb9 hx9 => ?_)
 clear HB1
 replace HB3 := hideP (HB3.out.but hb9 (Ne.symm nB3_B2))
 replace HB := hideP (HB.out.trans (hb9.below.mono LB2.out))
 replace HB2 := hideP hx9
 clear hb9 hx9
 refine HK9.out _ _ ?_
 clear HK9 K9
 refine wp_ret ?_
 exact ZcW 2 30 B2 (pn (a) (0) (c) (0) i) rfl (hK.get rfl) HB2.out ZfC rfl (info30 _ _ _ _ _) ⟨rfl, HB.out⟩
theorem of_2 {n : Nat} (hn : n = 4 ∨ n = 6) (a b c e : Nat) (ha : a < 18446744073709551616 ^ n) (hb : b < 18446744073709551616 ^ n) (hc : c < 18446744073709551616 ^ n) (he : e < 18446744073709551616 ^ n) (i : Bool) (w : World) (p : Value) (hP : PT w p n [a, b] [c, e] i) : Calls Tryz.prog 17 #[p] w fun r w' => r = .returned (.agg (pn a b c e i)) ∧ Below w.heap.size w w' := by
 obtain ⟨xv, yv, rfl, hu, hv⟩ := hP.ex
 clear hP
 obtain ⟨gu, ou, cu, u0, u1, rfl, -, -, ku0, lu0, ku1, lu1⟩ := hu.two
 have HKu0 := hideP ku0
 have HLu0 := hideP lu0
 have HKu1 := hideP ku1
 have HLu1 := hideP lu1
 have Ha := hideP ha
 have Hb := hideP hb
 clear hu ku0 lu0 ku1 lu1 ha hb
 obtain ⟨gv, ov, cv, v0, v1, rfl, -, -, kv0, lv0, kv1, lv1⟩ := hv.two
 have HKv0 := hideP kv0
 have HLv0 := hideP lv0
 have HKv1 := hideP kv1
 have HLv1 := hideP lv1
 have Hc := hideP hc
 have He := hideP he
 clear hv kv0 lv0 kv1 lv1 hc he
 have HB : Hid (Up w w) := Below.refl _ _
 go_enter Tryz.func17, Tryz.ntmps17
 refine Zby 44 [(0, .agg #[.slice (some ⟨gu, ou, none⟩) 2 cu, .slice (some ⟨gv, ov, none⟩) 2 cv, .bool i])] rfl ⟨rfl, trivial⟩ (fun L hL hK => ?_)
 refine Zad (fun K1 HK1 => ?_)
 have up : ∀ V, Up w V → Up w V := fun _ h => HB.out.trans (h.mono HB.out.size)
 refine ZaP [.pr (NB w.heap.size #[.slice (some ⟨gu, ou, none⟩) 2 cu, .slice (some ⟨gv, ov, none⟩) 2 cv, .bool i] 42), .pr (NB w.heap.size (pn (0) (0) (0) (0) false) 30)] [1, 2] hL hK ⟨Zbb _ _ _, Zbb _ _ _, trivial⟩
   ⟨ok_x [.ex (.agg #[.slice (some ⟨gu, ou, none⟩) 2 cu, .slice (some ⟨gv, ov, none⟩) 2 cv, .bool i])] hK (fun V h => ⟨_, _, ZfP rfl rfl, Zay _ _, _, rfl, h.size, ⟨Zaf _ _⟩⟩),
   ok_x [] hK (fun V h => ⟨_, _, ZaY rfl (al30 _), Zay _ _, _, rfl, h.size, ⟨Zaf _ _⟩⟩),
   trivial⟩ ?_
 rintro W1 h _ ⟨B1, rfl, lB1, hB1⟩ _ ⟨B2, rfl, lB2, hB2⟩ L1 hL1 hK1
 have LB1 := hideP (Nat.le_trans HB.out.size lB1)
 clear lB1
 have LB2 := hideP (Nat.le_trans HB.out.size lB2)
 clear lB2
 replace HB := hideP (up _ h)
 have HB1 := hideP hB1
 clear hB1
 have HB2 := hideP hB2
 clear hB2
 have hK2 := hK1.to [(1, .pointer (some ⟨B1, 0, none⟩)), (2, .pointer (some ⟨B2, 0, none⟩))] (by kernel_rfl)
 clear up h hK1 hK hL L
 revert L1
 intro L hL hK
 refine HK1.out _ _ ?_
 clear HK1 K1
 refine Zad (fun K2 HK2 => ?_)
 have up : ∀ V, Up W1 V → Up w V := fun _ h => HB.out.trans (h.mono HB.out.size)
 refine ZaP [.pr (NB W1.heap.size (pn (0) (0) (0) (0) false) 30)] [1, 2, 3] hL hK ⟨Zbb _ _ _, trivial⟩
   ⟨ok_x [] hK (fun V h => ⟨_, _, ZaY rfl (al30 _), Zay _ _, _, rfl, h.size, ⟨Zaf _ _⟩⟩),
   trivial⟩ ?_
 rintro W2 h _ ⟨B3, rfl, lB3, hB3⟩ L1 hL1 hK1
 have LB3 := hideP (Nat.le_trans HB.out.size lB3)
 have nB3_B1 : B1 ≠ B3 := by have := HB1.out.lt; omega
 have nB3_B2 : B2 ≠ B3 := by have := HB2.out.lt; omega
 clear lB3
 replace HB := hideP (up _ h)
 replace HB1 := hideP (HB1.out.moved h)
 replace HB2 := hideP (HB2.out.moved h)
 have HB3 := hideP hB3
 clear hB3
 have hK2 := hK1.to [(1, .pointer (some ⟨B1, 0, none⟩)), (2, .pointer (some ⟨B2, 0, none⟩)), (3, .pointer (some ⟨B3, 0, none⟩))] (by kernel_rfl)
 clear up h hK1 hK hL L
 revert L1
 intro L hL hK
 refine HK2.out _ _ ?_
 clear HK2 K2
 refine Zad (fun K3 HK3 => ?_)
 have up : ∀ V, Up W2 V → Up w V := fun _ h => HB.out.trans (h.mono HB.out.size)
 refine ZaL [.ex (.pointer (some ⟨B1, 2, none⟩)), .ex (.bool i), .ex (.pointer (some ⟨B3, 24, none⟩))] [1, 2, 3, 5, 6] hL hK trivial
   ⟨ok_q hK,
   ZcZ 2 hK (fun V h => HB1.out.moved h),
   ok_q hK,
   trivial⟩ ?_
 rintro W3 h  L1 hL1 hK1
 replace HB := hideP (up _ h)
 replace HB1 := hideP (HB1.out.moved h)
 replace HB2 := hideP (HB2.out.moved h)
 replace HB3 := hideP (HB3.out.moved h)
 have hK2 := hK1.to [(1, .pointer (some ⟨B1, 0, none⟩)), (2, .pointer (some ⟨B2, 0, none⟩)), (3, .pointer (some ⟨B3, 0, none⟩)), (5, .bool i), (6, .pointer (some ⟨B3, 24, none⟩))] (by kernel_rfl)
 clear up h hK1 hK hL L
 revert L1
 intro L hL hK
 refine ZbR rfl rfl 4 _ _ rfl rfl B3 24 (pn (0) (0) (0) (0) false) [.bool i] 30 (Zaw (hK.get rfl)) (Zaw (hK.get rfl)) rfl HB3.out (by rw [Za8]; exact Nat.le_refl _) (by kernel_rfl) ⟨rfl, trivial⟩ (fun W4 hb9 hx9 => ?_)
 rw [ZiC] at hx9
 replace HB1 := hideP (HB1.out.but hb9 nB3_B1)
 replace HB2 := hideP (HB2.out.but hb9 nB3_B2)
 replace HB := hideP (HB.out.trans (hb9.below.mono LB3.out))
 replace HB3 := hideP hx9
 clear hb9 hx9
 refine HK3.out _ _ ?_
 clear HK3 K3
 refine Zad (fun K4 HK4 => ?_)
 refine Zad (fun K5 HK5 => ?_)
 have up : ∀ V, Up W4 V → Up w V := fun _ h => HB.out.trans (h.mono HB.out.size)
 refine ZaP [.ex (.pointer (some ⟨B1, 0, none⟩)), .ex (.slice (some ⟨gu, ou, none⟩) 2 cu), .ex (.int .i64 2), .ex (.bool true)] [1, 2, 3, 10] hL hK trivial
   ⟨ok_q hK,
   ZcZ 0 hK (fun V h => HB1.out.moved h),
   ok_q hK,
   ok_q hK,
   trivial⟩ ?_
 rintro W5 h  L1 hL1 hK1
 replace HB := hideP (up _ h)
 replace HB1 := hideP (HB1.out.moved h)
 replace HB2 := hideP (HB2.out.moved h)
 replace HB3 := hideP (HB3.out.moved h)
 have hK2 := hK1.to [(1, .pointer (some ⟨B1, 0, none⟩)), (2, .pointer (some ⟨B2, 0, none⟩)), (3, .pointer (some ⟨B3, 0, none⟩)), (10, .bool true)] (by kernel_rfl)
 clear up h hK1 hK hL L
 revert L1
 intro L hL hK
 refine HK5.out _ _ ?_
 clear HK5 K5
 refine ZgU hK ?_
 refine Zad (fun K6 HK6 => ?_)
 have up : ∀ V, Up W5 V → Up w V := fun _ h => HB.out.trans (h.mono HB.out.size)
 refine ZaL [.ex (.pointer (some ⟨B3, 0, none⟩)), .ex (.slice (some ⟨B3, 0, none⟩) 6 6), .ex (.pointer (some ⟨B1, 0, none⟩)), .ex (.slice (some ⟨gu, ou, none⟩) 2 cu), .ex (.pointer (some ⟨gu, ou + 0, none⟩)), .ex (u0)] [1, 2, 3, 12, 16] hL hK trivial
   ⟨ok_q hK,
   ok_q hK,
   ok_q hK,
   ZcZ 0 hK (fun V h => HB1.out.moved h),
   ok_q hK,
   Zct hK (fun V h => (HKu0.out.moved (up V h))),
   trivial⟩ ?_
 rintro W6 h  L1 hL1 hK1
 replace HB := hideP (up _ h)
 replace HB1 := hideP (HB1.out.moved h)
 replace HB2 := hideP (HB2.out.moved h)
 replace HB3 := hideP (HB3.out.moved h)
 have hK2 := hK1.to [(1, .pointer (some ⟨B1, 0, none⟩)), (2, .pointer (some ⟨B2, 0, none⟩)), (3, .pointer (some ⟨B3, 0, none⟩)), (12, .slice (some ⟨B3, 0, none⟩) 6 6), (16, u0)] (by kernel_rfl)
 clear up h hK1 hK hL L
 revert L1
 intro L hL hK
 refine ZeV rfl rfl _ _ rfl rfl B3 0 n (limb a) (pn (0) (0) (0) (0) i) 30 (Zaw (hK.get rfl)) (Zaw (hK.get rfl)) (HLu0.out.moved HB.out) (by omega) HB3.out (by rw [Za8]; omega) (fun W7 hb9 hx9 => ?_)
 rw [ZiA hn Ha.out (0) (0) (0) i] at hx9
 replace HB1 := hideP (HB1.out.but hb9 nB3_B1)
 replace HB2 := hideP (HB2.out.but hb9 nB3_B2)
 replace HB := hideP (HB.out.trans (hb9.below.mono LB3.out))
 replace HB3 := hideP hx9
 clear hb9 hx9
 replace hK := (KS.set1 (d := 17) (v := goInt n) (by omega) hK (by kernel_rfl)).pick [(1, .pointer (some ⟨B1, 0, none⟩)), (2, .pointer (some ⟨B2, 0, none⟩)), (3, .pointer (some ⟨B3, 0, none⟩))] (by kernel_rfl)
 replace hL : (List.set L 17 (goInt n)).length = _ := (List.length_set ..).trans hL
 generalize List.set L 17 (goInt n) = L1 at hK hL ⊢
 clear L
 revert L1
 intro L hK hL
 refine HK6.out _ _ ?_
 clear HK6 K6
 have up : ∀ V, Up W7 V → Up w V := fun _ h => HB.out.trans (h.mono HB.out.size)
 refine ZaL [.ex (.pointer (some ⟨B3, 12, none⟩)), .ex (.slice (some ⟨B3, 12, none⟩) 6 6), .ex (.pointer (some ⟨B1, 1, none⟩)), .ex (.slice (some ⟨gv, ov, none⟩) 2 cv), .ex (.pointer (some ⟨gv, ov + 0, none⟩)), .ex (v0)] [1, 2, 3, 19, 23] hL hK trivial
   ⟨ok_q hK,
   ok_q hK,
   ok_q hK,
   ZcZ 1 hK (fun V h => HB1.out.moved h),
   ok_q hK,
   Zct hK (fun V h => (HKv0.out.moved (up V h))),
   trivial⟩ ?_
 rintro W8 h  L1 hL1 hK1
 replace HB := hideP (up _ h)
 replace HB1 := hideP (HB1.out.moved h)
 replace HB2 := hideP (HB2.out.moved h)
 replace HB3 := hideP (HB3.out.moved h)
 have hK2 := hK1.to [(1, .pointer (some ⟨B1, 0, none⟩)), (2, .pointer (some ⟨B2, 0, none⟩)), (3, .pointer (some ⟨B3, 0, none⟩)), (19, .slice (some ⟨B3, 12, none⟩) 6 6), (23, v0)] (by kernel_rfl)
 clear up h hK1 hK hL L
 revert L1
 intro L hL hK
 refine ZeV rfl rfl _ _ rfl rfl B3 12 n (limb c) (pn (a) (0) (0) (0) i) 30 (Zaw (hK.get rfl)) (Zaw (hK.get rfl)) (HLv0.out.moved HB.out) (by omega) HB3.out (by rw [Za8]; omega) (fun W9 hb9 hx9 => ?_)
 rw [ZiB hn Hc.out (a) (0) (0) i] at hx9
 replace HB1 := hideP (HB1.out.but hb9 nB3_B1)
 replace HB2 := hideP (HB2.out.but hb9 nB3_B2)
 replace HB := hideP (HB.out.trans (hb9.below.mono LB3.out))
 replace HB3 := hideP hx9
 clear hb9 hx9
 replace hK := (KS.set1 (d := 24) (v := goInt n) (by omega) hK (by kernel_rfl)).pick [(1, .pointer (some ⟨B1, 0, none⟩)), (2, .pointer (some ⟨B2, 0, none⟩)), (3, .pointer (some ⟨B3, 0, none⟩))] (by kernel_rfl)
 replace hL : (List.set L 24 (goInt n)).length = _ := (List.length_set ..).trans hL
 generalize List.set L 24 (goInt n) = L1 at hK hL ⊢
 clear L
 revert L1
 intro L hK hL
 refine HK4.out _ _ ?_
 clear HK4 K4
 refine Zad (fun K7 HK7 => ?_)
 refine Zad (fun K8 HK8 => ?_)
 have up : ∀ V, Up W9 V → Up w V := fun _ h => HB.out.trans (h.mono HB.out.size)
 refine ZaP [.ex (.pointer (some ⟨B1, 0, none⟩)), .ex (.slice (some ⟨gu, ou, none⟩) 2 cu), .ex (.int .i64 2), .ex (.bool true)] [1, 2, 3, 28] hL hK trivial
   ⟨ok_q hK,
   ZcZ 0 hK (fun V h => HB1.out.moved h),
   ok_q hK,
   ok_q hK,
   trivial⟩ ?_
 rintro W10 h  L1 hL1 hK1
 replace HB := hideP (up _ h)
 replace HB1 := hideP (HB1.out.moved h)
 replace HB2 := hideP (HB2.out.moved h)
 replace HB3 := hideP (HB3.out.moved h)
 have hK2 := hK1.to [(1, .pointer (some ⟨B1, 0, none⟩)), (2, .pointer (some ⟨B2, 0, none⟩)), (3, .pointer (some ⟨B3, 0, none⟩)), (28, .bool true)] (by kernel_rfl)
 clear up h hK1 hK hL L
 revert L1
 intro L hL hK
 refine HK8.out _ _ ?_
 clear HK8 K8
 refine ZgU hK ?_
 refine Zad (fun K9 HK9 => ?_)
 have up : ∀ V, Up W10 V → Up w V := fun _ h => HB.out.trans (h.mono HB.out.size)
 refine ZaL [.ex (.pointer (some ⟨B3, 6, none⟩)), .ex (.slice (some ⟨B3, 6, none⟩) 6 6), .ex (.pointer (some ⟨B1, 0, none⟩)), .ex (.slice (some ⟨gu, ou, none⟩) 2 cu), .ex (.pointer (some ⟨gu, ou + 1, none⟩)), .ex (u1)] [1, 2, 3, 30, 34] hL hK trivial
   ⟨ok_q hK,
   ok_q hK,
   ok_q hK,
   ZcZ 0 hK (fun V h => HB1.out.moved h),
   ok_q hK,
   Zct hK (fun V h => (HKu1.out.moved (up V h))),
   trivial⟩ ?_
 rintro W11 h  L1 hL1 hK1
 replace HB := hideP (up _ h)
 replace HB1 := hideP (HB1.out.moved h)
 replace HB2 := hideP (HB2.out.moved h)
 replace HB3 := hideP (HB3.out.moved h)
 have hK2 := hK1.to [(1, .pointer (some ⟨B1, 0, none⟩)), (2, .pointer (some ⟨B2, 0, none⟩)), (3, .pointer (some ⟨B3, 0, none⟩)), (30, .slice (some ⟨B3, 6, none⟩) 6 6), (34, u1)] (by kernel_rfl)
 clear up h hK1 hK hL L
 revert L1
 intro L hL hK
 refine ZeV rfl rfl _ _ rfl rfl B3 6 n (limb b) (pn (a) (0) (c) (0) i) 30 (Zaw (hK.get rfl)) (Zaw (hK.get rfl)) (HLu1.out.moved HB.out) (by omega) HB3.out (by rw [Za8]; omega) (fun W12 hb9 hx9 => ?_)
 rw [Zky hn Hb.out (a) (c) (0) i] at hx9
 replace HB1 := hideP (HB1.out.but hb9 nB3_B1)
 replace HB2 := hideP (HB2.out.but hb9 nB3_B2)
 replace HB := hideP (HB.out.trans (hb9.below.mono LB3.out))
 replace HB3 := hideP hx9
 clear hb9 hx9
 replace hK := (KS.set1 (d := 35) (v := goInt n) (by omega) hK (by kernel_rfl)).pick [(1, .pointer (some ⟨B1, 0, none⟩)), (2, .pointer (some ⟨B2, 0, none⟩)), (3, .pointer (some ⟨B3, 0, none⟩))] (by kernel_rfl)
 replace hL : (List.set L 35 (goInt n)).length = _ := (List.length_set ..).trans hL
 generalize List.set L 35 (goInt n) = L1 at hK hL ⊢
 clear L
 revert L1
 intro L hK hL
 refine HK9.out _ _ ?_
 clear HK9 K9
 have up : ∀ V, Up W12 V → Up w V := fun _ h => HB.out.trans (h.mono HB.out.size)
 refine ZaL [.ex (.pointer (some ⟨B3, 18, none⟩)), .ex (.slice (some ⟨B3, 18, none⟩) 6 6), .ex (.pointer (some ⟨B1, 1, none⟩)), .ex (.slice (some ⟨gv, ov, none⟩) 2 cv), .ex (.pointer (some ⟨gv, ov + 1, none⟩)), .ex (v1)] [2, 3, 37, 41] hL hK trivial
   ⟨ok_q hK,
   ok_q hK,
   ok_q hK,
   ZcZ 1 hK (fun V h => HB1.out.moved h),
   ok_q hK,
   Zct hK (fun V h => (HKv1.out.moved (up V h))),
   trivial⟩ ?_
 rintro W13 h  L1 hL1 hK1
 replace HB := hideP (up _ h)
 replace HB1 := hideP (HB1.out.moved h)
 replace HB2 := hideP (HB2.out.moved h)
 replace HB3 := hideP (HB3.out.moved h)
 have hK2 := hK1.to [(2, .pointer (some ⟨B2, 0, none⟩)), (3, .pointer (some ⟨B3, 0, none⟩)), (37, .slice (some ⟨B3, 18, none⟩) 6 6), (41, v1)] (by kernel_rfl)
 clear up h hK1 hK hL L
 revert L1
 intro L hL hK
 refine ZeV rfl rfl _ _ rfl rfl B3 18 n (limb e) (pn (a) (b) (c) (0) i) 30 (Zaw (hK.get rfl)) (Zaw (hK.get rfl)) (HLv1.out.moved HB.out) (by omega) HB3.out (by rw [Za8]; omega) (fun W14 hb9 hx9 => ?_)
 rw [Zkz hn He.out (a) (b) (c) i] at hx9
 replace HB1 := hideP (HB1.out.but hb9 nB3_B1)
 replace HB2 := hideP (HB2.out.but hb9 nB3_B2)
 replace HB := hideP (HB.out.trans (hb9.below.mono LB3.out))
 replace HB3 := hideP hx9
 clear hb9 hx9
 replace hK := (KS.set1 (d := 42) (v := goInt n) (by omega) hK (by kernel_rfl)).pick [(2, .pointer (some ⟨B2, 0, none⟩)), (3, .pointer (some ⟨B3, 0, none⟩))] (by kernel_rfl)
 replace hL : (List.set L 42 (goInt n)).length = _ := (List.length_set ..).trans hL
 generalize List.set L 42 (goInt n) = L1 at hK hL ⊢
 clear L
 revert L1
 intro L hK hL
 refine HK7.out _ _ ?_
 clear HK7 K7
 refine Zad (fun K10 HK10 => ?_)
 have up : ∀ V, Up W14 V → Up w V := fun _ h => HB.out.trans (h.mono HB.out.size)
 refine ZaL [.ex (.agg (pn (a) (b) (c) (e) i))] [2, 43] hL hK trivial
   ⟨ok_x [.ex (.pointer (some ⟨B3, 0, none⟩))] hK (fun V h => ⟨_, _, ZdY rfl rfl (loadC _ B3 0 30 (pn (a) (b) (c) (e) i) _ (Zah (HB3.out.moved h).heap) ZfC rfl (info30 _ _ _ _ _)), Below.refl _ _, rfl⟩),
   trivial⟩ ?_
 rintro W15 h  L1 hL1 hK1
 replace HB := hideP (up _ h)
 replace HB1 := hideP (HB1.out.moved h)
 replace HB2 := hideP (HB2.out.moved h)
 replace HB3 := hideP (HB3.out.moved h)
 have hK2 := hK1.to [(2, .pointer (some ⟨B2, 0, none⟩)), (43, .agg (pn (a) (b) (c) (e) i))] (by kernel_rfl)
 clear up h hK1 hK hL L
 revert L1
 intro L hL hK
 refine st_pn rfl rfl _ _ rfl rfl B2 (Zaw (hK.get rfl)) (Zaw (hK.get rfl)) HB2.out (fun W16 hb9 hx9 => ?_)
 clear HB1
 replace HB3 := hideP (HB3.out.but hb9 (Ne.symm nB3_B2))
 replace HB := hideP (HB.out.trans (hb9.below.mono LB2.out))
 replace HB2 := hideP hx9
 clear hb9 hx9
 refine HK10.out _ _ ?_
 clear HK10 K10
 refine wp_ret ?_
 exact ZcW 2 30 B2 (pn (a) (b) (c) (e) i) rfl (hK.get rfl) HB2.out ZfC rfl (info30 _ _ _ _ _) ⟨rfl, HB.out⟩
end Go.Proofs.YtcbdbnfgnonacaaGreat
