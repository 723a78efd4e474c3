/-
  The document's curves over prime fields.
-/
import Derived.Test.YtcbdbnfgnonacaaGreatCurveBasesC10
set_option maxHeartbeats 4000000
set_option maxRecDepth 100000
namespace Go.Proofs.YtcbdbnfgnonacaaGreat
open Go.RowKit Go.Shelf
theorem Zjz (w : World) : Calls Tryz.prog 18 #[] w fun r w' => (∃ v', r = .returned v' ∧ CC w' v' 4 nBnP 1 ([3]) nBnR ([1]) ([2])) ∧ Below w.heap.size w w' := by
 have HB : Hid (Up w w) := Below.refl _ _
 go_enter Tryz.func18, Tryz.ntmps18
 refine Zby 19 [] rfl trivial (fun L hL hK => ?_)
 refine Zad (fun K1 HK1 => ?_)
 have up : ∀ V, Up w V → Up w V := fun _ h => HB.out.trans (h.mono HB.out.size)
 refine ZaP [.pr (NB w.heap.size #[.slice none 0 0, .int .u64 0, .slice none 0 0, .int .i64 0, .slice none 0 0, .slice none 0 0, .slice none 0 0, .slice none 0 0, .bool false] 44)] [0] hL hK ⟨Zbb _ _ _, trivial⟩
   ⟨ok_x [] hK (fun V h => ⟨_, _, ZaY rfl (al44 _), Zay _ _, _, rfl, h.size, ⟨Zaf _ _⟩⟩),
   trivial⟩ ?_
 rintro W1 h _ ⟨B1, rfl, lB1, hB1⟩ L1 hL1 hK1
 have LB1 := hideP (Nat.le_trans HB.out.size lB1)
 clear lB1
 replace HB := hideP (up _ h)
 have HB1 := hideP hB1
 clear hB1
 have hK2 := hK1.to [(0, .pointer (some ⟨B1, 0, none⟩))] (by kernel_rfl)
 clear up h hK1 hK hL L
 revert L1
 intro L hL hK
 refine HK1.out _ _ ?_
 clear HK1 K1
 refine Zad (fun K2 HK2 => ?_)
 have up : ∀ V, Up W1 V → Up w V := fun _ h => HB.out.trans (h.mono HB.out.size)
 refine ZaL [.pr (fun zv zw => LW zw zv (4) (limb nBnP)), .pr (fun zv zw => FG zw zv (4) (nBnP)), .pr (NB W1.heap.size #[.slice none 0 0, .int .u64 0, .slice none 0 0] 39)] [0, 1, 4] hL hK ⟨Za2 _ _, Zfl _ _, Zbb _ _ _, trivial⟩
   ⟨ok_c [] (en Tryz.func87) hK (fun V h => ZjB _),
   ok_c [.pr (fun zv zw => LW zw zv (4) (limb nBnP))] (en Tryz.func86) hK (fun V h u1 q1 => Zhc (by decide) hFM4 _ _ q1),
   ok_x [] hK (fun V h => ⟨_, _, ZaY rfl (al39 _), Zay _ _, _, rfl, h.size, ⟨Zaf _ _⟩⟩),
   trivial⟩ ?_
 rintro W2 h v2 pv2 _ ⟨⟨mz3, fz3, tz3, rfl, hFz3, hMz3, h1z3⟩⟩ _ ⟨B4, rfl, lB4, hB4⟩ L1 hL1 hK1
 have LB4 := hideP (Nat.le_trans HB.out.size lB4)
 have nB4_B1 : B1 ≠ B4 := by have := HB1.out.lt; omega
 clear lB4
 replace HB := hideP (up _ h)
 replace HB1 := hideP (HB1.out.moved h)
 have Fv2 := hideP pv2
 clear pv2
 have HFFz3 : Hid (FF W2 (.agg #[mz3, .int .u64 (fz3 : Int), tz3]) (4) (nBnP)) := hFz3
 clear hFz3
 have HMVz3 : Hid (LW W2 mz3 (4) (limb (nBnP))) := hMz3
 clear hMz3
 have HOz3 : Hid (Value.oneCell' tz3 = true) := h1z3
 clear h1z3
 have HB4 := hideP hB4
 clear hB4
 have hK2 := hK1.to [(0, .pointer (some ⟨B1, 0, none⟩)), (1, .pointer (some ⟨B4, 0, none⟩)), (4, .agg #[mz3, .int .u64 (fz3 : Int), tz3])] (by kernel_rfl)
 clear up h hK1 hK hL L
 revert L1
 intro L hL hK
 refine ZbR rfl rfl 39 _ _ rfl rfl B4 0 #[.slice none 0 0, .int .u64 0, .slice none 0 0] [mz3, .int .u64 (fz3 : Int), tz3] 39 (Zaw (hK.get rfl)) (Zaw (hK.get rfl)) (rfl) HB4.out (Nat.le_of_ble_eq_true rfl) info39 ⟨HMVz3.out.oneC, rfl, HOz3.out, trivial⟩ (fun W3 hb9 hx9 => ?_)
 have hs9 := Zbp HB4.out (by kernel_rfl) hb9 hx9
 replace Fv2 := hideP (Fv2.out.safe (by decide) hs9)
 replace HFFz3 := hideP (HFFz3.out.safe (by decide) hs9)
 replace HMVz3 := hideP (HMVz3.out.safe (by decide) hs9)
 replace HB1 := hideP (HB1.out.but hb9 nB4_B1)
 replace HB := hideP (HB.out.trans (hb9.below.mono LB4.out))
 rw [show putAll _ _ _ = #[mz3, .int .u64 (fz3 : Int), tz3] by kernel_rfl] at hx9
 replace HB4 := hideP hx9
 clear hs9 hb9 hx9
 refine HK2.out _ _ ?_
 clear HK2 K2
 refine Zad (fun K3 HK3 => ?_)
 have up : ∀ V, Up W3 V → Up w V := fun _ h => HB.out.trans (h.mono HB.out.size)
 refine ZaL [.ex (.agg #[mz3, .int .u64 (fz3 : Int), tz3]), .pr (fun zv zw => LW zw zv (4) (limb 1)), .pr (fun zv zw => LL zw zv (4) ([1])), .ex (.agg #[mz3, .int .u64 (fz3 : Int), tz3]), .pr (fun zv zw => LW zw zv (4) (limb 2)), .pr (fun zv zw => LL zw zv (4) ([2])), .pr (fun zv zw => PT zw zv (4) ([1]) ([2]) false), .pr (NB W3.heap.size #[.slice none 0 0, .slice none 0 0, .bool false] 42)] [0, 1, 2, 11] hL hK ⟨Za2 _ _, Zbd _ _, Za2 _ _, Zbd _ _, ZcH _ _ _ _, Zbb _ _ _, trivial⟩
   ⟨ZaZ 0 hK (fun V h => HB4.out.moved h) ZaU info39,
   ok_c [.ex (.agg #[mz3, .int .u64 (fz3 : Int), tz3]), .ex (.int .u64 1)] (en Tryz.func88) hK (fun V h => ZbA hFM4 1 (by decide) _ _ (HFFz3.out.moved h)),
   ok_x [.pr (fun zv zw => LW zw zv (4) (limb 1))] hK (fun V h u1 q1 => ⟨_, _, Zdg (vs := #[(0, u1)]) rfl (by kernel_rfl) (bs1 _ (LW.isSlice q1)), Zay _ _, LL.mk1 q1⟩),
   ZaZ 0 hK (fun V h => HB4.out.moved h) ZaU info39,
   ok_c [.ex (.agg #[mz3, .int .u64 (fz3 : Int), tz3]), .ex (.int .u64 2)] (en Tryz.func88) hK (fun V h => ZbA hFM4 2 (by decide) _ _ (HFFz3.out.moved h)),
   ok_x [.pr (fun zv zw => LW zw zv (4) (limb 2))] hK (fun V h u1 q1 => ⟨_, _, Zdg (vs := #[(0, u1)]) rfl (by kernel_rfl) (bs1 _ (LW.isSlice q1)), Zay _ _, LL.mk1 q1⟩),
   ok_x [.pr (fun zv zw => LL zw zv (4) ([1])), .pr (fun zv zw => LL zw zv (4) ([2]))] hK (fun V h u1 q1 u2 q2 => ⟨_, _, ZbT (vs := #[(0, u1), (1, u2)]) rfl (by kernel_rfl) (Zha (LL.isSlice q1) (LL.isSlice q2) _), Below.refl _ _, ⟨_, _, rfl, q1, q2⟩⟩),
   ok_x [] hK (fun V h => ⟨_, _, ZaY rfl (al42 _), Zay _ _, _, rfl, h.size, ⟨Zaf _ _⟩⟩),
   trivial⟩ ?_
 rintro W4 h v5 pv5 v6 pv6 v7 pv7 v8 pv8 _ ⟨⟨xz9, yz9, rfl, hxz9, hyz9⟩⟩ _ ⟨B10, rfl, lB10, hB10⟩ L1 hL1 hK1
 have LB10 := hideP (Nat.le_trans HB.out.size lB10)
 have nB10_B1 : B1 ≠ B10 := by have := HB1.out.lt; omega
 have nB10_B4 : B4 ≠ B10 := by have := HB4.out.lt; omega
 clear lB10
 replace HB := hideP (up _ h)
 replace Fv2 := hideP (Fv2.out.moved h)
 replace HFFz3 := hideP (HFFz3.out.moved h)
 replace HMVz3 := hideP (HMVz3.out.moved h)
 replace HB1 := hideP (HB1.out.moved h)
 replace HB4 := hideP (HB4.out.moved h)
 have Fv5 := hideP pv5
 clear pv5
 have Fv6 := hideP pv6
 clear pv6
 have Fv7 := hideP pv7
 clear pv7
 have Fv8 := hideP pv8
 clear pv8
 have HXz9 : Hid (LL W4 xz9 (4) ([1])) := hxz9
 clear hxz9
 have HYz9 : Hid (LL W4 yz9 (4) ([2])) := hyz9
 clear hyz9
 have HB10 := hideP hB10
 clear hB10
 have hK2 := hK1.to [(0, .pointer (some ⟨B1, 0, none⟩)), (1, .pointer (some ⟨B4, 0, none⟩)), (2, .pointer (some ⟨B10, 0, none⟩)), (11, .agg #[xz9, yz9, .bool false])] (by kernel_rfl)
 clear up h hK1 hK hL L
 revert L1
 intro L hL hK
 refine ZbR rfl rfl 42 _ _ rfl rfl B10 0 #[.slice none 0 0, .slice none 0 0, .bool false] [xz9, yz9, .bool false] 42 (Zaw (hK.get rfl)) (Zaw (hK.get rfl)) (rfl) HB10.out (Nat.le_of_ble_eq_true rfl) info42 ⟨HXz9.out.oneC, HYz9.out.oneC, rfl, trivial⟩ (fun W5 hb9 hx9 => ?_)
 have hs9 := Zbp HB10.out (by kernel_rfl) hb9 hx9
 replace Fv2 := hideP (Fv2.out.safe (by decide) hs9)
 replace HFFz3 := hideP (HFFz3.out.safe (by decide) hs9)
 replace HMVz3 := hideP (HMVz3.out.safe (by decide) hs9)
 replace Fv5 := hideP (Fv5.out.safe (by decide) hs9)
 replace Fv6 := hideP (Fv6.out.safe (by decide) hs9)
 replace Fv7 := hideP (Fv7.out.safe (by decide) hs9)
 replace Fv8 := hideP (Fv8.out.safe (by decide) hs9)
 replace HXz9 := hideP (HXz9.out.safe (by decide) hs9)
 replace HYz9 := hideP (HYz9.out.safe (by decide) hs9)
 replace HB1 := hideP (HB1.out.but hb9 nB10_B1)
 replace HB4 := hideP (HB4.out.but hb9 nB10_B4)
 replace HB := hideP (HB.out.trans (hb9.below.mono LB10.out))
 rw [show putAll _ _ _ = #[xz9, yz9, .bool false] by kernel_rfl] at hx9
 replace HB10 := hideP hx9
 clear hs9 hb9 hx9
 refine HK3.out _ _ ?_
 clear HK3 K3
 refine Zad (fun K4 HK4 => ?_)
 have up : ∀ V, Up W5 V → Up w V := fun _ h => HB.out.trans (h.mono HB.out.size)
 refine ZaL [.ex (.agg #[mz3, .int .u64 (fz3 : Int), tz3]), .ex (.agg #[mz3, .int .u64 (fz3 : Int), tz3]), .pr (fun zv zw => LW zw zv (4) (limb 3)), .pr (fun zv zw => LL zw zv (4) ([3])), .pr (fun zv zw => LW zw zv (4) (limb nBnR)), .ex (.agg #[xz9, yz9, .bool false]), .pr (fun zv zw => CC zw zv (4) (nBnP) 1 ([3]) (nBnR) ([1]) ([2]))] [0, 18] hL hK ⟨Za2 _ _, Zbd _ _, Za2 _ _, Zdj _ _ _ _ _ _ _, trivial⟩
   ⟨ZaZ 0 hK (fun V h => HB4.out.moved h) ZaU info39,
   ZaZ 0 hK (fun V h => HB4.out.moved h) ZaU info39,
   ok_c [.ex (.agg #[mz3, .int .u64 (fz3 : Int), tz3]), .ex (.int .u64 3)] (en Tryz.func88) hK (fun V h => ZbA hFM4 3 (by decide) _ _ (HFFz3.out.moved h)),
   ok_x [.pr (fun zv zw => LW zw zv (4) (limb 3))] hK (fun V h u1 q1 => ⟨_, _, Zdg (vs := #[(0, u1)]) rfl (by kernel_rfl) (bs1 _ (LW.isSlice q1)), Zay _ _, LL.mk1 q1⟩),
   ok_c [] (en Tryz.func69) hK (fun V h => ZjC _),
   ZaZ 0 hK (fun V h => HB10.out.moved h) Zgn info42,
   ok_x [.ex (.agg #[mz3, .int .u64 (fz3 : Int), tz3]), .ex (.int .i64 1), .pr (fun zv zw => LL zw zv (4) ([3])), .pr (fun zv zw => LW zw zv (4) (limb nBnR)), .ex (.agg #[xz9, yz9, .bool false])] hK (fun V h u1 q1 u2 q2 => ⟨_, _, ZbT (vs := #[(0, .agg #[mz3, .int .u64 (fz3 : Int), tz3]), (1, .int .i64 1), (2, u1), (3, u2), (4, .agg #[xz9, yz9, .bool false])]) rfl (by kernel_rfl) (Zkh 1 (LL.isSlice q1) (LW.isSlice q2) _), Below.refl _ _, ⟨_, _, _, _, _, _, _, rfl, (HFFz3.out.moved h), (HMVz3.out.moved h), q1, q2, (HXz9.out.moved h), (HYz9.out.moved h)⟩⟩),
   trivial⟩ ?_
 rintro W6 h v11 pv11 v12 pv12 v13 pv13 _ ⟨⟨mz14, fz14, tz14, bz14, rz14, xz14, yz14, rfl, hFz14, hMz14, hBz14, hRz14, hXz14, hYz14⟩⟩ L1 hL1 hK1
 replace HB := hideP (up _ h)
 replace Fv2 := hideP (Fv2.out.moved h)
 replace HFFz3 := hideP (HFFz3.out.moved h)
 replace HMVz3 := hideP (HMVz3.out.moved h)
 replace Fv5 := hideP (Fv5.out.moved h)
 replace Fv6 := hideP (Fv6.out.moved h)
 replace Fv7 := hideP (Fv7.out.moved h)
 replace Fv8 := hideP (Fv8.out.moved h)
 replace HXz9 := hideP (HXz9.out.moved h)
 replace HYz9 := hideP (HYz9.out.moved h)
 replace HB1 := hideP (HB1.out.moved h)
 replace HB4 := hideP (HB4.out.moved h)
 replace HB10 := hideP (HB10.out.moved h)
 have Fv11 := hideP pv11
 clear pv11
 have Fv12 := hideP pv12
 clear pv12
 have Fv13 := hideP pv13
 clear pv13
 have HFFz14 : Hid (FF W6 (.agg #[mz14, .int .u64 (fz14 : Int), tz14]) (4) (nBnP)) := hFz14
 clear hFz14
 have HMVz14 : Hid (LW W6 mz14 (4) (limb (nBnP))) := hMz14
 clear hMz14
 have HBz14 : Hid (LL W6 bz14 (4) ([3])) := hBz14
 clear hBz14
 have HRz14 : Hid (LW W6 rz14 (4) (limb (nBnR))) := hRz14
 clear hRz14
 have HXz14 : Hid (LL W6 xz14 (4) ([1])) := hXz14
 clear hXz14
 have HYz14 : Hid (LL W6 yz14 (4) ([2])) := hYz14
 clear hYz14
 have hK2 := hK1.to [(0, .pointer (some ⟨B1, 0, none⟩)), (18, .agg #[mz14, .int .u64 (fz14 : Int), tz14, .int .i64 1, bz14, rz14, xz14, yz14, .bool false])] (by kernel_rfl)
 clear up h hK1 hK hL L
 revert L1
 intro L hL hK
 refine ZbR rfl rfl 44 _ _ rfl rfl B1 0 #[.slice none 0 0, .int .u64 0, .slice none 0 0, .int .i64 0, .slice none 0 0, .slice none 0 0, .slice none 0 0, .slice none 0 0, .bool false] [mz14, .int .u64 (fz14 : Int), tz14, .int .i64 1, bz14, rz14, xz14, yz14, .bool false] 44 (Zaw (hK.get rfl)) (Zaw (hK.get rfl)) (rfl) HB1.out (Nat.le_of_ble_eq_true rfl) info44 ⟨HMVz14.out.oneC, rfl, (FF.oneT HFFz14.out), rfl, HBz14.out.oneC, HRz14.out.oneC, HXz14.out.oneC, HYz14.out.oneC, rfl, trivial⟩ (fun W7 hb9 hx9 => ?_)
 have hs9 := Zbp HB1.out (by kernel_rfl) hb9 hx9
 replace Fv2 := hideP (Fv2.out.safe (by decide) hs9)
 replace HFFz3 := hideP (HFFz3.out.safe (by decide) hs9)
 replace HMVz3 := hideP (HMVz3.out.safe (by decide) hs9)
 replace Fv5 := hideP (Fv5.out.safe (by decide) hs9)
 replace Fv6 := hideP (Fv6.out.safe (by decide) hs9)
 replace Fv7 := hideP (Fv7.out.safe (by decide) hs9)
 replace Fv8 := hideP (Fv8.out.safe (by decide) hs9)
 replace HXz9 := hideP (HXz9.out.safe (by decide) hs9)
 replace HYz9 := hideP (HYz9.out.safe (by decide) hs9)
 replace Fv11 := hideP (Fv11.out.safe (by decide) hs9)
 replace Fv12 := hideP (Fv12.out.safe (by decide) hs9)
 replace Fv13 := hideP (Fv13.out.safe (by decide) hs9)
 replace HFFz14 := hideP (HFFz14.out.safe (by decide) hs9)
 replace HMVz14 := hideP (HMVz14.out.safe (by decide) hs9)
 replace HBz14 := hideP (HBz14.out.safe (by decide) hs9)
 replace HRz14 := hideP (HRz14.out.safe (by decide) hs9)
 replace HXz14 := hideP (HXz14.out.safe (by decide) hs9)
 replace HYz14 := hideP (HYz14.out.safe (by decide) hs9)
 replace HB4 := hideP (HB4.out.but hb9 (Ne.symm nB4_B1))
 replace HB10 := hideP (HB10.out.but hb9 (Ne.symm nB10_B1))
 replace HB := hideP (HB.out.trans (hb9.below.mono LB1.out))
 rw [show putAll _ _ _ = #[mz14, .int .u64 (fz14 : Int), tz14, .int .i64 1, bz14, rz14, xz14, yz14, .bool false] by kernel_rfl] at hx9
 replace HB1 := hideP hx9
 clear hs9 hb9 hx9
 refine HK4.out _ _ ?_
 clear HK4 K4
 refine wp_ret ?_
 exact ZcW 0 44 B1 (#[mz14, .int .u64 (fz14 : Int), tz14, .int .i64 1, bz14, rz14, xz14, yz14, .bool false]) rfl (hK.get rfl) HB1.out Zdh rfl info44 ⟨⟨_, rfl, ⟨_, _, _, _, _, _, _, rfl, HFFz14.out, HMVz14.out, HBz14.out, HRz14.out, HXz14.out, HYz14.out⟩⟩, HB.out⟩
theorem ZiD (w : World) : Calls Tryz.prog 24 #[] w fun r w' => (∃ v', r = .returned v' ∧ CC w' v' 6 nBlsP 1 ([4]) nBlsR ([3685416753713387016781088315183077757961620795782546409894578378688607592378376318836054947676345821548104185464507]) ([1339506544944476473020471379941921221584933875938349620426543736416511423956333506472724655353366534992391756441569])) ∧ Below w.heap.size w w' := by
 have HB : Hid (Up w w) := Below.refl _ _
 go_enter Tryz.func24, Tryz.ntmps24
 refine Zby 17 [] rfl trivial (fun L hL hK => ?_)
 refine Zad (fun K1 HK1 => ?_)
 have up : ∀ V, Up w V → Up w V := fun _ h => HB.out.trans (h.mono HB.out.size)
 refine ZaP [.pr (NB w.heap.size #[.slice none 0 0, .int .u64 0, .slice none 0 0, .int .i64 0, .slice none 0 0, .slice none 0 0, .slice none 0 0, .slice none 0 0, .bool false] 44)] [0] hL hK ⟨Zbb _ _ _, trivial⟩
   ⟨ok_x [] hK (fun V h => ⟨_, _, ZaY rfl (al44 _), Zay _ _, _, rfl, h.size, ⟨Zaf _ _⟩⟩),
   trivial⟩ ?_
 rintro W1 h _ ⟨B1, rfl, lB1, hB1⟩ L1 hL1 hK1
 have LB1 := hideP (Nat.le_trans HB.out.size lB1)
 clear lB1
 replace HB := hideP (up _ h)
 have HB1 := hideP hB1
 clear hB1
 have hK2 := hK1.to [(0, .pointer (some ⟨B1, 0, none⟩))] (by kernel_rfl)
 clear up h hK1 hK hL L
 revert L1
 intro L hL hK
 refine HK1.out _ _ ?_
 clear HK1 K1
 refine Zad (fun K2 HK2 => ?_)
 have up : ∀ V, Up W1 V → Up w V := fun _ h => HB.out.trans (h.mono HB.out.size)
 refine ZaL [.pr (fun zv zw => LW zw zv (6) (limb nBlsP)), .pr (fun zv zw => FG zw zv (6) (nBlsP)), .pr (NB W1.heap.size #[.slice none 0 0, .int .u64 0, .slice none 0 0] 39)] [0, 1, 4] hL hK ⟨Za2 _ _, Zfl _ _, Zbb _ _ _, trivial⟩
   ⟨ok_c [] (en Tryz.func98) hK (fun V h => Zia _),
   ok_c [.pr (fun zv zw => LW zw zv (6) (limb nBlsP))] (en Tryz.func86) hK (fun V h u1 q1 => Zhc (by decide) hFM6 _ _ q1),
   ok_x [] hK (fun V h => ⟨_, _, ZaY rfl (al39 _), Zay _ _, _, rfl, h.size, ⟨Zaf _ _⟩⟩),
   trivial⟩ ?_
 rintro W2 h v2 pv2 _ ⟨⟨mz3, fz3, tz3, rfl, hFz3, hMz3, h1z3⟩⟩ _ ⟨B4, rfl, lB4, hB4⟩ L1 hL1 hK1
 have LB4 := hideP (Nat.le_trans HB.out.size lB4)
 have nB4_B1 : B1 ≠ B4 := by have := HB1.out.lt; omega
 clear lB4
 replace HB := hideP (up _ h)
 replace HB1 := hideP (HB1.out.moved h)
 have Fv2 := hideP pv2
 clear pv2
 have HFFz3 : Hid (FF W2 (.agg #[mz3, .int .u64 (fz3 : Int), tz3]) (6) (nBlsP)) := hFz3
 clear hFz3
 have HMVz3 : Hid (LW W2 mz3 (6) (limb (nBlsP))) := hMz3
 clear hMz3
 have HOz3 : Hid (Value.oneCell' tz3 = true) := h1z3
 clear h1z3
 have HB4 := hideP hB4
 clear hB4
 have hK2 := hK1.to [(0, .pointer (some ⟨B1, 0, none⟩)), (1, .pointer (some ⟨B4, 0, none⟩)), (4, .agg #[mz3, .int .u64 (fz3 : Int), tz3])] (by kernel_rfl)
 clear up h hK1 hK hL L
 revert L1
 intro L hL hK
 refine ZbR rfl rfl 39 _ _ rfl rfl B4 0 #[.slice none 0 0, .int .u64 0, .slice none 0 0] [mz3, .int .u64 (fz3 : Int), tz3] 39 (Zaw (hK.get rfl)) (Zaw (hK.get rfl)) (rfl) HB4.out (Nat.le_of_ble_eq_true rfl) info39 ⟨HMVz3.out.oneC, rfl, HOz3.out, trivial⟩ (fun W3 hb9 hx9 => ?_)
 have hs9 := Zbp HB4.out (by kernel_rfl) hb9 hx9
 replace Fv2 := hideP (Fv2.out.safe (by decide) hs9)
 replace HFFz3 := hideP (HFFz3.out.safe (by decide) hs9)
 replace HMVz3 := hideP (HMVz3.out.safe (by decide) hs9)
 replace HB1 := hideP (HB1.out.but hb9 nB4_B1)
 replace HB := hideP (HB.out.trans (hb9.below.mono LB4.out))
 rw [show putAll _ _ _ = #[mz3, .int .u64 (fz3 : Int), tz3] by kernel_rfl] at hx9
 replace HB4 := hideP hx9
 clear hs9 hb9 hx9
 refine HK2.out _ _ ?_
 clear HK2 K2
 refine Zad (fun K3 HK3 => ?_)
 have up : ∀ V, Up W3 V → Up w V := fun _ h => HB.out.trans (h.mono HB.out.size)
 refine ZaL [.pr (fun zv zw => LW zw zv (6) (limb 3685416753713387016781088315183077757961620795782546409894578378688607592378376318836054947676345821548104185464507)), .pr (fun zv zw => LL zw zv (6) ([3685416753713387016781088315183077757961620795782546409894578378688607592378376318836054947676345821548104185464507])), .pr (fun zv zw => LW zw zv (6) (limb 1339506544944476473020471379941921221584933875938349620426543736416511423956333506472724655353366534992391756441569)), .pr (fun zv zw => LL zw zv (6) ([1339506544944476473020471379941921221584933875938349620426543736416511423956333506472724655353366534992391756441569])), .pr (fun zv zw => PT zw zv (6) ([3685416753713387016781088315183077757961620795782546409894578378688607592378376318836054947676345821548104185464507]) ([1339506544944476473020471379941921221584933875938349620426543736416511423956333506472724655353366534992391756441569]) false), .pr (NB W3.heap.size #[.slice none 0 0, .slice none 0 0, .bool false] 42)] [0, 1, 2, 9] hL hK ⟨Za2 _ _, Zbd _ _, Za2 _ _, Zbd _ _, ZcH _ _ _ _, Zbb _ _ _, trivial⟩
   ⟨ok_c [.ex (.string ⟨(49 :: 55 :: 102 :: 49 :: 100 :: 51 :: 97 :: 55 :: 51 :: 49 :: 57 :: 55 :: 100 :: 55 :: 57 :: 52 :: 50 :: 54 :: 57 :: 53 :: 54 :: 51 :: 56 :: 99 :: 52 :: 102 :: 97 :: 57 :: 97 :: 99 :: 48 :: 102 :: 99 :: 51 :: 54 :: 56 :: 56 :: 99 :: 52 :: 102 :: 57 :: 55 :: 55 :: 52 :: 98 :: 57 :: 48 :: 53 :: 97 :: 49 :: 52 :: 101 :: 51 :: 97 :: 51 :: 102 :: 49 :: 55 :: 49 :: 98 :: 97 :: 99 :: 53 :: 56 :: 54 :: 99 :: 53 :: 53 :: 101 :: 56 :: 51 :: 102 :: 102 :: 57 :: 55 :: 97 :: 49 :: 97 :: 101 :: 102 :: 102 :: 98 :: 51 :: 97 :: 102 :: 48 :: 48 :: 97 :: 100 :: 98 :: 50 :: 50 :: 99 :: 54 :: 98 :: 98 :: []).toArray⟩), .ex (.int .i64 6)] (en Tryz.func94) hK (fun V h => ZeP ⟨(49 :: 55 :: 102 :: 49 :: 100 :: 51 :: 97 :: 55 :: 51 :: 49 :: 57 :: 55 :: 100 :: 55 :: 57 :: 52 :: 50 :: 54 :: 57 :: 53 :: 54 :: 51 :: 56 :: 99 :: 52 :: 102 :: 97 :: 57 :: 97 :: 99 :: 48 :: 102 :: 99 :: 51 :: 54 :: 56 :: 56 :: 99 :: 52 :: 102 :: 57 :: 55 :: 55 :: 52 :: 98 :: 57 :: 48 :: 53 :: 97 :: 49 :: 52 :: 101 :: 51 :: 97 :: 51 :: 102 :: 49 :: 55 :: 49 :: 98 :: 97 :: 99 :: 53 :: 56 :: 54 :: 99 :: 53 :: 53 :: 101 :: 56 :: 51 :: 102 :: 102 :: 57 :: 55 :: 97 :: 49 :: 97 :: 101 :: 102 :: 102 :: 98 :: 51 :: 97 :: 102 :: 48 :: 48 :: 97 :: 100 :: 98 :: 50 :: 50 :: 99 :: 54 :: 98 :: 98 :: []).toArray⟩ 3685416753713387016781088315183077757961620795782546409894578378688607592378376318836054947676345821548104185464507 (by unfold Zbg; decide +kernel) (by decide) (by decide +kernel) _),
   ok_x [.pr (fun zv zw => LW zw zv (6) (limb 3685416753713387016781088315183077757961620795782546409894578378688607592378376318836054947676345821548104185464507))] hK (fun V h u1 q1 => ⟨_, _, Zdg (vs := #[(0, u1)]) rfl (by kernel_rfl) (bs1 _ (LW.isSlice q1)), Zay _ _, LL.mk1 q1⟩),
   ok_c [.ex (.string ⟨(48 :: 56 :: 98 :: 51 :: 102 :: 52 :: 56 :: 49 :: 101 :: 51 :: 97 :: 97 :: 97 :: 48 :: 102 :: 49 :: 97 :: 48 :: 57 :: 101 :: 51 :: 48 :: 101 :: 100 :: 55 :: 52 :: 49 :: 100 :: 56 :: 97 :: 101 :: 52 :: 102 :: 99 :: 102 :: 53 :: 101 :: 48 :: 57 :: 53 :: 100 :: 53 :: 100 :: 48 :: 48 :: 97 :: 102 :: 54 :: 48 :: 48 :: 100 :: 98 :: 49 :: 56 :: 99 :: 98 :: 50 :: 99 :: 48 :: 52 :: 98 :: 51 :: 101 :: 100 :: 100 :: 48 :: 51 :: 99 :: 99 :: 55 :: 52 :: 52 :: 97 :: 50 :: 56 :: 56 :: 56 :: 97 :: 101 :: 52 :: 48 :: 99 :: 97 :: 97 :: 50 :: 51 :: 50 :: 57 :: 52 :: 54 :: 99 :: 53 :: 101 :: 55 :: 101 :: 49 :: []).toArray⟩), .ex (.int .i64 6)] (en Tryz.func94) hK (fun V h => ZeP ⟨(48 :: 56 :: 98 :: 51 :: 102 :: 52 :: 56 :: 49 :: 101 :: 51 :: 97 :: 97 :: 97 :: 48 :: 102 :: 49 :: 97 :: 48 :: 57 :: 101 :: 51 :: 48 :: 101 :: 100 :: 55 :: 52 :: 49 :: 100 :: 56 :: 97 :: 101 :: 52 :: 102 :: 99 :: 102 :: 53 :: 101 :: 48 :: 57 :: 53 :: 100 :: 53 :: 100 :: 48 :: 48 :: 97 :: 102 :: 54 :: 48 :: 48 :: 100 :: 98 :: 49 :: 56 :: 99 :: 98 :: 50 :: 99 :: 48 :: 52 :: 98 :: 51 :: 101 :: 100 :: 100 :: 48 :: 51 :: 99 :: 99 :: 55 :: 52 :: 52 :: 97 :: 50 :: 56 :: 56 :: 56 :: 97 :: 101 :: 52 :: 48 :: 99 :: 97 :: 97 :: 50 :: 51 :: 50 :: 57 :: 52 :: 54 :: 99 :: 53 :: 101 :: 55 :: 101 :: 49 :: []).toArray⟩ 1339506544944476473020471379941921221584933875938349620426543736416511423956333506472724655353366534992391756441569 (by unfold Zbg; decide +kernel) (by decide) (by decide +kernel) _),
   ok_x [.pr (fun zv zw => LW zw zv (6) (limb 1339506544944476473020471379941921221584933875938349620426543736416511423956333506472724655353366534992391756441569))] hK (fun V h u1 q1 => ⟨_, _, Zdg (vs := #[(0, u1)]) rfl (by kernel_rfl) (bs1 _ (LW.isSlice q1)), Zay _ _, LL.mk1 q1⟩),
   ok_x [.pr (fun zv zw => LL zw zv (6) ([3685416753713387016781088315183077757961620795782546409894578378688607592378376318836054947676345821548104185464507])), .pr (fun zv zw => LL zw zv (6) ([1339506544944476473020471379941921221584933875938349620426543736416511423956333506472724655353366534992391756441569]))] hK (fun V h u1 q1 u2 q2 => ⟨_, _, ZbT (vs := #[(0, u1), (1, u2)]) rfl (by kernel_rfl) (Zha (LL.isSlice q1) (LL.isSlice q2) _), Below.refl _ _, ⟨_, _, rfl, q1, q2⟩⟩),
   ok_x [] hK (fun V h => ⟨_, _, ZaY rfl (al42 _), Zay _ _, _, rfl, h.size, ⟨Zaf _ _⟩⟩),
   trivial⟩ ?_
 rintro W4 h v5 pv5 v6 pv6 v7 pv7 v8 pv8 _ ⟨⟨xz9, yz9, rfl, hxz9, hyz9⟩⟩ _ ⟨B10, rfl, lB10, hB10⟩ L1 hL1 hK1
 have LB10 := hideP (Nat.le_trans HB.out.size lB10)
 have nB10_B1 : B1 ≠ B10 := by have := HB1.out.lt; omega
 have nB10_B4 : B4 ≠ B10 := by have := HB4.out.lt; omega
 clear lB10
 replace HB := hideP (up _ h)
 replace Fv2 := hideP (Fv2.out.moved h)
 replace HFFz3 := hideP (HFFz3.out.moved h)
 replace HMVz3 := hideP (HMVz3.out.moved h)
 replace HB1 := hideP (HB1.out.moved h)
 replace HB4 := hideP (HB4.out.moved h)
 have Fv5 := hideP pv5
 clear pv5
 have Fv6 := hideP pv6
 clear pv6
 have Fv7 := hideP pv7
 clear pv7
 have Fv8 := hideP pv8
 clear pv8
 have HXz9 : Hid (LL W4 xz9 (6) ([3685416753713387016781088315183077757961620795782546409894578378688607592378376318836054947676345821548104185464507])) := hxz9
 clear hxz9
 have HYz9 : Hid (LL W4 yz9 (6) ([1339506544944476473020471379941921221584933875938349620426543736416511423956333506472724655353366534992391756441569])) := hyz9
 clear hyz9
 have HB10 := hideP hB10
 clear hB10
 have hK2 := hK1.to [(0, .pointer (some ⟨B1, 0, none⟩)), (1, .pointer (some ⟨B4, 0, none⟩)), (2, .pointer (some ⟨B10, 0, none⟩)), (9, .agg #[xz9, yz9, .bool false])] (by kernel_rfl)
 clear up h hK1 hK hL L
 revert L1
 intro L hL hK
 refine ZbR rfl rfl 42 _ _ rfl rfl B10 0 #[.slice none 0 0, .slice none 0 0, .bool false] [xz9, yz9, .bool false] 42 (Zaw (hK.get rfl)) (Zaw (hK.get rfl)) (rfl) HB10.out (Nat.le_of_ble_eq_true rfl) info42 ⟨HXz9.out.oneC, HYz9.out.oneC, rfl, trivial⟩ (fun W5 hb9 hx9 => ?_)
 have hs9 := Zbp HB10.out (by kernel_rfl) hb9 hx9
 replace Fv2 := hideP (Fv2.out.safe (by decide) hs9)
 replace HFFz3 := hideP (HFFz3.out.safe (by decide) hs9)
 replace HMVz3 := hideP (HMVz3.out.safe (by decide) hs9)
 replace Fv5 := hideP (Fv5.out.safe (by decide) hs9)
 replace Fv6 := hideP (Fv6.out.safe (by decide) hs9)
 replace Fv7 := hideP (Fv7.out.safe (by decide) hs9)
 replace Fv8 := hideP (Fv8.out.safe (by decide) hs9)
 replace HXz9 := hideP (HXz9.out.safe (by decide) hs9)
 replace HYz9 := hideP (HYz9.out.safe (by decide) hs9)
 replace HB1 := hideP (HB1.out.but hb9 nB10_B1)
 replace HB4 := hideP (HB4.out.but hb9 nB10_B4)
 replace HB := hideP (HB.out.trans (hb9.below.mono LB10.out))
 rw [show putAll _ _ _ = #[xz9, yz9, .bool false] by kernel_rfl] at hx9
 replace HB10 := hideP hx9
 clear hs9 hb9 hx9
 refine HK3.out _ _ ?_
 clear HK3 K3
 refine Zad (fun K4 HK4 => ?_)
 have up : ∀ V, Up W5 V → Up w V := fun _ h => HB.out.trans (h.mono HB.out.size)
 refine ZaL [.ex (.agg #[mz3, .int .u64 (fz3 : Int), tz3]), .ex (.agg #[mz3, .int .u64 (fz3 : Int), tz3]), .pr (fun zv zw => LW zw zv (6) (limb 4)), .pr (fun zv zw => LL zw zv (6) ([4])), .pr (fun zv zw => LW zw zv (4) (limb nBlsR)), .ex (.agg #[xz9, yz9, .bool false]), .pr (fun zv zw => CC zw zv (6) (nBlsP) 1 ([4]) (nBlsR) ([3685416753713387016781088315183077757961620795782546409894578378688607592378376318836054947676345821548104185464507]) ([1339506544944476473020471379941921221584933875938349620426543736416511423956333506472724655353366534992391756441569]))] [0, 16] hL hK ⟨Za2 _ _, Zbd _ _, Za2 _ _, Zdj _ _ _ _ _ _ _, trivial⟩
   ⟨ZaZ 0 hK (fun V h => HB4.out.moved h) ZaU info39,
   ZaZ 0 hK (fun V h => HB4.out.moved h) ZaU info39,
   ok_c [.ex (.agg #[mz3, .int .u64 (fz3 : Int), tz3]), .ex (.int .u64 4)] (en Tryz.func88) hK (fun V h => ZbA hFM6 4 (by decide) _ _ (HFFz3.out.moved h)),
   ok_x [.pr (fun zv zw => LW zw zv (6) (limb 4))] hK (fun V h u1 q1 => ⟨_, _, Zdg (vs := #[(0, u1)]) rfl (by kernel_rfl) (bs1 _ (LW.isSlice q1)), Zay _ _, LL.mk1 q1⟩),
   ok_c [] (en Tryz.func70) hK (fun V h => Zib _),
   ZaZ 0 hK (fun V h => HB10.out.moved h) Zgn info42,
   ok_x [.ex (.agg #[mz3, .int .u64 (fz3 : Int), tz3]), .ex (.int .i64 1), .pr (fun zv zw => LL zw zv (6) ([4])), .pr (fun zv zw => LW zw zv (4) (limb nBlsR)), .ex (.agg #[xz9, yz9, .bool false])] hK (fun V h u1 q1 u2 q2 => ⟨_, _, ZbT (vs := #[(0, .agg #[mz3, .int .u64 (fz3 : Int), tz3]), (1, .int .i64 1), (2, u1), (3, u2), (4, .agg #[xz9, yz9, .bool false])]) rfl (by kernel_rfl) (Zkh 1 (LL.isSlice q1) (LW.isSlice q2) _), Below.refl _ _, ⟨_, _, _, _, _, _, _, rfl, (HFFz3.out.moved h), (HMVz3.out.moved h), q1, q2, (HXz9.out.moved h), (HYz9.out.moved h)⟩⟩),
   trivial⟩ ?_
 rintro W6 h v11 pv11 v12 pv12 v13 pv13 _ ⟨⟨mz14, fz14, tz14, bz14, rz14, xz14, yz14, rfl, hFz14, hMz14, hBz14, hRz14, hXz14, hYz14⟩⟩ L1 hL1 hK1
 replace HB := hideP (up _ h)
 replace Fv2 := hideP (Fv2.out.moved h)
 replace HFFz3 := hideP (HFFz3.out.moved h)
 replace HMVz3 := hideP (HMVz3.out.moved h)
 replace Fv5 := hideP (Fv5.out.moved h)
 replace Fv6 := hideP (Fv6.out.moved h)
 replace Fv7 := hideP (Fv7.out.moved h)
 replace Fv8 := hideP (Fv8.out.moved h)
 replace HXz9 := hideP (HXz9.out.moved h)
 replace HYz9 := hideP (HYz9.out.moved h)
 replace HB1 := hideP (HB1.out.moved h)
 replace HB4 := hideP (HB4.out.moved h)
 replace HB10 := hideP (HB10.out.moved h)
 have Fv11 := hideP pv11
 clear pv11
 have Fv12 := hideP pv12
 clear pv12
 have Fv13 := hideP pv13
 clear pv13
 have HFFz14 : Hid (FF W6 (.agg #[mz14, .int .u64 (fz14 : Int), tz14]) (6) (nBlsP)) := hFz14
 clear hFz14
 have HMVz14 : Hid (LW W6 mz14 (6) (limb (nBlsP))) := hMz14
 clear hMz14
 have HBz14 : Hid (LL W6 bz14 (6) ([4])) := hBz14
 clear hBz14
 have HRz14 : Hid (LW W6 rz14 (4) (limb (nBlsR))) := hRz14
 clear hRz14
 have HXz14 : Hid (LL W6 xz14 (6) ([3685416753713387016781088315183077757961620795782546409894578378688607592378376318836054947676345821548104185464507])) := hXz14
 clear hXz14
 have HYz14 : Hid (LL W6 yz14 (6) ([1339506544944476473020471379941921221584933875938349620426543736416511423956333506472724655353366534992391756441569])) := hYz14
 clear hYz14
 have hK2 := hK1.to [(0, .pointer (some ⟨B1, 0, none⟩)), (16, .agg #[mz14, .int .u64 (fz14 : Int), tz14, .int .i64 1, bz14, rz14, xz14, yz14, .bool false])] (by kernel_rfl)
 clear up h hK1 hK hL L
 revert L1
 intro L hL hK
 refine ZbR rfl rfl 44 _ _ rfl rfl B1 0 #[.slice none 0 0, .int .u64 0, .slice none 0 0, .int .i64 0, .slice none 0 0, .slice none 0 0, .slice none 0 0, .slice none 0 0, .bool false] [mz14, .int .u64 (fz14 : Int), tz14, .int .i64 1, bz14, rz14, xz14, yz14, .bool false] 44 (Zaw (hK.get rfl)) (Zaw (hK.get rfl)) (rfl) HB1.out (Nat.le_of_ble_eq_true rfl) info44 ⟨HMVz14.out.oneC, rfl, (FF.oneT HFFz14.out), rfl, HBz14.out.oneC, HRz14.out.oneC, HXz14.out.oneC, HYz14.out.oneC, rfl, trivial⟩ (fun W7 hb9 hx9 => ?_)
 have hs9 := Zbp HB1.out (by kernel_rfl) hb9 hx9
 replace Fv2 := hideP (Fv2.out.safe (by decide) hs9)
 replace HFFz3 := hideP (HFFz3.out.safe (by decide) hs9)
 replace HMVz3 := hideP (HMVz3.out.safe (by decide) hs9)
 replace Fv5 := hideP (Fv5.out.safe (by decide) hs9)
 replace Fv6 := hideP (Fv6.out.safe (by decide) hs9)
 replace Fv7 := hideP (Fv7.out.safe (by decide) hs9)
 replace Fv8 := hideP (Fv8.out.safe (by decide) hs9)
 replace HXz9 := hideP (HXz9.out.safe (by decide) hs9)
 replace HYz9 := hideP (HYz9.out.safe (by decide) hs9)
 replace Fv11 := hideP (Fv11.out.safe (by decide) hs9)
 replace Fv12 := hideP (Fv12.out.safe (by decide) hs9)
 replace Fv13 := hideP (Fv13.out.safe (by decide) hs9)
 replace HFFz14 := hideP (HFFz14.out.safe (by decide) hs9)
 replace HMVz14 := hideP (HMVz14.out.safe (by decide) hs9)
 replace HBz14 := hideP (HBz14.out.safe (by decide) hs9)
 replace HRz14 := hideP (HRz14.out.safe (by decide) hs9)
 replace HXz14 := hideP (HXz14.out.safe (by decide) hs9)
 replace HYz14 := hideP (HYz14.out.safe (by decide) hs9)
 replace HB4 := hideP (HB4.out.but hb9 (Ne.symm nB4_B1))
 replace HB10 := hideP (HB10.out.but hb9 (Ne.symm nB10_B1))
 replace HB := hideP (HB.out.trans (hb9.below.mono LB1.out))
 rw [show putAll _ _ _ = #[mz14, .int .u64 (fz14 : Int), tz14, .int .i64 1, bz14, rz14, xz14, yz14, .bool false] by kernel_rfl] at hx9
 replace HB1 := hideP hx9
 clear hs9 hb9 hx9
 refine HK4.out _ _ ?_
 clear HK4 K4
 refine wp_ret ?_
 exact ZcW 0 44 B1 (#[mz14, .int .u64 (fz14 : Int), tz14, .int .i64 1, bz14, rz14, xz14, yz14, .bool false]) rfl (hK.get rfl) HB1.out Zdh rfl info44 ⟨⟨_, rfl, ⟨_, _, _, _, _, _, _, rfl, HFFz14.out, HMVz14.out, HBz14.out, HRz14.out, HXz14.out, HYz14.out⟩⟩, HB.out⟩
theorem ZiE (w : World) : Calls Tryz.prog 27 #[] w fun r w' => (∃ v', r = .returned v' ∧ CC w' v' 6 nBlsP 2 ([4, 4]) nBlsR ([352701069587466618187139116011060144890029952792775240219908644239793785735715026873347600343865175952761926303160, 3059144344244213709971259814753781636986470325476647558659373206291635324768958432433509563104347017837885763365758]) ([1985150602287291935568054521177171638300868978215655730859378665066344726373823718423869104263333984641494340347905, 927553665492332455747201965776037880757740193453592970025027978793976877002675564980949289727957565575433344219582])) ∧ Below w.heap.size w w' := by
 have HB : Hid (Up w w) := Below.refl _ _
 go_enter Tryz.func27, Tryz.ntmps27
 refine Zby 21 [] rfl trivial (fun L hL hK => ?_)
 refine Zad (fun K1 HK1 => ?_)
 have up : ∀ V, Up w V → Up w V := fun _ h => HB.out.trans (h.mono HB.out.size)
 refine ZaP [.pr (NB w.heap.size #[.slice none 0 0, .int .u64 0, .slice none 0 0, .int .i64 0, .slice none 0 0, .slice none 0 0, .slice none 0 0, .slice none 0 0, .bool false] 44)] [0] hL hK ⟨Zbb _ _ _, trivial⟩
   ⟨ok_x [] hK (fun V h => ⟨_, _, ZaY rfl (al44 _), Zay _ _, _, rfl, h.size, ⟨Zaf _ _⟩⟩),
   trivial⟩ ?_
 rintro W1 h _ ⟨B1, rfl, lB1, hB1⟩ L1 hL1 hK1
 have LB1 := hideP (Nat.le_trans HB.out.size lB1)
 clear lB1
 replace HB := hideP (up _ h)
 have HB1 := hideP hB1
 clear hB1
 have hK2 := hK1.to [(0, .pointer (some ⟨B1, 0, none⟩))] (by kernel_rfl)
 clear up h hK1 hK hL L
 revert L1
 intro L hL hK
 refine HK1.out _ _ ?_
 clear HK1 K1
 refine Zad (fun K2 HK2 => ?_)
 have up : ∀ V, Up W1 V → Up w V := fun _ h => HB.out.trans (h.mono HB.out.size)
 refine ZaL [.pr (fun zv zw => LW zw zv (6) (limb nBlsP)), .pr (fun zv zw => FG zw zv (6) (nBlsP)), .pr (NB W1.heap.size #[.slice none 0 0, .int .u64 0, .slice none 0 0] 39)] [0, 1, 4] hL hK ⟨Za2 _ _, Zfl _ _, Zbb _ _ _, trivial⟩
   ⟨ok_c [] (en Tryz.func98) hK (fun V h => Zia _),
   ok_c [.pr (fun zv zw => LW zw zv (6) (limb nBlsP))] (en Tryz.func86) hK (fun V h u1 q1 => Zhc (by decide) hFM6 _ _ q1),
   ok_x [] hK (fun V h => ⟨_, _, ZaY rfl (al39 _), Zay _ _, _, rfl, h.size, ⟨Zaf _ _⟩⟩),
   trivial⟩ ?_
 rintro W2 h v2 pv2 _ ⟨⟨mz3, fz3, tz3, rfl, hFz3, hMz3, h1z3⟩⟩ _ ⟨B4, rfl, lB4, hB4⟩ L1 hL1 hK1
 have LB4 := hideP (Nat.le_trans HB.out.size lB4)
 have nB4_B1 : B1 ≠ B4 := by have := HB1.out.lt; omega
 clear lB4
 replace HB := hideP (up _ h)
 replace HB1 := hideP (HB1.out.moved h)
 have Fv2 := hideP pv2
 clear pv2
 have HFFz3 : Hid (FF W2 (.agg #[mz3, .int .u64 (fz3 : Int), tz3]) (6) (nBlsP)) := hFz3
 clear hFz3
 have HMVz3 : Hid (LW W2 mz3 (6) (limb (nBlsP))) := hMz3
 clear hMz3
 have HOz3 : Hid (Value.oneCell' tz3 = true) := h1z3
 clear h1z3
 have HB4 := hideP hB4
 clear hB4
 have hK2 := hK1.to [(0, .pointer (some ⟨B1, 0, none⟩)), (1, .pointer (some ⟨B4, 0, none⟩)), (4, .agg #[mz3, .int .u64 (fz3 : Int), tz3])] (by kernel_rfl)
 clear up h hK1 hK hL L
 revert L1
 intro L hL hK
 refine ZbR rfl rfl 39 _ _ rfl rfl B4 0 #[.slice none 0 0, .int .u64 0, .slice none 0 0] [mz3, .int .u64 (fz3 : Int), tz3] 39 (Zaw (hK.get rfl)) (Zaw (hK.get rfl)) (rfl) HB4.out (Nat.le_of_ble_eq_true rfl) info39 ⟨HMVz3.out.oneC, rfl, HOz3.out, trivial⟩ (fun W3 hb9 hx9 => ?_)
 have hs9 := Zbp HB4.out (by kernel_rfl) hb9 hx9
 replace Fv2 := hideP (Fv2.out.safe (by decide) hs9)
 replace HFFz3 := hideP (HFFz3.out.safe (by decide) hs9)
 replace HMVz3 := hideP (HMVz3.out.safe (by decide) hs9)
 replace HB1 := hideP (HB1.out.but hb9 nB4_B1)
 replace HB := hideP (HB.out.trans (hb9.below.mono LB4.out))
 rw [show putAll _ _ _ = #[mz3, .int .u64 (fz3 : Int), tz3] by kernel_rfl] at hx9
 replace HB4 := hideP hx9
 clear hs9 hb9 hx9
 refine HK2.out _ _ ?_
 clear HK2 K2
 refine Zad (fun K3 HK3 => ?_)
 have up : ∀ V, Up W3 V → Up w V := fun _ h => HB.out.trans (h.mono HB.out.size)
 refine ZaL [.pr (fun zv zw => LW zw zv (6) (limb 352701069587466618187139116011060144890029952792775240219908644239793785735715026873347600343865175952761926303160)), .pr (fun zv zw => LW zw zv (6) (limb 3059144344244213709971259814753781636986470325476647558659373206291635324768958432433509563104347017837885763365758)), .pr (fun zv zw => LL zw zv (6) ([352701069587466618187139116011060144890029952792775240219908644239793785735715026873347600343865175952761926303160, 3059144344244213709971259814753781636986470325476647558659373206291635324768958432433509563104347017837885763365758])), .pr (fun zv zw => LW zw zv (6) (limb 1985150602287291935568054521177171638300868978215655730859378665066344726373823718423869104263333984641494340347905)), .pr (fun zv zw => LW zw zv (6) (limb 927553665492332455747201965776037880757740193453592970025027978793976877002675564980949289727957565575433344219582)), .pr (fun zv zw => LL zw zv (6) ([1985150602287291935568054521177171638300868978215655730859378665066344726373823718423869104263333984641494340347905, 927553665492332455747201965776037880757740193453592970025027978793976877002675564980949289727957565575433344219582])), .pr (fun zv zw => PT zw zv (6) ([352701069587466618187139116011060144890029952792775240219908644239793785735715026873347600343865175952761926303160, 3059144344244213709971259814753781636986470325476647558659373206291635324768958432433509563104347017837885763365758]) ([1985150602287291935568054521177171638300868978215655730859378665066344726373823718423869104263333984641494340347905, 927553665492332455747201965776037880757740193453592970025027978793976877002675564980949289727957565575433344219582]) false), .pr (NB W3.heap.size #[.slice none 0 0, .slice none 0 0, .bool false] 42)] [0, 1, 2, 11] hL hK ⟨Za2 _ _, Za2 _ _, Zbd _ _, Za2 _ _, Za2 _ _, Zbd _ _, ZcH _ _ _ _, Zbb _ _ _, trivial⟩
   ⟨ok_c [.ex (.string ⟨(48 :: 50 :: 52 :: 97 :: 97 :: 50 :: 98 :: 50 :: 102 :: 48 :: 56 :: 102 :: 48 :: 97 :: 57 :: 49 :: 50 :: 54 :: 48 :: 56 :: 48 :: 53 :: 50 :: 55 :: 50 :: 100 :: 99 :: 53 :: 49 :: 48 :: 53 :: 49 :: 99 :: 54 :: 101 :: 52 :: 55 :: 97 :: 100 :: 52 :: 102 :: 97 :: 52 :: 48 :: 51 :: 98 :: 48 :: 50 :: 98 :: 52 :: 53 :: 49 :: 48 :: 98 :: 54 :: 52 :: 55 :: 97 :: 101 :: 51 :: 100 :: 49 :: 55 :: 55 :: 48 :: 98 :: 97 :: 99 :: 48 :: 51 :: 50 :: 54 :: 97 :: 56 :: 48 :: 53 :: 98 :: 98 :: 101 :: 102 :: 100 :: 52 :: 56 :: 48 :: 53 :: 54 :: 99 :: 56 :: 99 :: 49 :: 50 :: 49 :: 98 :: 100 :: 98 :: 56 :: []).toArray⟩), .ex (.int .i64 6)] (en Tryz.func94) hK (fun V h => ZeP ⟨(48 :: 50 :: 52 :: 97 :: 97 :: 50 :: 98 :: 50 :: 102 :: 48 :: 56 :: 102 :: 48 :: 97 :: 57 :: 49 :: 50 :: 54 :: 48 :: 56 :: 48 :: 53 :: 50 :: 55 :: 50 :: 100 :: 99 :: 53 :: 49 :: 48 :: 53 :: 49 :: 99 :: 54 :: 101 :: 52 :: 55 :: 97 :: 100 :: 52 :: 102 :: 97 :: 52 :: 48 :: 51 :: 98 :: 48 :: 50 :: 98 :: 52 :: 53 :: 49 :: 48 :: 98 :: 54 :: 52 :: 55 :: 97 :: 101 :: 51 :: 100 :: 49 :: 55 :: 55 :: 48 :: 98 :: 97 :: 99 :: 48 :: 51 :: 50 :: 54 :: 97 :: 56 :: 48 :: 53 :: 98 :: 98 :: 101 :: 102 :: 100 :: 52 :: 56 :: 48 :: 53 :: 54 :: 99 :: 56 :: 99 :: 49 :: 50 :: 49 :: 98 :: 100 :: 98 :: 56 :: []).toArray⟩ 352701069587466618187139116011060144890029952792775240219908644239793785735715026873347600343865175952761926303160 (by unfold Zbg; decide +kernel) (by decide) (by decide +kernel) _),
   ok_c [.ex (.string ⟨(49 :: 51 :: 101 :: 48 :: 50 :: 98 :: 54 :: 48 :: 53 :: 50 :: 55 :: 49 :: 57 :: 102 :: 54 :: 48 :: 55 :: 100 :: 97 :: 99 :: 100 :: 51 :: 97 :: 48 :: 56 :: 56 :: 50 :: 55 :: 52 :: 102 :: 54 :: 53 :: 53 :: 57 :: 54 :: 98 :: 100 :: 48 :: 100 :: 48 :: 57 :: 57 :: 50 :: 48 :: 98 :: 54 :: 49 :: 97 :: 98 :: 53 :: 100 :: 97 :: 54 :: 49 :: 98 :: 98 :: 100 :: 99 :: 55 :: 102 :: 53 :: 48 :: 52 :: 57 :: 51 :: 51 :: 52 :: 99 :: 102 :: 49 :: 49 :: 50 :: 49 :: 51 :: 57 :: 52 :: 53 :: 100 :: 53 :: 55 :: 101 :: 53 :: 97 :: 99 :: 55 :: 100 :: 48 :: 53 :: 53 :: 100 :: 48 :: 52 :: 50 :: 98 :: 55 :: 101 :: []).toArray⟩), .ex (.int .i64 6)] (en Tryz.func94) hK (fun V h => ZeP ⟨(49 :: 51 :: 101 :: 48 :: 50 :: 98 :: 54 :: 48 :: 53 :: 50 :: 55 :: 49 :: 57 :: 102 :: 54 :: 48 :: 55 :: 100 :: 97 :: 99 :: 100 :: 51 :: 97 :: 48 :: 56 :: 56 :: 50 :: 55 :: 52 :: 102 :: 54 :: 53 :: 53 :: 57 :: 54 :: 98 :: 100 :: 48 :: 100 :: 48 :: 57 :: 57 :: 50 :: 48 :: 98 :: 54 :: 49 :: 97 :: 98 :: 53 :: 100 :: 97 :: 54 :: 49 :: 98 :: 98 :: 100 :: 99 :: 55 :: 102 :: 53 :: 48 :: 52 :: 57 :: 51 :: 51 :: 52 :: 99 :: 102 :: 49 :: 49 :: 50 :: 49 :: 51 :: 57 :: 52 :: 53 :: 100 :: 53 :: 55 :: 101 :: 53 :: 97 :: 99 :: 55 :: 100 :: 48 :: 53 :: 53 :: 100 :: 48 :: 52 :: 50 :: 98 :: 55 :: 101 :: []).toArray⟩ 3059144344244213709971259814753781636986470325476647558659373206291635324768958432433509563104347017837885763365758 (by unfold Zbg; decide +kernel) (by decide) (by decide +kernel) _),
   ok_x [.pr (fun zv zw => LW zw zv (6) (limb 352701069587466618187139116011060144890029952792775240219908644239793785735715026873347600343865175952761926303160)), .pr (fun zv zw => LW zw zv (6) (limb 3059144344244213709971259814753781636986470325476647558659373206291635324768958432433509563104347017837885763365758))] hK (fun V h u1 q1 u2 q2 => ⟨_, _, Zdg (vs := #[(0, u1), (1, u2)]) rfl (by kernel_rfl) (bs2 _ (LW.isSlice q1) (LW.isSlice q2)), Zay _ _, LL.mk2 q1 q2⟩),
   ok_c [.ex (.string ⟨(48 :: 99 :: 101 :: 53 :: 100 :: 53 :: 50 :: 55 :: 55 :: 50 :: 55 :: 100 :: 54 :: 101 :: 49 :: 49 :: 56 :: 99 :: 99 :: 57 :: 99 :: 100 :: 99 :: 54 :: 100 :: 97 :: 50 :: 101 :: 51 :: 53 :: 49 :: 97 :: 97 :: 100 :: 102 :: 100 :: 57 :: 98 :: 97 :: 97 :: 56 :: 99 :: 98 :: 100 :: 100 :: 51 :: 97 :: 55 :: 54 :: 100 :: 52 :: 50 :: 57 :: 97 :: 54 :: 57 :: 53 :: 49 :: 54 :: 48 :: 100 :: 49 :: 50 :: 99 :: 57 :: 50 :: 51 :: 97 :: 99 :: 57 :: 99 :: 99 :: 51 :: 98 :: 97 :: 99 :: 97 :: 50 :: 56 :: 57 :: 101 :: 49 :: 57 :: 51 :: 53 :: 52 :: 56 :: 54 :: 48 :: 56 :: 98 :: 56 :: 50 :: 56 :: 48 :: 49 :: []).toArray⟩), .ex (.int .i64 6)] (en Tryz.func94) hK (fun V h => ZeP ⟨(48 :: 99 :: 101 :: 53 :: 100 :: 53 :: 50 :: 55 :: 55 :: 50 :: 55 :: 100 :: 54 :: 101 :: 49 :: 49 :: 56 :: 99 :: 99 :: 57 :: 99 :: 100 :: 99 :: 54 :: 100 :: 97 :: 50 :: 101 :: 51 :: 53 :: 49 :: 97 :: 97 :: 100 :: 102 :: 100 :: 57 :: 98 :: 97 :: 97 :: 56 :: 99 :: 98 :: 100 :: 100 :: 51 :: 97 :: 55 :: 54 :: 100 :: 52 :: 50 :: 57 :: 97 :: 54 :: 57 :: 53 :: 49 :: 54 :: 48 :: 100 :: 49 :: 50 :: 99 :: 57 :: 50 :: 51 :: 97 :: 99 :: 57 :: 99 :: 99 :: 51 :: 98 :: 97 :: 99 :: 97 :: 50 :: 56 :: 57 :: 101 :: 49 :: 57 :: 51 :: 53 :: 52 :: 56 :: 54 :: 48 :: 56 :: 98 :: 56 :: 50 :: 56 :: 48 :: 49 :: []).toArray⟩ 1985150602287291935568054521177171638300868978215655730859378665066344726373823718423869104263333984641494340347905 (by unfold Zbg; decide +kernel) (by decide) (by decide +kernel) _),
   ok_c [.ex (.string ⟨(48 :: 54 :: 48 :: 54 :: 99 :: 52 :: 97 :: 48 :: 50 :: 101 :: 97 :: 55 :: 51 :: 52 :: 99 :: 99 :: 51 :: 50 :: 97 :: 99 :: 100 :: 50 :: 98 :: 48 :: 50 :: 98 :: 99 :: 50 :: 56 :: 98 :: 57 :: 57 :: 99 :: 98 :: 51 :: 101 :: 50 :: 56 :: 55 :: 101 :: 56 :: 53 :: 97 :: 55 :: 54 :: 51 :: 97 :: 102 :: 50 :: 54 :: 55 :: 52 :: 57 :: 50 :: 97 :: 98 :: 53 :: 55 :: 50 :: 101 :: 57 :: 57 :: 97 :: 98 :: 51 :: 102 :: 51 :: 55 :: 48 :: 100 :: 50 :: 55 :: 53 :: 99 :: 101 :: 99 :: 49 :: 100 :: 97 :: 49 :: 97 :: 97 :: 97 :: 57 :: 48 :: 55 :: 53 :: 102 :: 102 :: 48 :: 53 :: 102 :: 55 :: 57 :: 98 :: 101 :: []).toArray⟩), .ex (.int .i64 6)] (en Tryz.func94) hK (fun V h => ZeP ⟨(48 :: 54 :: 48 :: 54 :: 99 :: 52 :: 97 :: 48 :: 50 :: 101 :: 97 :: 55 :: 51 :: 52 :: 99 :: 99 :: 51 :: 50 :: 97 :: 99 :: 100 :: 50 :: 98 :: 48 :: 50 :: 98 :: 99 :: 50 :: 56 :: 98 :: 57 :: 57 :: 99 :: 98 :: 51 :: 101 :: 50 :: 56 :: 55 :: 101 :: 56 :: 53 :: 97 :: 55 :: 54 :: 51 :: 97 :: 102 :: 50 :: 54 :: 55 :: 52 :: 57 :: 50 :: 97 :: 98 :: 53 :: 55 :: 50 :: 101 :: 57 :: 57 :: 97 :: 98 :: 51 :: 102 :: 51 :: 55 :: 48 :: 100 :: 50 :: 55 :: 53 :: 99 :: 101 :: 99 :: 49 :: 100 :: 97 :: 49 :: 97 :: 97 :: 97 :: 57 :: 48 :: 55 :: 53 :: 102 :: 102 :: 48 :: 53 :: 102 :: 55 :: 57 :: 98 :: 101 :: []).toArray⟩ 927553665492332455747201965776037880757740193453592970025027978793976877002675564980949289727957565575433344219582 (by unfold Zbg; decide +kernel) (by decide) (by decide +kernel) _),
   ok_x [.pr (fun zv zw => LW zw zv (6) (limb 1985150602287291935568054521177171638300868978215655730859378665066344726373823718423869104263333984641494340347905)), .pr (fun zv zw => LW zw zv (6) (limb 927553665492332455747201965776037880757740193453592970025027978793976877002675564980949289727957565575433344219582))] hK (fun V h u1 q1 u2 q2 => ⟨_, _, Zdg (vs := #[(0, u1), (1, u2)]) rfl (by kernel_rfl) (bs2 _ (LW.isSlice q1) (LW.isSlice q2)), Zay _ _, LL.mk2 q1 q2⟩),
   ok_x [.pr (fun zv zw => LL zw zv (6) ([352701069587466618187139116011060144890029952792775240219908644239793785735715026873347600343865175952761926303160, 3059144344244213709971259814753781636986470325476647558659373206291635324768958432433509563104347017837885763365758])), .pr (fun zv zw => LL zw zv (6) ([1985150602287291935568054521177171638300868978215655730859378665066344726373823718423869104263333984641494340347905, 927553665492332455747201965776037880757740193453592970025027978793976877002675564980949289727957565575433344219582]))] hK (fun V h u1 q1 u2 q2 => ⟨_, _, ZbT (vs := #[(0, u1), (1, u2)]) rfl (by kernel_rfl) (Zha (LL.isSlice q1) (LL.isSlice q2) _), Below.refl _ _, ⟨_, _, rfl, q1, q2⟩⟩),
   ok_x [] hK (fun V h => ⟨_, _, ZaY rfl (al42 _), Zay _ _, _, rfl, h.size, ⟨Zaf _ _⟩⟩),
   trivial⟩ ?_
 rintro W4 h v5 pv5 v6 pv6 v7 pv7 v8 pv8 v9 pv9 v10 pv10 _ ⟨⟨xz11, yz11, rfl, hxz11, hyz11⟩⟩ _ ⟨B12, rfl, lB12, hB12⟩ L1 hL1 hK1
 have LB12 := hideP (Nat.le_trans HB.out.size lB12)
 have nB12_B1 : B1 ≠ B12 := by have := HB1.out.lt; omega
 have nB12_B4 : B4 ≠ B12 := by have := HB4.out.lt; omega
 clear lB12
 replace HB := hideP (up _ h)
 replace Fv2 := hideP (Fv2.out.moved h)
 replace HFFz3 := hideP (HFFz3.out.moved h)
 replace HMVz3 := hideP (HMVz3.out.moved h)
 replace HB1 := hideP (HB1.out.moved h)
 replace HB4 := hideP (HB4.out.moved h)
 have Fv5 := hideP pv5
 clear pv5
 have Fv6 := hideP pv6
 clear pv6
 have Fv7 := hideP pv7
 clear pv7
 have Fv8 := hideP pv8
 clear pv8
 have Fv9 := hideP pv9
 clear pv9
 have Fv10 := hideP pv10
 clear pv10
 have HXz11 : Hid (LL W4 xz11 (6) ([352701069587466618187139116011060144890029952792775240219908644239793785735715026873347600343865175952761926303160, 3059144344244213709971259814753781636986470325476647558659373206291635324768958432433509563104347017837885763365758])) := hxz11
 clear hxz11
 have HYz11 : Hid (LL W4 yz11 (6) ([1985150602287291935568054521177171638300868978215655730859378665066344726373823718423869104263333984641494340347905, 927553665492332455747201965776037880757740193453592970025027978793976877002675564980949289727957565575433344219582])) := hyz11
 clear hyz11
 have HB12 := hideP hB12
 clear hB12
 have hK2 := hK1.to [(0, .pointer (some ⟨B1, 0, none⟩)), (1, .pointer (some ⟨B4, 0, none⟩)), (2, .pointer (some ⟨B12, 0, none⟩)), (11, .agg #[xz11, yz11, .bool false])] (by kernel_rfl)
 clear up h hK1 hK hL L
 revert L1
 intro L hL hK
 refine ZbR rfl rfl 42 _ _ rfl rfl B12 0 #[.slice none 0 0, .slice none 0 0, .bool false] [xz11, yz11, .bool false] 42 (Zaw (hK.get rfl)) (Zaw (hK.get rfl)) (rfl) HB12.out (Nat.le_of_ble_eq_true rfl) info42 ⟨HXz11.out.oneC, HYz11.out.oneC, rfl, trivial⟩ (fun W5 hb9 hx9 => ?_)
 have hs9 := Zbp HB12.out (by kernel_rfl) hb9 hx9
 replace Fv2 := hideP (Fv2.out.safe (by decide) hs9)
 replace HFFz3 := hideP (HFFz3.out.safe (by decide) hs9)
 replace HMVz3 := hideP (HMVz3.out.safe (by decide) hs9)
 replace Fv5 := hideP (Fv5.out.safe (by decide) hs9)
 replace Fv6 := hideP (Fv6.out.safe (by decide) hs9)
 replace Fv7 := hideP (Fv7.out.safe (by decide) hs9)
 replace Fv8 := hideP (Fv8.out.safe (by decide) hs9)
 replace Fv9 := hideP (Fv9.out.safe (by decide) hs9)
 replace Fv10 := hideP (Fv10.out.safe (by decide) hs9)
 replace HXz11 := hideP (HXz11.out.safe (by decide) hs9)
 replace HYz11 := hideP (HYz11.out.safe (by decide) hs9)
 replace HB1 := hideP (HB1.out.but hb9 nB12_B1)
 replace HB4 := hideP (HB4.out.but hb9 nB12_B4)
 replace HB := hideP (HB.out.trans (hb9.below.mono LB12.out))
 rw [show putAll _ _ _ = #[xz11, yz11, .bool false] by kernel_rfl] at hx9
 replace HB12 := hideP hx9
 clear hs9 hb9 hx9
 refine HK3.out _ _ ?_
 clear HK3 K3
 refine Zad (fun K4 HK4 => ?_)
 have up : ∀ V, Up W5 V → Up w V := fun _ h => HB.out.trans (h.mono HB.out.size)
 refine ZaL [.ex (.agg #[mz3, .int .u64 (fz3 : Int), tz3]), .ex (.agg #[mz3, .int .u64 (fz3 : Int), tz3]), .pr (fun zv zw => LW zw zv (6) (limb 4)), .ex (.agg #[mz3, .int .u64 (fz3 : Int), tz3]), .pr (fun zv zw => LW zw zv (6) (limb 4)), .pr (fun zv zw => LL zw zv (6) ([4, 4])), .pr (fun zv zw => LW zw zv (4) (limb nBlsR)), .ex (.agg #[xz11, yz11, .bool false]), .pr (fun zv zw => CC zw zv (6) (nBlsP) 2 ([4, 4]) (nBlsR) ([352701069587466618187139116011060144890029952792775240219908644239793785735715026873347600343865175952761926303160, 3059144344244213709971259814753781636986470325476647558659373206291635324768958432433509563104347017837885763365758]) ([1985150602287291935568054521177171638300868978215655730859378665066344726373823718423869104263333984641494340347905, 927553665492332455747201965776037880757740193453592970025027978793976877002675564980949289727957565575433344219582]))] [0, 20] hL hK ⟨Za2 _ _, Za2 _ _, Zbd _ _, Za2 _ _, Zdj _ _ _ _ _ _ _, trivial⟩
   ⟨ZaZ 0 hK (fun V h => HB4.out.moved h) ZaU info39,
   ZaZ 0 hK (fun V h => HB4.out.moved h) ZaU info39,
   ok_c [.ex (.agg #[mz3, .int .u64 (fz3 : Int), tz3]), .ex (.int .u64 4)] (en Tryz.func88) hK (fun V h => ZbA hFM6 4 (by decide) _ _ (HFFz3.out.moved h)),
   ZaZ 0 hK (fun V h => HB4.out.moved h) ZaU info39,
   ok_c [.ex (.agg #[mz3, .int .u64 (fz3 : Int), tz3]), .ex (.int .u64 4)] (en Tryz.func88) hK (fun V h => ZbA hFM6 4 (by decide) _ _ (HFFz3.out.moved h)),
   ok_x [.pr (fun zv zw => LW zw zv (6) (limb 4)), .pr (fun zv zw => LW zw zv (6) (limb 4))] hK (fun V h u1 q1 u2 q2 => ⟨_, _, Zdg (vs := #[(0, u1), (1, u2)]) rfl (by kernel_rfl) (bs2 _ (LW.isSlice q1) (LW.isSlice q2)), Zay _ _, LL.mk2 q1 q2⟩),
   ok_c [] (en Tryz.func70) hK (fun V h => Zib _),
   ZaZ 0 hK (fun V h => HB12.out.moved h) Zgn info42,
   ok_x [.ex (.agg #[mz3, .int .u64 (fz3 : Int), tz3]), .ex (.int .i64 2), .pr (fun zv zw => LL zw zv (6) ([4, 4])), .pr (fun zv zw => LW zw zv (4) (limb nBlsR)), .ex (.agg #[xz11, yz11, .bool false])] hK (fun V h u1 q1 u2 q2 => ⟨_, _, ZbT (vs := #[(0, .agg #[mz3, .int .u64 (fz3 : Int), tz3]), (1, .int .i64 2), (2, u1), (3, u2), (4, .agg #[xz11, yz11, .bool false])]) rfl (by kernel_rfl) (Zkh 2 (LL.isSlice q1) (LW.isSlice q2) _), Below.refl _ _, ⟨_, _, _, _, _, _, _, rfl, (HFFz3.out.moved h), (HMVz3.out.moved h), q1, q2, (HXz11.out.moved h), (HYz11.out.moved h)⟩⟩),
   trivial⟩ ?_
 rintro W6 h v13 pv13 v14 pv14 v15 pv15 v16 pv16 _ ⟨⟨mz17, fz17, tz17, bz17, rz17, xz17, yz17, rfl, hFz17, hMz17, hBz17, hRz17, hXz17, hYz17⟩⟩ L1 hL1 hK1
 replace HB := hideP (up _ h)
 replace Fv2 := hideP (Fv2.out.moved h)
 replace HFFz3 := hideP (HFFz3.out.moved h)
 replace HMVz3 := hideP (HMVz3.out.moved h)
 replace Fv5 := hideP (Fv5.out.moved h)
 replace Fv6 := hideP (Fv6.out.moved h)
 replace Fv7 := hideP (Fv7.out.moved h)
 replace Fv8 := hideP (Fv8.out.moved h)
 replace Fv9 := hideP (Fv9.out.moved h)
 replace Fv10 := hideP (Fv10.out.moved h)
 replace HXz11 := hideP (HXz11.out.moved h)
 replace HYz11 := hideP (HYz11.out.moved h)
 replace HB1 := hideP (HB1.out.moved h)
 replace HB4 := hideP (HB4.out.moved h)
 replace HB12 := hideP (HB12.out.moved h)
 have Fv13 := hideP pv13
 clear pv13
 have Fv14 := hideP pv14
 clear pv14
 have Fv15 := hideP pv15
 clear pv15
 have Fv16 := hideP pv16
 clear pv16
 have HFFz17 : Hid (FF W6 (.agg #[mz17, .int .u64 (fz17 : Int), tz17]) (6) (nBlsP)) := hFz17
 clear hFz17
 have HMVz17 : Hid (LW W6 mz17 (6) (limb (nBlsP))) := hMz17
 clear hMz17
 have HBz17 : Hid (LL W6 bz17 (6) ([4, 4])) := hBz17
 clear hBz17
 have HRz17 : Hid (LW W6 rz17 (4) (limb (nBlsR))) := hRz17
 clear hRz17
 have HXz17 : Hid (LL W6 xz17 (6) ([352701069587466618187139116011060144890029952792775240219908644239793785735715026873347600343865175952761926303160, 3059144344244213709971259814753781636986470325476647558659373206291635324768958432433509563104347017837885763365758])) := hXz17
 clear hXz17
 have HYz17 : Hid (LL W6 yz17 (6) ([1985150602287291935568054521177171638300868978215655730859378665066344726373823718423869104263333984641494340347905, 927553665492332455747201965776037880757740193453592970025027978793976877002675564980949289727957565575433344219582])) := hYz17
 clear hYz17
 have hK2 := hK1.to [(0, .pointer (some ⟨B1, 0, none⟩)), (20, .agg #[mz17, .int .u64 (fz17 : Int), tz17, .int .i64 2, bz17, rz17, xz17, yz17, .bool false])] (by kernel_rfl)
 clear up h hK1 hK hL L
 revert L1
 intro L hL hK
 refine ZbR rfl rfl 44 _ _ rfl rfl B1 0 #[.slice none 0 0, .int .u64 0, .slice none 0 0, .int .i64 0, .slice none 0 0, .slice none 0 0, .slice none 0 0, .slice none 0 0, .bool false] [mz17, .int .u64 (fz17 : Int), tz17, .int .i64 2, bz17, rz17, xz17, yz17, .bool false] 44 (Zaw (hK.get rfl)) (Zaw (hK.get rfl)) (rfl) HB1.out (Nat.le_of_ble_eq_true rfl) info44 ⟨HMVz17.out.oneC, rfl, (FF.oneT HFFz17.out), rfl, HBz17.out.oneC, HRz17.out.oneC, HXz17.out.oneC, HYz17.out.oneC, rfl, trivial⟩ (fun W7 hb9 hx9 => ?_)
 have hs9 := Zbp HB1.out (by kernel_rfl) hb9 hx9
 replace Fv2 := hideP (Fv2.out.safe (by decide) hs9)
 replace HFFz3 := hideP (HFFz3.out.safe (by decide) hs9)
 replace HMVz3 := hideP (HMVz3.out.safe (by decide) hs9)
 replace Fv5 := hideP (Fv5.out.safe (by decide) hs9)
 replace Fv6 := hideP (Fv6.out.safe (by decide) hs9)
 replace Fv7 := hideP (Fv7.out.safe (by decide) hs9)
 replace Fv8 := hideP (Fv8.out.safe (by decide) hs9)
 replace Fv9 := hideP (Fv9.out.safe (by decide) hs9)
 replace Fv10 := hideP (Fv10.out.safe (by decide) hs9)
 replace HXz11 := hideP (HXz11.out.safe (by decide) hs9)
 replace HYz11 := hideP (HYz11.out.safe (by decide) hs9)
 replace Fv13 := hideP (Fv13.out.safe (by decide) hs9)
 replace Fv14 := hideP (Fv14.out.safe (by decide) hs9)
 replace Fv15 := hideP (Fv15.out.safe (by decide) hs9)
 replace Fv16 := hideP (Fv16.out.safe (by decide) hs9)
 replace HFFz17 := hideP (HFFz17.out.safe (by decide) hs9)
 replace HMVz17 := hideP (HMVz17.out.safe (by decide) hs9)
 replace HBz17 := hideP (HBz17.out.safe (by decide) hs9)
 replace HRz17 := hideP (HRz17.out.safe (by decide) hs9)
 replace HXz17 := hideP (HXz17.out.safe (by decide) hs9)
 replace HYz17 := hideP (HYz17.out.safe (by decide) hs9)
 replace HB4 := hideP (HB4.out.but hb9 (Ne.symm nB4_B1))
 replace HB12 := hideP (HB12.out.but hb9 (Ne.symm nB12_B1))
 replace HB := hideP (HB.out.trans (hb9.below.mono LB1.out))
 rw [show putAll _ _ _ = #[mz17, .int .u64 (fz17 : Int), tz17, .int .i64 2, bz17, rz17, xz17, yz17, .bool false] by kernel_rfl] at hx9
 replace HB1 := hideP hx9
 clear hs9 hb9 hx9
 refine HK4.out _ _ ?_
 clear HK4 K4
 refine wp_ret ?_
 exact ZcW 0 44 B1 (#[mz17, .int .u64 (fz17 : Int), tz17, .int .i64 2, bz17, rz17, xz17, yz17, .bool false]) rfl (hK.get rfl) HB1.out Zdh rfl info44 ⟨⟨_, rfl, ⟨_, _, _, _, _, _, _, rfl, HFFz17.out, HMVz17.out, HBz17.out, HRz17.out, HXz17.out, HYz17.out⟩⟩, HB.out⟩
end Go.Proofs.YtcbdbnfgnonacaaGreat
