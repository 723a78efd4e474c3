/-
  The document's second curve of bn254.
-/
import Derived.Test.YtcbdbnfgnonacaaGreatCurveBasesC10
set_option maxHeartbeats 4000000
set_option maxRecDepth 100000
namespace Go.Proofs.YtcbdbnfgnonacaaGreat
open Go.RowKit Go.Shelf
theorem cinv_2 {n M d : Nat} (hM : FM n M) (x a : Nat) (hx : x < M) (ha : a < M) (w : World) (cv u : Value) (hC : CF w cv n M d) (hu : LL w u n [x, a]) : Calls Tryz.prog 93 #[cv, u] w fun r w' => (∃ v', r = .returned v' ∧ LL w' v' n ([x * (((x * x % M + a * a % M) % M) ^ (M - 2) % M) % M, (0 + (M - a * (((x * x % M + a * a % M) % M) ^ (M - 2) % M) % M)) % M])) ∧ Below w.heap.size w w' := by
 have HM := hideP hM
 clear hM
 have HCF := hideP hC
 obtain ⟨mv, fo, tv, x4, x5, x6, x7, x8, rfl, hF, hm⟩ := hC.ex
 have HFF := hideP hF
 have HMV := hideP hm
 clear hC hF hm
 obtain ⟨gu, ou, cu, u0, u1, rfl, -, -, ku0, lu0, ku1, lu1⟩ := hu.two
 have HKu0 := hideP ku0
 have HLu0 := hideP lu0
 have HKu1 := hideP ku1
 have HLu1 := hideP lu1
 have Hx := hideP hx
 have Ha := hideP ha
 clear hu ku0 lu0 ku1 lu1 hx ha
 have HB : Hid (Up w w) := Below.refl _ _
 go_enter Tryz.func93, Tryz.ntmps93
 refine Zby 65 [(0, .agg #[mv, .int .u64 (fo : Int), tv, .int .i64 (d : Int), x4, x5, x6, x7, x8]), (1, .slice (some ⟨gu, ou, none⟩) 2 cu)] rfl ⟨rfl, rfl, trivial⟩ (fun L hL hK => ?_)
 refine Zad (fun K1 HK1 => ?_)
 have up : ∀ V, Up w V → Up w V := fun _ h => HB.out.trans (h.mono HB.out.size)
 refine ZaP [.pr (NB w.heap.size #[mv, .int .u64 (fo : Int), tv, .int .i64 (d : Int), x4, x5, x6, x7, x8] 44), .ex (.slice none 0 0)] [1, 2, 4] hL hK ⟨Zbb _ _ _, trivial⟩
   ⟨ok_x [.ex (.agg #[mv, .int .u64 (fo : Int), tv, .int .i64 (d : Int), x4, x5, x6, x7, x8])] hK (fun V h => ⟨_, _, ZfP rfl rfl, Zay _ _, _, rfl, h.size, ⟨Zaf _ _⟩⟩),
   ok_q hK,
   trivial⟩ ?_
 rintro W1 h _ ⟨B1, rfl, lB1, hB1⟩ L1 hL1 hK1
 have LB1 := hideP (Nat.le_trans HB.out.size lB1)
 clear lB1
 replace HB := hideP (up _ h)
 have HB1 := hideP hB1
 clear hB1
 have hK2 := hK1.to [(1, .slice (some ⟨gu, ou, none⟩) 2 cu), (2, .pointer (some ⟨B1, 0, none⟩)), (4, .slice none 0 0)] (by kernel_rfl)
 clear up h hK1 hK hL L
 revert L1
 intro L hL hK
 refine HK1.out _ _ ?_
 clear HK1 K1
 refine Zad (fun K2 HK2 => ?_)
 refine Zad (fun K3 HK3 => ?_)
 have up : ∀ V, Up W1 V → Up w V := fun _ h => HB.out.trans (h.mono HB.out.size)
 refine ZaP [.ex (.slice (some ⟨gu, ou, none⟩) 2 cu), .ex (.int .i64 2), .ex (.bool false)] [1, 2, 4, 9] hL hK trivial
   ⟨ok_q hK,
   ok_q hK,
   ok_q hK,
   trivial⟩ ?_
 rintro W2 h  L1 hL1 hK1
 replace HB := hideP (up _ h)
 replace HB1 := hideP (HB1.out.moved h)
 have hK2 := hK1.to [(1, .slice (some ⟨gu, ou, none⟩) 2 cu), (2, .pointer (some ⟨B1, 0, none⟩)), (4, .slice none 0 0), (9, .bool false)] (by kernel_rfl)
 clear up h hK1 hK hL L
 revert L1
 intro L hL hK
 refine HK3.out _ _ ?_
 clear HK3 K3
 refine ZfT hK ?_
 refine wp_skip ?_
 refine HK2.out _ _ ?_
 clear HK2 K2
 refine Zad (fun K4 HK4 => ?_)
 have up : ∀ V, Up W2 V → Up w V := fun _ h => HB.out.trans (h.mono HB.out.size)
 refine ZaP [.ex (.pointer (some ⟨B1, 0, none⟩)), .ex (.agg #[mv, .int .u64 (fo : Int), tv]), .ex (.slice (some ⟨gu, ou, none⟩) 2 cu), .ex (.pointer (some ⟨gu, ou + 0, none⟩)), .ex (u0), .ex (.slice (some ⟨gu, ou, none⟩) 2 cu), .ex (.pointer (some ⟨gu, ou + 0, none⟩)), .ex (u0), .pr (fun zv zw => LW zw zv (n) (limb ((x) * (x) % M))), .ex (.pointer (some ⟨B1, 0, none⟩)), .ex (.agg #[mv, .int .u64 (fo : Int), tv]), .ex (.slice (some ⟨gu, ou, none⟩) 2 cu), .ex (.pointer (some ⟨gu, ou + 1, none⟩)), .ex (u1), .ex (.slice (some ⟨gu, ou, none⟩) 2 cu), .ex (.pointer (some ⟨gu, ou + 1, none⟩)), .ex (u1), .pr (fun zv zw => LW zw zv (n) (limb ((a) * (a) % M))), .ex (.pointer (some ⟨B1, 0, none⟩)), .ex (.pointer (some ⟨B1, 0, none⟩)), .ex (mv), .pr (fun zv zw => LW zw zv (n) (limb ((((x) * (x) % M) + ((a) * (a) % M)) % M))), .pr (fun zv zw => LW zw zv (n) (limb ((((x) * (x) % M) + ((a) * (a) % M)) % M)))] [1, 2, 4, 5] hL hK ⟨Za2 _ _, Za2 _ _, Za2 _ _, Za2 _ _, trivial⟩
   ⟨ok_q hK,
   ZaZ 0 hK (fun V h => HB1.out.moved h) ZaU info39,
   ok_q hK,
   ok_q hK,
   Zct hK (fun V h => (HKu0.out.moved (up V h))),
   ok_q hK,
   ok_q hK,
   Zct hK (fun V h => (HKu0.out.moved (up V h))),
   ok_c [.ex (.agg #[mv, .int .u64 (fo : Int), tv]), .ex (u0), .ex (u0)] (en Tryz.func165) hK (fun V h => Zbr HM.out (x) (x) Hx.out Hx.out _ _ _ _ (HFF.out.moved (up V h)) (HLu0.out.moved (up V h)) (HLu0.out.moved (up V h))),
   ok_q hK,
   ZaZ 0 hK (fun V h => HB1.out.moved h) ZaU info39,
   ok_q hK,
   ok_q hK,
   Zct hK (fun V h => (HKu1.out.moved (up V h))),
   ok_q hK,
   ok_q hK,
   Zct hK (fun V h => (HKu1.out.moved (up V h))),
   ok_c [.ex (.agg #[mv, .int .u64 (fo : Int), tv]), .ex (u1), .ex (u1)] (en Tryz.func165) hK (fun V h => Zbr HM.out (a) (a) Ha.out Ha.out _ _ _ _ (HFF.out.moved (up V h)) (HLu1.out.moved (up V h)) (HLu1.out.moved (up V h))),
   ok_q hK,
   ok_q hK,
   ZcZ 0 hK (fun V h => HB1.out.moved h),
   ok_c [.pr (fun zv zw => LW zw zv (n) (limb ((x) * (x) % M))), .pr (fun zv zw => LW zw zv (n) (limb ((a) * (a) % M))), .ex (mv)] (en Tryz.func166) hK (fun V h u1 q1 u2 q2 => ZdU HM.out.n8 ((x) * (x) % M) ((a) * (a) % M) M (Nat.mod_lt _ HM.out.pos) (Nat.mod_lt _ HM.out.pos) HM.out.lt _ _ _ _ q1 q2 (HMV.out.moved (up V h))),
   ok_x [.pr (fun zv zw => LW zw zv (n) (limb ((((x) * (x) % M) + ((a) * (a) % M)) % M)))] hK (fun V h u q => ⟨_, _, Zbs rfl rfl, Below.refl _ _, q⟩),
   trivial⟩ ?_
 rintro W3 h v2 pv2 v3 pv3 v4 pv4 v5 pv5 L1 hL1 hK1
 replace HB := hideP (up _ h)
 replace HB1 := hideP (HB1.out.moved h)
 have Fv2 := hideP pv2
 clear pv2
 have Fv3 := hideP pv3
 clear pv3
 have Fv4 := hideP pv4
 clear pv4
 have Fv5 := hideP pv5
 clear pv5
 have hK2 := hK1.to [(1, .slice (some ⟨gu, ou, none⟩) 2 cu), (2, .pointer (some ⟨B1, 0, none⟩)), (4, .slice none 0 0), (5, v5)] (by kernel_rfl)
 clear up h hK1 hK hL L
 revert L1
 intro L hL hK
 refine HK4.out _ _ ?_
 clear HK4 K4
 refine Zad (fun K5 HK5 => ?_)
 have up : ∀ V, Up W3 V → Up w V := fun _ h => HB.out.trans (h.mono HB.out.size)
 refine ZaP [.ex (.pointer (some ⟨B1, 0, none⟩)), .ex (.agg #[mv, .int .u64 (fo : Int), tv]), .ex (v5), .pr (fun zv zw => LW zw zv (n) (limb (((((x) * (x) % M) + ((a) * (a) % M)) % M) ^ (M - 2) % M))), .pr (fun zv zw => LW zw zv (n) (limb (((((x) * (x) % M) + ((a) * (a) % M)) % M) ^ (M - 2) % M)))] [1, 2, 4, 6] hL hK ⟨Za2 _ _, Za2 _ _, trivial⟩
   ⟨ok_q hK,
   ZaZ 0 hK (fun V h => HB1.out.moved h) ZaU info39,
   ok_q hK,
   ok_c [.ex (.agg #[mv, .int .u64 (fo : Int), tv]), .ex (v5)] (en Tryz.func167) hK (fun V h => Zjh HM.out ((((x) * (x) % M) + ((a) * (a) % M)) % M) (Nat.mod_lt _ HM.out.pos) _ _ _ (HFF.out.moved (up V h)) (Fv5.out.moved h)),
   ok_x [.pr (fun zv zw => LW zw zv (n) (limb (((((x) * (x) % M) + ((a) * (a) % M)) % M) ^ (M - 2) % M)))] hK (fun V h u q => ⟨_, _, Zbs rfl rfl, Below.refl _ _, q⟩),
   trivial⟩ ?_
 rintro W4 h v6 pv6 v7 pv7 L1 hL1 hK1
 replace HB := hideP (up _ h)
 replace Fv2 := hideP (Fv2.out.moved h)
 replace Fv3 := hideP (Fv3.out.moved h)
 replace Fv4 := hideP (Fv4.out.moved h)
 replace Fv5 := hideP (Fv5.out.moved h)
 replace HB1 := hideP (HB1.out.moved h)
 have Fv6 := hideP pv6
 clear pv6
 have Fv7 := hideP pv7
 clear pv7
 have hK2 := hK1.to [(1, .slice (some ⟨gu, ou, none⟩) 2 cu), (2, .pointer (some ⟨B1, 0, none⟩)), (4, .slice none 0 0), (6, v7)] (by kernel_rfl)
 clear up h hK1 hK hL L
 revert L1
 intro L hL hK
 refine HK5.out _ _ ?_
 clear HK5 K5
 refine Zad (fun K6 HK6 => ?_)
 have up : ∀ V, Up W4 V → Up w V := fun _ h => HB.out.trans (h.mono HB.out.size)
 refine ZaP [.ex (.pointer (some ⟨B1, 0, none⟩)), .ex (.agg #[mv, .int .u64 (fo : Int), tv]), .ex (.slice (some ⟨gu, ou, none⟩) 2 cu), .ex (.pointer (some ⟨gu, ou + 0, none⟩)), .ex (u0), .ex (v7), .pr (fun zv zw => LW zw zv (n) (limb ((x) * (((((x) * (x) % M) + ((a) * (a) % M)) % M) ^ (M - 2) % M) % M))), .ex (.pointer (some ⟨B1, 0, none⟩)), .ex (.agg #[mv, .int .u64 (fo : Int), tv]), .pr (fun zv zw => LW zw zv (n) (limb (0))), .ex (.pointer (some ⟨B1, 0, none⟩)), .ex (.agg #[mv, .int .u64 (fo : Int), tv]), .ex (.slice (some ⟨gu, ou, none⟩) 2 cu), .ex (.pointer (some ⟨gu, ou + 1, none⟩)), .ex (u1), .ex (v7), .pr (fun zv zw => LW zw zv (n) (limb ((a) * (((((x) * (x) % M) + ((a) * (a) % M)) % M) ^ (M - 2) % M) % M))), .ex (.pointer (some ⟨B1, 0, none⟩)), .ex (.pointer (some ⟨B1, 0, none⟩)), .ex (mv), .pr (fun zv zw => LW zw zv (n) (limb (((0) + (M - ((a) * (((((x) * (x) % M) + ((a) * (a) % M)) % M) ^ (M - 2) % M) % M))) % M))), .pr (fun zv zw => LL zw zv (n) ([(x) * (((((x) * (x) % M) + ((a) * (a) % M)) % M) ^ (M - 2) % M) % M, ((0) + (M - ((a) * (((((x) * (x) % M) + ((a) * (a) % M)) % M) ^ (M - 2) % M) % M))) % M])), .pr (fun zv zw => LL zw zv (n) ([(x) * (((((x) * (x) % M) + ((a) * (a) % M)) % M) ^ (M - 2) % M) % M, ((0) + (M - ((a) * (((((x) * (x) % M) + ((a) * (a) % M)) % M) ^ (M - 2) % M) % M))) % M]))] [4] hL hK ⟨Za2 _ _, Za2 _ _, Za2 _ _, Za2 _ _, Zbd _ _, Zbd _ _, trivial⟩
   ⟨ok_q hK,
   ZaZ 0 hK (fun V h => HB1.out.moved h) ZaU info39,
   ok_q hK,
   ok_q hK,
   Zct hK (fun V h => (HKu0.out.moved (up V h))),
   ok_q hK,
   ok_c [.ex (.agg #[mv, .int .u64 (fo : Int), tv]), .ex (u0), .ex (v7)] (en Tryz.func165) hK (fun V h => Zbr HM.out (x) (((((x) * (x) % M) + ((a) * (a) % M)) % M) ^ (M - 2) % M) Hx.out (Nat.mod_lt _ HM.out.pos) _ _ _ _ (HFF.out.moved (up V h)) (HLu0.out.moved (up V h)) (Fv7.out.moved h)),
   ok_q hK,
   ZaZ 0 hK (fun V h => HB1.out.moved h) ZaU info39,
   ok_c [.ex (.agg #[mv, .int .u64 (fo : Int), tv]), .ex (.int .u64 0)] (en Tryz.func88) hK (fun V h => ZbA HM.out 0 (by decide) _ _ (HFF.out.moved (up V h))),
   ok_q hK,
   ZaZ 0 hK (fun V h => HB1.out.moved h) ZaU info39,
   ok_q hK,
   ok_q hK,
   Zct hK (fun V h => (HKu1.out.moved (up V h))),
   ok_q hK,
   ok_c [.ex (.agg #[mv, .int .u64 (fo : Int), tv]), .ex (u1), .ex (v7)] (en Tryz.func165) hK (fun V h => Zbr HM.out (a) (((((x) * (x) % M) + ((a) * (a) % M)) % M) ^ (M - 2) % M) Ha.out (Nat.mod_lt _ HM.out.pos) _ _ _ _ (HFF.out.moved (up V h)) (HLu1.out.moved (up V h)) (Fv7.out.moved h)),
   ok_q hK,
   ok_q hK,
   ZcZ 0 hK (fun V h => HB1.out.moved h),
   ok_c [.pr (fun zv zw => LW zw zv (n) (limb (0))), .pr (fun zv zw => LW zw zv (n) (limb ((a) * (((((x) * (x) % M) + ((a) * (a) % M)) % M) ^ (M - 2) % M) % M))), .ex (mv)] (en Tryz.func143) hK (fun V h u1 q1 u2 q2 => ZdV HM.out.n8 (0) ((a) * (((((x) * (x) % M) + ((a) * (a) % M)) % M) ^ (M - 2) % M) % M) M (Nat.lt_of_lt_of_le (by decide) HM.out.ge) (Nat.mod_lt _ HM.out.pos) HM.out.lt _ _ _ _ q1 q2 (HMV.out.moved (up V h))),
   ok_x [.pr (fun zv zw => LW zw zv (n) (limb ((x) * (((((x) * (x) % M) + ((a) * (a) % M)) % M) ^ (M - 2) % M) % M))), .pr (fun zv zw => LW zw zv (n) (limb (((0) + (M - ((a) * (((((x) * (x) % M) + ((a) * (a) % M)) % M) ^ (M - 2) % M) % M))) % M)))] hK (fun V h u1 q1 u2 q2 => ⟨_, _, Zdg (vs := #[(0, u1), (1, u2)]) rfl (by kernel_rfl) (bs2 _ (LW.isSlice q1) (LW.isSlice q2)), Zay _ _, LL.mk2 q1 q2⟩),
   ok_x [.pr (fun zv zw => LL zw zv (n) ([(x) * (((((x) * (x) % M) + ((a) * (a) % M)) % M) ^ (M - 2) % M) % M, ((0) + (M - ((a) * (((((x) * (x) % M) + ((a) * (a) % M)) % M) ^ (M - 2) % M) % M))) % M]))] hK (fun V h u q => ⟨_, _, Zbs rfl rfl, Below.refl _ _, q⟩),
   trivial⟩ ?_
 rintro W5 h v8 pv8 v9 pv9 v10 pv10 v11 pv11 v12 pv12 v13 pv13 L1 hL1 hK1
 replace HB := hideP (up _ h)
 replace Fv2 := hideP (Fv2.out.moved h)
 replace Fv3 := hideP (Fv3.out.moved h)
 replace Fv4 := hideP (Fv4.out.moved h)
 replace Fv5 := hideP (Fv5.out.moved h)
 replace Fv6 := hideP (Fv6.out.moved h)
 replace Fv7 := hideP (Fv7.out.moved h)
 replace HB1 := hideP (HB1.out.moved h)
 have Fv8 := hideP pv8
 clear pv8
 have Fv9 := hideP pv9
 clear pv9
 have Fv10 := hideP pv10
 clear pv10
 have Fv11 := hideP pv11
 clear pv11
 have Fv12 := hideP pv12
 clear pv12
 have Fv13 := hideP pv13
 clear pv13
 have hK2 := hK1.to [(4, v13)] (by kernel_rfl)
 clear up h hK1 hK hL L
 revert L1
 intro L hL hK
 refine HK6.out _ _ ?_
 clear HK6 K6
 refine wp_ret ?_
 exact ret2 hK ⟨⟨_, rfl, Fv13.out⟩, HB.out⟩
theorem cmul_2 {n M d : Nat} (hM : FM n M) (x a y b : Nat) (hx : x < M) (ha : a < M) (hy : y < M) (hb : b < M) (w : World) (cv u v : Value) (hC : CF w cv n M d) (hu : LL w u n [x, a]) (hv : LL w v n [y, b]) : Calls Tryz.prog 92 #[cv, u, v] w fun r w' => (∃ v', r = .returned v' ∧ LL w' v' n ([(x * y % M + (M - a * b % M)) % M, (x * b % M + a * y % M) % M])) ∧ Below w.heap.size w w' := by
 have HM := hideP hM
 clear hM
 have HCF := hideP hC
 obtain ⟨mv, fo, tv, x4, x5, x6, x7, x8, rfl, hF, hm⟩ := hC.ex
 have HFF := hideP hF
 have HMV := hideP hm
 clear hC hF hm
 obtain ⟨gu, ou, cu, u0, u1, rfl, -, -, ku0, lu0, ku1, lu1⟩ := hu.two
 have HKu0 := hideP ku0
 have HLu0 := hideP lu0
 have HKu1 := hideP ku1
 have HLu1 := hideP lu1
 have Hx := hideP hx
 have Ha := hideP ha
 clear hu ku0 lu0 ku1 lu1 hx ha
 obtain ⟨gv, ov, cv, v0, v1, rfl, -, -, kv0, lv0, kv1, lv1⟩ := hv.two
 have HKv0 := hideP kv0
 have HLv0 := hideP lv0
 have HKv1 := hideP kv1
 have HLv1 := hideP lv1
 have Hy := hideP hy
 have Hb := hideP hb
 clear hv kv0 lv0 kv1 lv1 hy hb
 have HB : Hid (Up w w) := Below.refl _ _
 go_enter Tryz.func92, Tryz.ntmps92
 refine Zby 69 [(0, .agg #[mv, .int .u64 (fo : Int), tv, .int .i64 (d : Int), x4, x5, x6, x7, x8]), (1, .slice (some ⟨gu, ou, none⟩) 2 cu), (2, .slice (some ⟨gv, ov, none⟩) 2 cv)] rfl ⟨rfl, rfl, rfl, trivial⟩ (fun L hL hK => ?_)
 refine Zad (fun K1 HK1 => ?_)
 have up : ∀ V, Up w V → Up w V := fun _ h => HB.out.trans (h.mono HB.out.size)
 refine ZaP [.pr (NB w.heap.size #[mv, .int .u64 (fo : Int), tv, .int .i64 (d : Int), x4, x5, x6, x7, x8] 44), .ex (.slice none 0 0)] [1, 2, 3, 6] hL hK ⟨Zbb _ _ _, trivial⟩
   ⟨ok_x [.ex (.agg #[mv, .int .u64 (fo : Int), tv, .int .i64 (d : Int), x4, x5, x6, x7, x8])] hK (fun V h => ⟨_, _, ZfP rfl rfl, Zay _ _, _, rfl, h.size, ⟨Zaf _ _⟩⟩),
   ok_q hK,
   trivial⟩ ?_
 rintro W1 h _ ⟨B1, rfl, lB1, hB1⟩ L1 hL1 hK1
 have LB1 := hideP (Nat.le_trans HB.out.size lB1)
 clear lB1
 replace HB := hideP (up _ h)
 have HB1 := hideP hB1
 clear hB1
 have hK2 := hK1.to [(1, .slice (some ⟨gu, ou, none⟩) 2 cu), (2, .slice (some ⟨gv, ov, none⟩) 2 cv), (3, .pointer (some ⟨B1, 0, none⟩)), (6, .slice none 0 0)] (by kernel_rfl)
 clear up h hK1 hK hL L
 revert L1
 intro L hL hK
 refine HK1.out _ _ ?_
 clear HK1 K1
 refine Zad (fun K2 HK2 => ?_)
 refine Zad (fun K3 HK3 => ?_)
 have up : ∀ V, Up W1 V → Up w V := fun _ h => HB.out.trans (h.mono HB.out.size)
 refine ZaP [.ex (.slice (some ⟨gu, ou, none⟩) 2 cu), .ex (.int .i64 2), .ex (.bool false)] [1, 2, 3, 6, 11] hL hK trivial
   ⟨ok_q hK,
   ok_q hK,
   ok_q hK,
   trivial⟩ ?_
 rintro W2 h  L1 hL1 hK1
 replace HB := hideP (up _ h)
 replace HB1 := hideP (HB1.out.moved h)
 have hK2 := hK1.to [(1, .slice (some ⟨gu, ou, none⟩) 2 cu), (2, .slice (some ⟨gv, ov, none⟩) 2 cv), (3, .pointer (some ⟨B1, 0, none⟩)), (6, .slice none 0 0), (11, .bool false)] (by kernel_rfl)
 clear up h hK1 hK hL L
 revert L1
 intro L hL hK
 refine HK3.out _ _ ?_
 clear HK3 K3
 refine ZfT hK ?_
 refine wp_skip ?_
 refine HK2.out _ _ ?_
 clear HK2 K2
 refine Zad (fun K4 HK4 => ?_)
 have up : ∀ V, Up W2 V → Up w V := fun _ h => HB.out.trans (h.mono HB.out.size)
 refine ZaP [.ex (.pointer (some ⟨B1, 0, none⟩)), .ex (.agg #[mv, .int .u64 (fo : Int), tv]), .ex (.slice (some ⟨gu, ou, none⟩) 2 cu), .ex (.pointer (some ⟨gu, ou + 0, none⟩)), .ex (u0), .ex (.slice (some ⟨gv, ov, none⟩) 2 cv), .ex (.pointer (some ⟨gv, ov + 0, none⟩)), .ex (v0), .pr (fun zv zw => LW zw zv (n) (limb ((x) * (y) % M))), .ex (.pointer (some ⟨B1, 0, none⟩)), .ex (.agg #[mv, .int .u64 (fo : Int), tv]), .ex (.slice (some ⟨gu, ou, none⟩) 2 cu), .ex (.pointer (some ⟨gu, ou + 1, none⟩)), .ex (u1), .ex (.slice (some ⟨gv, ov, none⟩) 2 cv), .ex (.pointer (some ⟨gv, ov + 1, none⟩)), .ex (v1), .pr (fun zv zw => LW zw zv (n) (limb ((a) * (b) % M))), .ex (.pointer (some ⟨B1, 0, none⟩)), .ex (.pointer (some ⟨B1, 0, none⟩)), .ex (mv), .pr (fun zv zw => LW zw zv (n) (limb ((((x) * (y) % M) + (M - ((a) * (b) % M))) % M))), .pr (fun zv zw => LW zw zv (n) (limb ((((x) * (y) % M) + (M - ((a) * (b) % M))) % M)))] [1, 2, 3, 6, 7] hL hK ⟨Za2 _ _, Za2 _ _, Za2 _ _, Za2 _ _, trivial⟩
   ⟨ok_q hK,
   ZaZ 0 hK (fun V h => HB1.out.moved h) ZaU info39,
   ok_q hK,
   ok_q hK,
   Zct hK (fun V h => (HKu0.out.moved (up V h))),
   ok_q hK,
   ok_q hK,
   Zct hK (fun V h => (HKv0.out.moved (up V h))),
   ok_c [.ex (.agg #[mv, .int .u64 (fo : Int), tv]), .ex (u0), .ex (v0)] (en Tryz.func165) hK (fun V h => Zbr HM.out (x) (y) Hx.out Hy.out _ _ _ _ (HFF.out.moved (up V h)) (HLu0.out.moved (up V h)) (HLv0.out.moved (up V h))),
   ok_q hK,
   ZaZ 0 hK (fun V h => HB1.out.moved h) ZaU info39,
   ok_q hK,
   ok_q hK,
   Zct hK (fun V h => (HKu1.out.moved (up V h))),
   ok_q hK,
   ok_q hK,
   Zct hK (fun V h => (HKv1.out.moved (up V h))),
   ok_c [.ex (.agg #[mv, .int .u64 (fo : Int), tv]), .ex (u1), .ex (v1)] (en Tryz.func165) hK (fun V h => Zbr HM.out (a) (b) Ha.out Hb.out _ _ _ _ (HFF.out.moved (up V h)) (HLu1.out.moved (up V h)) (HLv1.out.moved (up V h))),
   ok_q hK,
   ok_q hK,
   ZcZ 0 hK (fun V h => HB1.out.moved h),
   ok_c [.pr (fun zv zw => LW zw zv (n) (limb ((x) * (y) % M))), .pr (fun zv zw => LW zw zv (n) (limb ((a) * (b) % M))), .ex (mv)] (en Tryz.func143) hK (fun V h u1 q1 u2 q2 => ZdV HM.out.n8 ((x) * (y) % M) ((a) * (b) % M) M (Nat.mod_lt _ HM.out.pos) (Nat.mod_lt _ HM.out.pos) HM.out.lt _ _ _ _ q1 q2 (HMV.out.moved (up V h))),
   ok_x [.pr (fun zv zw => LW zw zv (n) (limb ((((x) * (y) % M) + (M - ((a) * (b) % M))) % M)))] hK (fun V h u q => ⟨_, _, Zbs rfl rfl, Below.refl _ _, q⟩),
   trivial⟩ ?_
 rintro W3 h v2 pv2 v3 pv3 v4 pv4 v5 pv5 L1 hL1 hK1
 replace HB := hideP (up _ h)
 replace HB1 := hideP (HB1.out.moved h)
 have Fv2 := hideP pv2
 clear pv2
 have Fv3 := hideP pv3
 clear pv3
 have Fv4 := hideP pv4
 clear pv4
 have Fv5 := hideP pv5
 clear pv5
 have hK2 := hK1.to [(1, .slice (some ⟨gu, ou, none⟩) 2 cu), (2, .slice (some ⟨gv, ov, none⟩) 2 cv), (3, .pointer (some ⟨B1, 0, none⟩)), (6, .slice none 0 0), (7, v5)] (by kernel_rfl)
 clear up h hK1 hK hL L
 revert L1
 intro L hL hK
 refine HK4.out _ _ ?_
 clear HK4 K4
 refine Zad (fun K5 HK5 => ?_)
 have up : ∀ V, Up W3 V → Up w V := fun _ h => HB.out.trans (h.mono HB.out.size)
 refine ZaP [.ex (.pointer (some ⟨B1, 0, none⟩)), .ex (.agg #[mv, .int .u64 (fo : Int), tv]), .ex (.slice (some ⟨gu, ou, none⟩) 2 cu), .ex (.pointer (some ⟨gu, ou + 0, none⟩)), .ex (u0), .ex (.slice (some ⟨gv, ov, none⟩) 2 cv), .ex (.pointer (some ⟨gv, ov + 1, none⟩)), .ex (v1), .pr (fun zv zw => LW zw zv (n) (limb ((x) * (b) % M))), .ex (.pointer (some ⟨B1, 0, none⟩)), .ex (.agg #[mv, .int .u64 (fo : Int), tv]), .ex (.slice (some ⟨gu, ou, none⟩) 2 cu), .ex (.pointer (some ⟨gu, ou + 1, none⟩)), .ex (u1), .ex (.slice (some ⟨gv, ov, none⟩) 2 cv), .ex (.pointer (some ⟨gv, ov + 0, none⟩)), .ex (v0), .pr (fun zv zw => LW zw zv (n) (limb ((a) * (y) % M))), .ex (.pointer (some ⟨B1, 0, none⟩)), .ex (.pointer (some ⟨B1, 0, none⟩)), .ex (mv), .pr (fun zv zw => LW zw zv (n) (limb ((((x) * (b) % M) + ((a) * (y) % M)) % M))), .pr (fun zv zw => LW zw zv (n) (limb ((((x) * (b) % M) + ((a) * (y) % M)) % M)))] [6, 7, 8] hL hK ⟨Za2 _ _, Za2 _ _, Za2 _ _, Za2 _ _, trivial⟩
   ⟨ok_q hK,
   ZaZ 0 hK (fun V h => HB1.out.moved h) ZaU info39,
   ok_q hK,
   ok_q hK,
   Zct hK (fun V h => (HKu0.out.moved (up V h))),
   ok_q hK,
   ok_q hK,
   Zct hK (fun V h => (HKv1.out.moved (up V h))),
   ok_c [.ex (.agg #[mv, .int .u64 (fo : Int), tv]), .ex (u0), .ex (v1)] (en Tryz.func165) hK (fun V h => Zbr HM.out (x) (b) Hx.out Hb.out _ _ _ _ (HFF.out.moved (up V h)) (HLu0.out.moved (up V h)) (HLv1.out.moved (up V h))),
   ok_q hK,
   ZaZ 0 hK (fun V h => HB1.out.moved h) ZaU info39,
   ok_q hK,
   ok_q hK,
   Zct hK (fun V h => (HKu1.out.moved (up V h))),
   ok_q hK,
   ok_q hK,
   Zct hK (fun V h => (HKv0.out.moved (up V h))),
   ok_c [.ex (.agg #[mv, .int .u64 (fo : Int), tv]), .ex (u1), .ex (v0)] (en Tryz.func165) hK (fun V h => Zbr HM.out (a) (y) Ha.out Hy.out _ _ _ _ (HFF.out.moved (up V h)) (HLu1.out.moved (up V h)) (HLv0.out.moved (up V h))),
   ok_q hK,
   ok_q hK,
   ZcZ 0 hK (fun V h => HB1.out.moved h),
   ok_c [.pr (fun zv zw => LW zw zv (n) (limb ((x) * (b) % M))), .pr (fun zv zw => LW zw zv (n) (limb ((a) * (y) % M))), .ex (mv)] (en Tryz.func166) hK (fun V h u1 q1 u2 q2 => ZdU HM.out.n8 ((x) * (b) % M) ((a) * (y) % M) M (Nat.mod_lt _ HM.out.pos) (Nat.mod_lt _ HM.out.pos) HM.out.lt _ _ _ _ q1 q2 (HMV.out.moved (up V h))),
   ok_x [.pr (fun zv zw => LW zw zv (n) (limb ((((x) * (b) % M) + ((a) * (y) % M)) % M)))] hK (fun V h u q => ⟨_, _, Zbs rfl rfl, Below.refl _ _, q⟩),
   trivial⟩ ?_
 rintro W4 h v6 pv6 v7 pv7 v8 pv8 v9 pv9 L1 hL1 hK1
 replace HB := hideP (up _ h)
 replace Fv2 := hideP (Fv2.out.moved h)
 replace Fv3 := hideP (Fv3.out.moved h)
 replace Fv4 := hideP (Fv4.out.moved h)
 replace Fv5 := hideP (Fv5.out.moved h)
 replace HB1 := hideP (HB1.out.moved h)
 have Fv6 := hideP pv6
 clear pv6
 have Fv7 := hideP pv7
 clear pv7
 have Fv8 := hideP pv8
 clear pv8
 have Fv9 := hideP pv9
 clear pv9
 have hK2 := hK1.to [(6, .slice none 0 0), (7, v5), (8, v9)] (by kernel_rfl)
 clear up h hK1 hK hL L
 revert L1
 intro L hL hK
 refine HK5.out _ _ ?_
 clear HK5 K5
 refine Zad (fun K6 HK6 => ?_)
 have up : ∀ V, Up W4 V → Up w V := fun _ h => HB.out.trans (h.mono HB.out.size)
 refine ZaP [.ex (v5), .ex (v9), .pr (fun zv zw => LL zw zv (n) ([(((x) * (y) % M) + (M - ((a) * (b) % M))) % M, (((x) * (b) % M) + ((a) * (y) % M)) % M])), .pr (fun zv zw => LL zw zv (n) ([(((x) * (y) % M) + (M - ((a) * (b) % M))) % M, (((x) * (b) % M) + ((a) * (y) % M)) % M]))] [6] hL hK ⟨Zbd _ _, Zbd _ _, trivial⟩
   ⟨ok_q hK,
   ok_q hK,
   ok_x [.ex (v5), .ex (v9)] hK (fun V h => ⟨_, _, Zdg (vs := #[(0, v5), (1, v9)]) rfl (by kernel_rfl) (bs2 _ (LW.isSlice (Fv5.out.moved h)) (LW.isSlice (Fv9.out.moved h))), Zay _ _, LL.mk2 (Fv5.out.moved h) (Fv9.out.moved h)⟩),
   ok_x [.pr (fun zv zw => LL zw zv (n) ([(((x) * (y) % M) + (M - ((a) * (b) % M))) % M, (((x) * (b) % M) + ((a) * (y) % M)) % M]))] hK (fun V h u q => ⟨_, _, Zbs rfl rfl, Below.refl _ _, q⟩),
   trivial⟩ ?_
 rintro W5 h v10 pv10 v11 pv11 L1 hL1 hK1
 replace HB := hideP (up _ h)
 replace Fv2 := hideP (Fv2.out.moved h)
 replace Fv3 := hideP (Fv3.out.moved h)
 replace Fv4 := hideP (Fv4.out.moved h)
 replace Fv5 := hideP (Fv5.out.moved h)
 replace Fv6 := hideP (Fv6.out.moved h)
 replace Fv7 := hideP (Fv7.out.moved h)
 replace Fv8 := hideP (Fv8.out.moved h)
 replace Fv9 := hideP (Fv9.out.moved h)
 replace HB1 := hideP (HB1.out.moved h)
 have Fv10 := hideP pv10
 clear pv10
 have Fv11 := hideP pv11
 clear pv11
 have hK2 := hK1.to [(6, v11)] (by kernel_rfl)
 clear up h hK1 hK hL L
 revert L1
 intro L hL hK
 refine HK6.out _ _ ?_
 clear HK6 K6
 refine wp_ret ?_
 exact ret2 hK ⟨⟨_, rfl, Fv11.out⟩, HB.out⟩
def Pr (p : Nat) : Prop := 1 < p ∧ ∀ d, d ∣ p → d = 1 ∨ d = p
def pm (n : Nat) : Nat → Nat → Nat → Nat
  | 0, _, _ => 1 % n
  | k + 1, a, e => bif Nat.beq e 0 then 1 % n else bif Nat.beq (e % 2) 1 then a * pm n k (a * a % n) (e / 2) % n else pm n k (a * a % n) (e / 2)
theorem Zk0 (n : Nat) : ∀ (k a e : Nat), e < 2 ^ k → pm n k a e = a ^ e % n
  | 0, a, e, h => by
    obtain rfl : e = 0 := by simpa using h
    simp [pm]
  | k + 1, a, e, h => by
    have ih := Zk0 n k (a * a % n) (e / 2) (by rw [Nat.pow_succ] at h; omega)
    unfold pm
    by_cases h0 : e = 0
    · subst h0
      simp
    · have b0 : Nat.beq e 0 = false := by
        rw [Bool.eq_false_iff]
        intro hb
        exact h0 (Nat.eq_of_beq_eq_true hb)
      have hsq : (a * a % n) ^ (e / 2) % n = a ^ (2 * (e / 2)) % n := by
        rw [← Nat.pow_mod, Nat.pow_mul, Nat.pow_two]
      rw [b0, cond_false]
      by_cases h1 : e % 2 = 1
      · have b1 : Nat.beq (e % 2) 1 = true := by rw [h1]; rfl
        rw [b1, cond_true, ih, hsq, Nat.mul_mod_mod, Nat.mul_comm, ← Nat.pow_succ, show (2 * (e / 2)).succ = e by omega]
      · have b1 : Nat.beq (e % 2) 1 = false := by
          rw [show e % 2 = 0 by omega]
          rfl
        rw [b1, cond_false, ih, hsq, show 2 * (e / 2) = e by omega]
theorem inv82 : 82 ^ (nBnP - 2) % nBnP = 7207104360239761353666499452706663748717078063988307791373219794578306190631 := (Zk0 nBnP 256 82 (nBnP - 2) (by decide +kernel)).symm.trans (by decide +kernel)
theorem Zk1 (w : World) (cv u : Value) {d : Nat} (hC : CF w cv 4 nBnP d) (hu : LL w u 4 [9, 1]) : Calls Tryz.prog 93 #[cv, u] w fun r w' => (∃ v', r = .returned v' ∧ LL w' v' 4 [21087453498479301738505683583845423561061080261299122796980902361914303298513, 14681138511599513868579906292550611339979233093309515871315818100066920017952]) ∧ Below w.heap.size w w' := by
  have h := cinv_2 hFM4 9 1 (by decide +kernel) (by decide +kernel) w cv u hC hu
  have e : (9 * 9 % nBnP + 1 * 1 % nBnP) % nBnP = 82 := by decide +kernel
  rw [e, inv82] at h
  have e0 : 9 * 7207104360239761353666499452706663748717078063988307791373219794578306190631 % nBnP = 21087453498479301738505683583845423561061080261299122796980902361914303298513 := by decide +kernel
  have e1 : (0 + (nBnP - 1 * 7207104360239761353666499452706663748717078063988307791373219794578306190631 % nBnP)) % nBnP = 14681138511599513868579906292550611339979233093309515871315818100066920017952 := by decide +kernel
  rw [e0, e1] at h
  exact h
theorem Zk2 (w : World) (cv u v : Value) {d : Nat} (hC : CF w cv 4 nBnP d) (hu : LL w u 4 [3, 0]) (hv : LL w v 4 [21087453498479301738505683583845423561061080261299122796980902361914303298513, 14681138511599513868579906292550611339979233093309515871315818100066920017952]) : Calls Tryz.prog 92 #[cv, u, v] w fun r w' => (∃ v', r = .returned v' ∧ LL w' v' 4 [19485874751759354771024239261021720505790618469301721065564631296452457478373, 266929791119991161246907387137283842545076965332900288569378510910307636690]) ∧ Below w.heap.size w w' := by
  have h := cmul_2 hFM4 3 0 21087453498479301738505683583845423561061080261299122796980902361914303298513 14681138511599513868579906292550611339979233093309515871315818100066920017952 (by decide +kernel) (by decide +kernel) (by decide +kernel) (by decide +kernel) w cv u v hC hu hv
  have e0 : (3 * 21087453498479301738505683583845423561061080261299122796980902361914303298513 % nBnP + (nBnP - 0 * 14681138511599513868579906292550611339979233093309515871315818100066920017952 % nBnP)) % nBnP = 19485874751759354771024239261021720505790618469301721065564631296452457478373 := by decide +kernel
  have e1 : (3 * 14681138511599513868579906292550611339979233093309515871315818100066920017952 % nBnP + 0 * 21087453498479301738505683583845423561061080261299122796980902361914303298513 % nBnP) % nBnP = 266929791119991161246907387137283842545076965332900288569378510910307636690 := by decide +kernel
  rw [e0, e1] at h
  exact h
theorem Zj0 (w : World) : Calls Tryz.prog 21 #[] w fun r w' => (∃ v', r = .returned v' ∧ CC w' v' 4 nBnP 2 ([19485874751759354771024239261021720505790618469301721065564631296452457478373, 266929791119991161246907387137283842545076965332900288569378510910307636690]) nBnR ([10857046999023057135944570762232829481370756359578518086990519993285655852781, 11559732032986387107991004021392285783925812861821192530917403151452391805634]) ([8495653923123431417604973247489272438418190587263600148770280649306958101930, 4082367875863433681332203403145435568316851327593401208105741076214120093531])) ∧ Below w.heap.size w w' := by
 have HB : Hid (Up w w) := Below.refl _ _
 go_enter Tryz.func21, Tryz.ntmps21
 refine Zby 34 [] rfl trivial (fun L hL hK => ?_)
 refine Zad (fun K1 HK1 => ?_)
 have up : ∀ V, Up w V → Up w V := fun _ h => HB.out.trans (h.mono HB.out.size)
 refine ZaP [.pr (NB w.heap.size #[.slice none 0 0, .int .u64 0, .slice none 0 0, .int .i64 0, .slice none 0 0, .slice none 0 0, .slice none 0 0, .slice none 0 0, .bool false] 44)] [0] hL hK ⟨Zbb _ _ _, trivial⟩
   ⟨ok_x [] hK (fun V h => ⟨_, _, ZaY rfl (al44 _), Zay _ _, _, rfl, h.size, ⟨Zaf _ _⟩⟩),
   trivial⟩ ?_
 rintro W1 h _ ⟨B1, rfl, lB1, hB1⟩ L1 hL1 hK1
 have LB1 := hideP (Nat.le_trans HB.out.size lB1)
 clear lB1
 replace HB := hideP (up _ h)
 have HB1 := hideP hB1
 clear hB1
 have hK2 := hK1.to [(0, .pointer (some ⟨B1, 0, none⟩))] (by kernel_rfl)
 clear up h hK1 hK hL L
 revert L1
 intro L hL hK
 refine HK1.out _ _ ?_
 clear HK1 K1
 refine Zad (fun K2 HK2 => ?_)
 have up : ∀ V, Up W1 V → Up w V := fun _ h => HB.out.trans (h.mono HB.out.size)
 refine ZaL [.pr (fun zv zw => LW zw zv (4) (limb nBnP)), .pr (fun zv zw => FG zw zv (4) (nBnP)), .pr (NB W1.heap.size #[.slice none 0 0, .int .u64 0, .slice none 0 0] 39)] [0, 1, 5] hL hK ⟨Za2 _ _, Zfl _ _, Zbb _ _ _, trivial⟩
   ⟨ok_c [] (en Tryz.func87) hK (fun V h => ZjB _),
   ok_c [.pr (fun zv zw => LW zw zv (4) (limb nBnP))] (en Tryz.func86) hK (fun V h u1 q1 => Zhc (by decide) hFM4 _ _ q1),
   ok_x [] hK (fun V h => ⟨_, _, ZaY rfl (al39 _), Zay _ _, _, rfl, h.size, ⟨Zaf _ _⟩⟩),
   trivial⟩ ?_
 rintro W2 h v2 pv2 _ ⟨⟨mz3, fz3, tz3, rfl, hFz3, hMz3, h1z3⟩⟩ _ ⟨B4, rfl, lB4, hB4⟩ L1 hL1 hK1
 have LB4 := hideP (Nat.le_trans HB.out.size lB4)
 have nB4_B1 : B1 ≠ B4 := by have := HB1.out.lt; omega
 clear lB4
 replace HB := hideP (up _ h)
 replace HB1 := hideP (HB1.out.moved h)
 have Fv2 := hideP pv2
 clear pv2
 have HFFz3 : Hid (FF W2 (.agg #[mz3, .int .u64 (fz3 : Int), tz3]) (4) (nBnP)) := hFz3
 clear hFz3
 have HMVz3 : Hid (LW W2 mz3 (4) (limb (nBnP))) := hMz3
 clear hMz3
 have HOz3 : Hid (Value.oneCell' tz3 = true) := h1z3
 clear h1z3
 have HB4 := hideP hB4
 clear hB4
 have hK2 := hK1.to [(0, .pointer (some ⟨B1, 0, none⟩)), (1, .pointer (some ⟨B4, 0, none⟩)), (5, .agg #[mz3, .int .u64 (fz3 : Int), tz3])] (by kernel_rfl)
 clear up h hK1 hK hL L
 revert L1
 intro L hL hK
 refine ZbR rfl rfl 39 _ _ rfl rfl B4 0 #[.slice none 0 0, .int .u64 0, .slice none 0 0] [mz3, .int .u64 (fz3 : Int), tz3] 39 (Zaw (hK.get rfl)) (Zaw (hK.get rfl)) (rfl) HB4.out (Nat.le_of_ble_eq_true rfl) info39 ⟨HMVz3.out.oneC, rfl, HOz3.out, trivial⟩ (fun W3 hb9 hx9 => ?_)
 have hs9 := Zbp HB4.out (by kernel_rfl) hb9 hx9
 replace Fv2 := hideP (Fv2.out.safe (by decide) hs9)
 replace HFFz3 := hideP (HFFz3.out.safe (by decide) hs9)
 replace HMVz3 := hideP (HMVz3.out.safe (by decide) hs9)
 replace HB1 := hideP (HB1.out.but hb9 nB4_B1)
 replace HB := hideP (HB.out.trans (hb9.below.mono LB4.out))
 rw [show putAll _ _ _ = #[mz3, .int .u64 (fz3 : Int), tz3] by kernel_rfl] at hx9
 replace HB4 := hideP hx9
 clear hs9 hb9 hx9
 refine HK2.out _ _ ?_
 clear HK2 K2
 refine Zad (fun K3 HK3 => ?_)
 have up : ∀ V, Up W3 V → Up w V := fun _ h => HB.out.trans (h.mono HB.out.size)
 refine ZaL [.ex (.agg #[mz3, .int .u64 (fz3 : Int), tz3]), .pr (fun zv zw => LW zw zv (4) (limb nBnR)), .pr (fun zv zw => DC zw zv (4) (nBnP) 2 (nBnR)), .pr (NB W3.heap.size #[.slice none 0 0, .int .u64 0, .slice none 0 0, .int .i64 0, .slice none 0 0, .slice none 0 0, .slice none 0 0, .slice none 0 0, .bool false] 44)] [0, 1, 2, 8] hL hK ⟨Za2 _ _, Zkg _ _ _ _, Zbb _ _ _, trivial⟩
   ⟨ZaZ 0 hK (fun V h => HB4.out.moved h) ZaU info39,
   ok_c [] (en Tryz.func69) hK (fun V h => ZjC _),
   ok_x [.ex (.agg #[mz3, .int .u64 (fz3 : Int), tz3]), .ex (.int .i64 2), .pr (fun zv zw => LW zw zv (4) (limb nBnR))] hK (fun V h u1 q1 => ⟨_, _, ZbT (vs := #[(0, .agg #[mz3, .int .u64 (fz3 : Int), tz3]), (1, .int .i64 2), (3, u1)]) rfl (by kernel_rfl) (bd_cv2 2 (LW.isSlice q1) _), Below.refl _ _, ⟨_, _, _, _, rfl, (HFFz3.out.moved h), (HMVz3.out.moved h), q1, ⟨_, _, _, _, _, _, _, _, rfl, (HFFz3.out.moved h), (HMVz3.out.moved h)⟩⟩⟩),
   ok_x [] hK (fun V h => ⟨_, _, ZaY rfl (al44 _), Zay _ _, _, rfl, h.size, ⟨Zaf _ _⟩⟩),
   trivial⟩ ?_
 rintro W4 h v5 pv5 _ ⟨⟨mz6, fz6, tz6, rz6, rfl, hFz6, hMz6, hRz6, hCz6⟩⟩ _ ⟨B7, rfl, lB7, hB7⟩ L1 hL1 hK1
 have LB7 := hideP (Nat.le_trans HB.out.size lB7)
 have nB7_B1 : B1 ≠ B7 := by have := HB1.out.lt; omega
 have nB7_B4 : B4 ≠ B7 := by have := HB4.out.lt; omega
 clear lB7
 replace HB := hideP (up _ h)
 replace Fv2 := hideP (Fv2.out.moved h)
 replace HFFz3 := hideP (HFFz3.out.moved h)
 replace HMVz3 := hideP (HMVz3.out.moved h)
 replace HB1 := hideP (HB1.out.moved h)
 replace HB4 := hideP (HB4.out.moved h)
 have Fv5 := hideP pv5
 clear pv5
 have HFFz6 : Hid (FF W4 (.agg #[mz6, .int .u64 (fz6 : Int), tz6]) (4) (nBnP)) := hFz6
 clear hFz6
 have HMVz6 : Hid (LW W4 mz6 (4) (limb (nBnP))) := hMz6
 clear hMz6
 have HRz6 : Hid (LW W4 rz6 (4) (limb (nBnR))) := hRz6
 clear hRz6
 have HCFz6 : Hid (CF W4 (.agg #[mz6, .int .u64 (fz6 : Int), tz6, .int .i64 2, .slice none 0 0, rz6, .slice none 0 0, .slice none 0 0, .bool false]) (4) (nBnP) (2)) := hCz6
 clear hCz6
 have HB7 := hideP hB7
 clear hB7
 have hK2 := hK1.to [(0, .pointer (some ⟨B1, 0, none⟩)), (1, .pointer (some ⟨B4, 0, none⟩)), (2, .pointer (some ⟨B7, 0, none⟩)), (8, .agg #[mz6, .int .u64 (fz6 : Int), tz6, .int .i64 2, .slice none 0 0, rz6, .slice none 0 0, .slice none 0 0, .bool false])] (by kernel_rfl)
 clear up h hK1 hK hL L
 revert L1
 intro L hL hK
 refine ZbR rfl rfl 44 _ _ rfl rfl B7 0 #[.slice none 0 0, .int .u64 0, .slice none 0 0, .int .i64 0, .slice none 0 0, .slice none 0 0, .slice none 0 0, .slice none 0 0, .bool false] [mz6, .int .u64 (fz6 : Int), tz6, .int .i64 2, .slice none 0 0, rz6, .slice none 0 0, .slice none 0 0, .bool false] 44 (Zaw (hK.get rfl)) (Zaw (hK.get rfl)) (rfl) HB7.out (Nat.le_of_ble_eq_true rfl) info44 ⟨HMVz6.out.oneC, rfl, (FF.oneT HFFz6.out), rfl, rfl, HRz6.out.oneC, rfl, rfl, rfl, trivial⟩ (fun W5 hb9 hx9 => ?_)
 have hs9 := Zbp HB7.out (by kernel_rfl) hb9 hx9
 replace Fv2 := hideP (Fv2.out.safe (by decide) hs9)
 replace HFFz3 := hideP (HFFz3.out.safe (by decide) hs9)
 replace HMVz3 := hideP (HMVz3.out.safe (by decide) hs9)
 replace Fv5 := hideP (Fv5.out.safe (by decide) hs9)
 replace HFFz6 := hideP (HFFz6.out.safe (by decide) hs9)
 replace HMVz6 := hideP (HMVz6.out.safe (by decide) hs9)
 replace HRz6 := hideP (HRz6.out.safe (by decide) hs9)
 replace HCFz6 := hideP (HCFz6.out.safe (by decide) hs9)
 replace HB1 := hideP (HB1.out.but hb9 nB7_B1)
 replace HB4 := hideP (HB4.out.but hb9 nB7_B4)
 replace HB := hideP (HB.out.trans (hb9.below.mono LB7.out))
 rw [show putAll _ _ _ = #[mz6, .int .u64 (fz6 : Int), tz6, .int .i64 2, .slice none 0 0, rz6, .slice none 0 0, .slice none 0 0, .bool false] by kernel_rfl] at hx9
 replace HB7 := hideP hx9
 clear hs9 hb9 hx9
 refine HK3.out _ _ ?_
 clear HK3 K3
 refine Zad (fun K4 HK4 => ?_)
 have up : ∀ V, Up W5 V → Up w V := fun _ h => HB.out.trans (h.mono HB.out.size)
 refine ZaP [.ex (.agg #[mz3, .int .u64 (fz3 : Int), tz3]), .pr (fun zv zw => LW zw zv (4) (limb 3)), .ex (.agg #[mz3, .int .u64 (fz3 : Int), tz3]), .pr (fun zv zw => LW zw zv (4) (limb 0)), .pr (fun zv zw => LL zw zv (4) ([3, 0])), .pr (fun zv zw => LL zw zv (4) ([3, 0]))] [0, 1, 2, 3] hL hK ⟨Za2 _ _, Za2 _ _, Zbd _ _, Zbd _ _, trivial⟩
   ⟨ZaZ 0 hK (fun V h => HB4.out.moved h) ZaU info39,
   ok_c [.ex (.agg #[mz3, .int .u64 (fz3 : Int), tz3]), .ex (.int .u64 3)] (en Tryz.func88) hK (fun V h => ZbA hFM4 3 (by decide) _ _ (HFFz3.out.moved h)),
   ZaZ 0 hK (fun V h => HB4.out.moved h) ZaU info39,
   ok_c [.ex (.agg #[mz3, .int .u64 (fz3 : Int), tz3]), .ex (.int .u64 0)] (en Tryz.func88) hK (fun V h => ZbA hFM4 0 (by decide) _ _ (HFFz3.out.moved h)),
   ok_x [.pr (fun zv zw => LW zw zv (4) (limb 3)), .pr (fun zv zw => LW zw zv (4) (limb 0))] hK (fun V h u1 q1 u2 q2 => ⟨_, _, Zdg (vs := #[(0, u1), (1, u2)]) rfl (by kernel_rfl) (bs2 _ (LW.isSlice q1) (LW.isSlice q2)), Zay _ _, LL.mk2 q1 q2⟩),
   ok_x [.pr (fun zv zw => LL zw zv (4) ([3, 0]))] hK (fun V h u q => ⟨_, _, Zbs rfl rfl, Below.refl _ _, q⟩),
   trivial⟩ ?_
 rintro W6 h v8 pv8 v9 pv9 v10 pv10 v11 pv11 L1 hL1 hK1
 replace HB := hideP (up _ h)
 replace Fv2 := hideP (Fv2.out.moved h)
 replace HFFz3 := hideP (HFFz3.out.moved h)
 replace HMVz3 := hideP (HMVz3.out.moved h)
 replace Fv5 := hideP (Fv5.out.moved h)
 replace HFFz6 := hideP (HFFz6.out.moved h)
 replace HMVz6 := hideP (HMVz6.out.moved h)
 replace HRz6 := hideP (HRz6.out.moved h)
 replace HCFz6 := hideP (HCFz6.out.moved h)
 replace HB1 := hideP (HB1.out.moved h)
 replace HB4 := hideP (HB4.out.moved h)
 replace HB7 := hideP (HB7.out.moved h)
 have Fv8 := hideP pv8
 clear pv8
 have Fv9 := hideP pv9
 clear pv9
 have Fv10 := hideP pv10
 clear pv10
 have Fv11 := hideP pv11
 clear pv11
 have hK2 := hK1.to [(0, .pointer (some ⟨B1, 0, none⟩)), (1, .pointer (some ⟨B4, 0, none⟩)), (2, .pointer (some ⟨B7, 0, none⟩)), (3, v11)] (by kernel_rfl)
 clear up h hK1 hK hL L
 revert L1
 intro L hL hK
 refine HK4.out _ _ ?_
 clear HK4 K4
 refine Zad (fun K5 HK5 => ?_)
 have up : ∀ V, Up W6 V → Up w V := fun _ h => HB.out.trans (h.mono HB.out.size)
 refine ZaL [.ex (.agg #[mz6, .int .u64 (fz6 : Int), tz6, .int .i64 2, .slice none 0 0, rz6, .slice none 0 0, .slice none 0 0, .bool false]), .ex (v11), .ex (.agg #[mz6, .int .u64 (fz6 : Int), tz6, .int .i64 2, .slice none 0 0, rz6, .slice none 0 0, .slice none 0 0, .bool false]), .ex (.agg #[mz3, .int .u64 (fz3 : Int), tz3]), .pr (fun zv zw => LW zw zv (4) (limb 9)), .ex (.agg #[mz3, .int .u64 (fz3 : Int), tz3]), .pr (fun zv zw => LW zw zv (4) (limb 1)), .pr (fun zv zw => LL zw zv (4) ([9, 1])), .pr (fun zv zw => LL zw zv (4) ([21087453498479301738505683583845423561061080261299122796980902361914303298513, 14681138511599513868579906292550611339979233093309515871315818100066920017952])), .pr (fun zv zw => LL zw zv (4) ([19485874751759354771024239261021720505790618469301721065564631296452457478373, 266929791119991161246907387137283842545076965332900288569378510910307636690])), .ex (.pointer (some ⟨B7, 4, none⟩))] [0, 2, 23, 24] hL hK ⟨Za2 _ _, Za2 _ _, Zbd _ _, Zbd _ _, Zbd _ _, trivial⟩
   ⟨ZaZ 0 hK (fun V h => HB7.out.moved h) Zdh info44,
   ok_q hK,
   ZaZ 0 hK (fun V h => HB7.out.moved h) Zdh info44,
   ZaZ 0 hK (fun V h => HB4.out.moved h) ZaU info39,
   ok_c [.ex (.agg #[mz3, .int .u64 (fz3 : Int), tz3]), .ex (.int .u64 9)] (en Tryz.func88) hK (fun V h => ZbA hFM4 9 (by decide) _ _ (HFFz3.out.moved h)),
   ZaZ 0 hK (fun V h => HB4.out.moved h) ZaU info39,
   ok_c [.ex (.agg #[mz3, .int .u64 (fz3 : Int), tz3]), .ex (.int .u64 1)] (en Tryz.func88) hK (fun V h => ZbA hFM4 1 (by decide) _ _ (HFFz3.out.moved h)),
   ok_x [.pr (fun zv zw => LW zw zv (4) (limb 9)), .pr (fun zv zw => LW zw zv (4) (limb 1))] hK (fun V h u1 q1 u2 q2 => ⟨_, _, Zdg (vs := #[(0, u1), (1, u2)]) rfl (by kernel_rfl) (bs2 _ (LW.isSlice q1) (LW.isSlice q2)), Zay _ _, LL.mk2 q1 q2⟩),
   ok_c [.ex (.agg #[mz6, .int .u64 (fz6 : Int), tz6, .int .i64 2, .slice none 0 0, rz6, .slice none 0 0, .slice none 0 0, .bool false]), .pr (fun zv zw => LL zw zv (4) ([9, 1]))] (en Tryz.func93) hK (fun V h u1 q1 => Zk1 _ _ _ (HCFz6.out.moved h) q1),
   ok_c [.ex (.agg #[mz6, .int .u64 (fz6 : Int), tz6, .int .i64 2, .slice none 0 0, rz6, .slice none 0 0, .slice none 0 0, .bool false]), .ex (v11), .pr (fun zv zw => LL zw zv (4) ([21087453498479301738505683583845423561061080261299122796980902361914303298513, 14681138511599513868579906292550611339979233093309515871315818100066920017952]))] (en Tryz.func92) hK (fun V h u1 q1 => Zk2 _ _ _ _ (HCFz6.out.moved h) (Fv11.out.moved h) q1),
   ok_q hK,
   trivial⟩ ?_
 rintro W7 h v12 pv12 v13 pv13 v14 pv14 v15 pv15 v16 pv16 L1 hL1 hK1
 replace HB := hideP (up _ h)
 replace Fv2 := hideP (Fv2.out.moved h)
 replace HFFz3 := hideP (HFFz3.out.moved h)
 replace HMVz3 := hideP (HMVz3.out.moved h)
 replace Fv5 := hideP (Fv5.out.moved h)
 replace HFFz6 := hideP (HFFz6.out.moved h)
 replace HMVz6 := hideP (HMVz6.out.moved h)
 replace HRz6 := hideP (HRz6.out.moved h)
 replace HCFz6 := hideP (HCFz6.out.moved h)
 replace Fv8 := hideP (Fv8.out.moved h)
 replace Fv9 := hideP (Fv9.out.moved h)
 replace Fv10 := hideP (Fv10.out.moved h)
 replace Fv11 := hideP (Fv11.out.moved h)
 replace HB1 := hideP (HB1.out.moved h)
 replace HB4 := hideP (HB4.out.moved h)
 replace HB7 := hideP (HB7.out.moved h)
 have Fv12 := hideP pv12
 clear pv12
 have Fv13 := hideP pv13
 clear pv13
 have Fv14 := hideP pv14
 clear pv14
 have Fv15 := hideP pv15
 clear pv15
 have Fv16 := hideP pv16
 clear pv16
 have hK2 := hK1.to [(0, .pointer (some ⟨B1, 0, none⟩)), (2, .pointer (some ⟨B7, 0, none⟩)), (23, v16), (24, .pointer (some ⟨B7, 4, none⟩))] (by kernel_rfl)
 clear up h hK1 hK hL L
 revert L1
 intro L hL hK
 refine ZbR rfl rfl 40 _ _ rfl rfl B7 4 #[mz6, .int .u64 (fz6 : Int), tz6, .int .i64 2, .slice none 0 0, rz6, .slice none 0 0, .slice none 0 0, .bool false] [v16] 44 (Zaw (hK.get rfl)) (Zaw (hK.get rfl)) (Fv16.out.isSlice) HB7.out (Nat.le_of_ble_eq_true rfl) (by kernel_rfl) ⟨Fv16.out.oneC, trivial⟩ (fun W8 hb9 hx9 => ?_)
 have hs9 := Zbp HB7.out (by kernel_rfl) hb9 hx9
 replace Fv2 := hideP (Fv2.out.safe (by decide) hs9)
 replace HFFz3 := hideP (HFFz3.out.safe (by decide) hs9)
 replace HMVz3 := hideP (HMVz3.out.safe (by decide) hs9)
 replace Fv5 := hideP (Fv5.out.safe (by decide) hs9)
 replace HFFz6 := hideP (HFFz6.out.safe (by decide) hs9)
 replace HMVz6 := hideP (HMVz6.out.safe (by decide) hs9)
 replace HRz6 := hideP (HRz6.out.safe (by decide) hs9)
 replace HCFz6 := hideP (HCFz6.out.safe (by decide) hs9)
 replace Fv8 := hideP (Fv8.out.safe (by decide) hs9)
 replace Fv9 := hideP (Fv9.out.safe (by decide) hs9)
 replace Fv10 := hideP (Fv10.out.safe (by decide) hs9)
 replace Fv11 := hideP (Fv11.out.safe (by decide) hs9)
 replace Fv12 := hideP (Fv12.out.safe (by decide) hs9)
 replace Fv13 := hideP (Fv13.out.safe (by decide) hs9)
 replace Fv14 := hideP (Fv14.out.safe (by decide) hs9)
 replace Fv15 := hideP (Fv15.out.safe (by decide) hs9)
 replace Fv16 := hideP (Fv16.out.safe (by decide) hs9)
 replace HB1 := hideP (HB1.out.but hb9 nB7_B1)
 replace HB4 := hideP (HB4.out.but hb9 nB7_B4)
 replace HB := hideP (HB.out.trans (hb9.below.mono LB7.out))
 rw [show putAll _ _ _ = #[mz6, .int .u64 (fz6 : Int), tz6, .int .i64 2, v16, rz6, .slice none 0 0, .slice none 0 0, .bool false] by kernel_rfl] at hx9
 replace HB7 := hideP hx9
 clear hs9 hb9 hx9
 refine HK5.out _ _ ?_
 clear HK5 K5
 refine Zad (fun K6 HK6 => ?_)
 have up : ∀ V, Up W8 V → Up w V := fun _ h => HB.out.trans (h.mono HB.out.size)
 refine ZaL [.pr (fun zv zw => LW zw zv (4) (limb 10857046999023057135944570762232829481370756359578518086990519993285655852781)), .pr (fun zv zw => LW zw zv (4) (limb 11559732032986387107991004021392285783925812861821192530917403151452391805634)), .pr (fun zv zw => LL zw zv (4) ([10857046999023057135944570762232829481370756359578518086990519993285655852781, 11559732032986387107991004021392285783925812861821192530917403151452391805634])), .pr (fun zv zw => LW zw zv (4) (limb 8495653923123431417604973247489272438418190587263600148770280649306958101930)), .pr (fun zv zw => LW zw zv (4) (limb 4082367875863433681332203403145435568316851327593401208105741076214120093531)), .pr (fun zv zw => LL zw zv (4) ([8495653923123431417604973247489272438418190587263600148770280649306958101930, 4082367875863433681332203403145435568316851327593401208105741076214120093531])), .pr (fun zv zw => PT zw zv (4) ([10857046999023057135944570762232829481370756359578518086990519993285655852781, 11559732032986387107991004021392285783925812861821192530917403151452391805634]) ([8495653923123431417604973247489272438418190587263600148770280649306958101930, 4082367875863433681332203403145435568316851327593401208105741076214120093531]) false), .ex (.pointer (some ⟨B7, 6, none⟩))] [0, 2, 31, 32] hL hK ⟨Za2 _ _, Za2 _ _, Zbd _ _, Za2 _ _, Za2 _ _, Zbd _ _, ZcH _ _ _ _, trivial⟩
   ⟨ok_c [.ex (.string ⟨(49 :: 56 :: 48 :: 48 :: 100 :: 101 :: 101 :: 102 :: 49 :: 50 :: 49 :: 102 :: 49 :: 101 :: 55 :: 54 :: 52 :: 50 :: 54 :: 97 :: 48 :: 48 :: 54 :: 54 :: 53 :: 101 :: 53 :: 99 :: 52 :: 52 :: 55 :: 57 :: 54 :: 55 :: 52 :: 51 :: 50 :: 50 :: 100 :: 52 :: 102 :: 55 :: 53 :: 101 :: 100 :: 97 :: 100 :: 100 :: 52 :: 54 :: 100 :: 101 :: 98 :: 100 :: 53 :: 99 :: 100 :: 57 :: 57 :: 50 :: 102 :: 54 :: 101 :: 100 :: []).toArray⟩), .ex (.int .i64 4)] (en Tryz.func94) hK (fun V h => Zhb ⟨(49 :: 56 :: 48 :: 48 :: 100 :: 101 :: 101 :: 102 :: 49 :: 50 :: 49 :: 102 :: 49 :: 101 :: 55 :: 54 :: 52 :: 50 :: 54 :: 97 :: 48 :: 48 :: 54 :: 54 :: 53 :: 101 :: 53 :: 99 :: 52 :: 52 :: 55 :: 57 :: 54 :: 55 :: 52 :: 51 :: 50 :: 50 :: 100 :: 52 :: 102 :: 55 :: 53 :: 101 :: 100 :: 97 :: 100 :: 100 :: 52 :: 54 :: 100 :: 101 :: 98 :: 100 :: 53 :: 99 :: 100 :: 57 :: 57 :: 50 :: 102 :: 54 :: 101 :: 100 :: []).toArray⟩ 10857046999023057135944570762232829481370756359578518086990519993285655852781 (by unfold Zbg; decide +kernel) (by decide) (by decide +kernel) _),
   ok_c [.ex (.string ⟨(49 :: 57 :: 56 :: 101 :: 57 :: 51 :: 57 :: 51 :: 57 :: 50 :: 48 :: 100 :: 52 :: 56 :: 51 :: 97 :: 55 :: 50 :: 54 :: 48 :: 98 :: 102 :: 98 :: 55 :: 51 :: 49 :: 102 :: 98 :: 53 :: 100 :: 50 :: 53 :: 102 :: 49 :: 97 :: 97 :: 52 :: 57 :: 51 :: 51 :: 51 :: 53 :: 97 :: 57 :: 101 :: 55 :: 49 :: 50 :: 57 :: 55 :: 101 :: 52 :: 56 :: 53 :: 98 :: 55 :: 97 :: 101 :: 102 :: 51 :: 49 :: 50 :: 99 :: 50 :: []).toArray⟩), .ex (.int .i64 4)] (en Tryz.func94) hK (fun V h => Zhb ⟨(49 :: 57 :: 56 :: 101 :: 57 :: 51 :: 57 :: 51 :: 57 :: 50 :: 48 :: 100 :: 52 :: 56 :: 51 :: 97 :: 55 :: 50 :: 54 :: 48 :: 98 :: 102 :: 98 :: 55 :: 51 :: 49 :: 102 :: 98 :: 53 :: 100 :: 50 :: 53 :: 102 :: 49 :: 97 :: 97 :: 52 :: 57 :: 51 :: 51 :: 51 :: 53 :: 97 :: 57 :: 101 :: 55 :: 49 :: 50 :: 57 :: 55 :: 101 :: 52 :: 56 :: 53 :: 98 :: 55 :: 97 :: 101 :: 102 :: 51 :: 49 :: 50 :: 99 :: 50 :: []).toArray⟩ 11559732032986387107991004021392285783925812861821192530917403151452391805634 (by unfold Zbg; decide +kernel) (by decide) (by decide +kernel) _),
   ok_x [.pr (fun zv zw => LW zw zv (4) (limb 10857046999023057135944570762232829481370756359578518086990519993285655852781)), .pr (fun zv zw => LW zw zv (4) (limb 11559732032986387107991004021392285783925812861821192530917403151452391805634))] hK (fun V h u1 q1 u2 q2 => ⟨_, _, Zdg (vs := #[(0, u1), (1, u2)]) rfl (by kernel_rfl) (bs2 _ (LW.isSlice q1) (LW.isSlice q2)), Zay _ _, LL.mk2 q1 q2⟩),
   ok_c [.ex (.string ⟨(49 :: 50 :: 99 :: 56 :: 53 :: 101 :: 97 :: 53 :: 100 :: 98 :: 56 :: 99 :: 54 :: 100 :: 101 :: 98 :: 52 :: 97 :: 97 :: 98 :: 55 :: 49 :: 56 :: 48 :: 56 :: 100 :: 99 :: 98 :: 52 :: 48 :: 56 :: 102 :: 101 :: 51 :: 100 :: 49 :: 101 :: 55 :: 54 :: 57 :: 48 :: 99 :: 52 :: 51 :: 100 :: 51 :: 55 :: 98 :: 52 :: 99 :: 101 :: 54 :: 99 :: 99 :: 48 :: 49 :: 54 :: 54 :: 102 :: 97 :: 55 :: 100 :: 97 :: 97 :: []).toArray⟩), .ex (.int .i64 4)] (en Tryz.func94) hK (fun V h => Zhb ⟨(49 :: 50 :: 99 :: 56 :: 53 :: 101 :: 97 :: 53 :: 100 :: 98 :: 56 :: 99 :: 54 :: 100 :: 101 :: 98 :: 52 :: 97 :: 97 :: 98 :: 55 :: 49 :: 56 :: 48 :: 56 :: 100 :: 99 :: 98 :: 52 :: 48 :: 56 :: 102 :: 101 :: 51 :: 100 :: 49 :: 101 :: 55 :: 54 :: 57 :: 48 :: 99 :: 52 :: 51 :: 100 :: 51 :: 55 :: 98 :: 52 :: 99 :: 101 :: 54 :: 99 :: 99 :: 48 :: 49 :: 54 :: 54 :: 102 :: 97 :: 55 :: 100 :: 97 :: 97 :: []).toArray⟩ 8495653923123431417604973247489272438418190587263600148770280649306958101930 (by unfold Zbg; decide +kernel) (by decide) (by decide +kernel) _),
   ok_c [.ex (.string ⟨(48 :: 57 :: 48 :: 54 :: 56 :: 57 :: 100 :: 48 :: 53 :: 56 :: 53 :: 102 :: 102 :: 48 :: 55 :: 53 :: 101 :: 99 :: 57 :: 101 :: 57 :: 57 :: 97 :: 100 :: 54 :: 57 :: 48 :: 99 :: 51 :: 51 :: 57 :: 53 :: 98 :: 99 :: 52 :: 98 :: 51 :: 49 :: 51 :: 51 :: 55 :: 48 :: 98 :: 51 :: 56 :: 101 :: 102 :: 51 :: 53 :: 53 :: 97 :: 99 :: 100 :: 97 :: 100 :: 99 :: 100 :: 49 :: 50 :: 50 :: 57 :: 55 :: 53 :: 98 :: []).toArray⟩), .ex (.int .i64 4)] (en Tryz.func94) hK (fun V h => Zhb ⟨(48 :: 57 :: 48 :: 54 :: 56 :: 57 :: 100 :: 48 :: 53 :: 56 :: 53 :: 102 :: 102 :: 48 :: 55 :: 53 :: 101 :: 99 :: 57 :: 101 :: 57 :: 57 :: 97 :: 100 :: 54 :: 57 :: 48 :: 99 :: 51 :: 51 :: 57 :: 53 :: 98 :: 99 :: 52 :: 98 :: 51 :: 49 :: 51 :: 51 :: 55 :: 48 :: 98 :: 51 :: 56 :: 101 :: 102 :: 51 :: 53 :: 53 :: 97 :: 99 :: 100 :: 97 :: 100 :: 99 :: 100 :: 49 :: 50 :: 50 :: 57 :: 55 :: 53 :: 98 :: []).toArray⟩ 4082367875863433681332203403145435568316851327593401208105741076214120093531 (by unfold Zbg; decide +kernel) (by decide) (by decide +kernel) _),
   ok_x [.pr (fun zv zw => LW zw zv (4) (limb 8495653923123431417604973247489272438418190587263600148770280649306958101930)), .pr (fun zv zw => LW zw zv (4) (limb 4082367875863433681332203403145435568316851327593401208105741076214120093531))] hK (fun V h u1 q1 u2 q2 => ⟨_, _, Zdg (vs := #[(0, u1), (1, u2)]) rfl (by kernel_rfl) (bs2 _ (LW.isSlice q1) (LW.isSlice q2)), Zay _ _, LL.mk2 q1 q2⟩),
   ok_x [.pr (fun zv zw => LL zw zv (4) ([10857046999023057135944570762232829481370756359578518086990519993285655852781, 11559732032986387107991004021392285783925812861821192530917403151452391805634])), .pr (fun zv zw => LL zw zv (4) ([8495653923123431417604973247489272438418190587263600148770280649306958101930, 4082367875863433681332203403145435568316851327593401208105741076214120093531]))] hK (fun V h u1 q1 u2 q2 => ⟨_, _, ZbT (vs := #[(0, u1), (1, u2)]) rfl (by kernel_rfl) (Zha (LL.isSlice q1) (LL.isSlice q2) _), Below.refl _ _, ⟨_, _, rfl, q1, q2⟩⟩),
   ok_q hK,
   trivial⟩ ?_
 rintro W9 h v17 pv17 v18 pv18 v19 pv19 v20 pv20 v21 pv21 v22 pv22 _ ⟨⟨xz23, yz23, rfl, hxz23, hyz23⟩⟩ L1 hL1 hK1
 replace HB := hideP (up _ h)
 replace Fv2 := hideP (Fv2.out.moved h)
 replace HFFz3 := hideP (HFFz3.out.moved h)
 replace HMVz3 := hideP (HMVz3.out.moved h)
 replace Fv5 := hideP (Fv5.out.moved h)
 replace HFFz6 := hideP (HFFz6.out.moved h)
 replace HMVz6 := hideP (HMVz6.out.moved h)
 replace HRz6 := hideP (HRz6.out.moved h)
 replace HCFz6 := hideP (HCFz6.out.moved h)
 replace Fv8 := hideP (Fv8.out.moved h)
 replace Fv9 := hideP (Fv9.out.moved h)
 replace Fv10 := hideP (Fv10.out.moved h)
 replace Fv11 := hideP (Fv11.out.moved h)
 replace Fv12 := hideP (Fv12.out.moved h)
 replace Fv13 := hideP (Fv13.out.moved h)
 replace Fv14 := hideP (Fv14.out.moved h)
 replace Fv15 := hideP (Fv15.out.moved h)
 replace Fv16 := hideP (Fv16.out.moved h)
 replace HB1 := hideP (HB1.out.moved h)
 replace HB4 := hideP (HB4.out.moved h)
 replace HB7 := hideP (HB7.out.moved h)
 have Fv17 := hideP pv17
 clear pv17
 have Fv18 := hideP pv18
 clear pv18
 have Fv19 := hideP pv19
 clear pv19
 have Fv20 := hideP pv20
 clear pv20
 have Fv21 := hideP pv21
 clear pv21
 have Fv22 := hideP pv22
 clear pv22
 have HXz23 : Hid (LL W9 xz23 (4) ([10857046999023057135944570762232829481370756359578518086990519993285655852781, 11559732032986387107991004021392285783925812861821192530917403151452391805634])) := hxz23
 clear hxz23
 have HYz23 : Hid (LL W9 yz23 (4) ([8495653923123431417604973247489272438418190587263600148770280649306958101930, 4082367875863433681332203403145435568316851327593401208105741076214120093531])) := hyz23
 clear hyz23
 have hK2 := hK1.to [(0, .pointer (some ⟨B1, 0, none⟩)), (2, .pointer (some ⟨B7, 0, none⟩)), (31, .agg #[xz23, yz23, .bool false]), (32, .pointer (some ⟨B7, 6, none⟩))] (by kernel_rfl)
 clear up h hK1 hK hL L
 revert L1
 intro L hL hK
 refine ZbR rfl rfl 42 _ _ rfl rfl B7 6 #[mz6, .int .u64 (fz6 : Int), tz6, .int .i64 2, v16, rz6, .slice none 0 0, .slice none 0 0, .bool false] [xz23, yz23, .bool false] 44 (Zaw (hK.get rfl)) (Zaw (hK.get rfl)) (rfl) HB7.out (Nat.le_of_ble_eq_true rfl) info42 ⟨HXz23.out.oneC, HYz23.out.oneC, rfl, trivial⟩ (fun W10 hb9 hx9 => ?_)
 have hs9 := Zbp HB7.out (by kernel_rfl) hb9 hx9
 replace Fv2 := hideP (Fv2.out.safe (by decide) hs9)
 replace HFFz3 := hideP (HFFz3.out.safe (by decide) hs9)
 replace HMVz3 := hideP (HMVz3.out.safe (by decide) hs9)
 replace Fv5 := hideP (Fv5.out.safe (by decide) hs9)
 replace HFFz6 := hideP (HFFz6.out.safe (by decide) hs9)
 replace HMVz6 := hideP (HMVz6.out.safe (by decide) hs9)
 replace HRz6 := hideP (HRz6.out.safe (by decide) hs9)
 replace HCFz6 := hideP (HCFz6.out.safe (by decide) hs9)
 replace Fv8 := hideP (Fv8.out.safe (by decide) hs9)
 replace Fv9 := hideP (Fv9.out.safe (by decide) hs9)
 replace Fv10 := hideP (Fv10.out.safe (by decide) hs9)
 replace Fv11 := hideP (Fv11.out.safe (by decide) hs9)
 replace Fv12 := hideP (Fv12.out.safe (by decide) hs9)
 replace Fv13 := hideP (Fv13.out.safe (by decide) hs9)
 replace Fv14 := hideP (Fv14.out.safe (by decide) hs9)
 replace Fv15 := hideP (Fv15.out.safe (by decide) hs9)
 replace Fv16 := hideP (Fv16.out.safe (by decide) hs9)
 replace Fv17 := hideP (Fv17.out.safe (by decide) hs9)
 replace Fv18 := hideP (Fv18.out.safe (by decide) hs9)
 replace Fv19 := hideP (Fv19.out.safe (by decide) hs9)
 replace Fv20 := hideP (Fv20.out.safe (by decide) hs9)
 replace Fv21 := hideP (Fv21.out.safe (by decide) hs9)
 replace Fv22 := hideP (Fv22.out.safe (by decide) hs9)
 replace HXz23 := hideP (HXz23.out.safe (by decide) hs9)
 replace HYz23 := hideP (HYz23.out.safe (by decide) hs9)
 replace HB1 := hideP (HB1.out.but hb9 nB7_B1)
 replace HB4 := hideP (HB4.out.but hb9 nB7_B4)
 replace HB := hideP (HB.out.trans (hb9.below.mono LB7.out))
 rw [show putAll _ _ _ = #[mz6, .int .u64 (fz6 : Int), tz6, .int .i64 2, v16, rz6, xz23, yz23, .bool false] by kernel_rfl] at hx9
 replace HB7 := hideP hx9
 clear hs9 hb9 hx9
 refine HK6.out _ _ ?_
 clear HK6 K6
 refine Zad (fun K7 HK7 => ?_)
 have up : ∀ V, Up W10 V → Up w V := fun _ h => HB.out.trans (h.mono HB.out.size)
 refine ZaL [.ex (.agg #[mz6, .int .u64 (fz6 : Int), tz6, .int .i64 2, v16, rz6, xz23, yz23, .bool false])] [0, 33] hL hK trivial
   ⟨ZaZ 0 hK (fun V h => HB7.out.moved h) Zdh info44,
   trivial⟩ ?_
 rintro W11 h  L1 hL1 hK1
 replace HB := hideP (up _ h)
 replace Fv2 := hideP (Fv2.out.moved h)
 replace HFFz3 := hideP (HFFz3.out.moved h)
 replace HMVz3 := hideP (HMVz3.out.moved h)
 replace Fv5 := hideP (Fv5.out.moved h)
 replace HFFz6 := hideP (HFFz6.out.moved h)
 replace HMVz6 := hideP (HMVz6.out.moved h)
 replace HRz6 := hideP (HRz6.out.moved h)
 replace HCFz6 := hideP (HCFz6.out.moved h)
 replace Fv8 := hideP (Fv8.out.moved h)
 replace Fv9 := hideP (Fv9.out.moved h)
 replace Fv10 := hideP (Fv10.out.moved h)
 replace Fv11 := hideP (Fv11.out.moved h)
 replace Fv12 := hideP (Fv12.out.moved h)
 replace Fv13 := hideP (Fv13.out.moved h)
 replace Fv14 := hideP (Fv14.out.moved h)
 replace Fv15 := hideP (Fv15.out.moved h)
 replace Fv16 := hideP (Fv16.out.moved h)
 replace Fv17 := hideP (Fv17.out.moved h)
 replace Fv18 := hideP (Fv18.out.moved h)
 replace Fv19 := hideP (Fv19.out.moved h)
 replace Fv20 := hideP (Fv20.out.moved h)
 replace Fv21 := hideP (Fv21.out.moved h)
 replace Fv22 := hideP (Fv22.out.moved h)
 replace HXz23 := hideP (HXz23.out.moved h)
 replace HYz23 := hideP (HYz23.out.moved h)
 replace HB1 := hideP (HB1.out.moved h)
 replace HB4 := hideP (HB4.out.moved h)
 replace HB7 := hideP (HB7.out.moved h)
 have hK2 := hK1.to [(0, .pointer (some ⟨B1, 0, none⟩)), (33, .agg #[mz6, .int .u64 (fz6 : Int), tz6, .int .i64 2, v16, rz6, xz23, yz23, .bool false])] (by kernel_rfl)
 clear up h hK1 hK hL L
 revert L1
 intro L hL hK
 refine ZbR rfl rfl 44 _ _ rfl rfl B1 0 #[.slice none 0 0, .int .u64 0, .slice none 0 0, .int .i64 0, .slice none 0 0, .slice none 0 0, .slice none 0 0, .slice none 0 0, .bool false] [mz6, .int .u64 (fz6 : Int), tz6, .int .i64 2, v16, rz6, xz23, yz23, .bool false] 44 (Zaw (hK.get rfl)) (Zaw (hK.get rfl)) (rfl) HB1.out (Nat.le_of_ble_eq_true rfl) info44 ⟨HMVz6.out.oneC, rfl, (FF.oneT HFFz6.out), rfl, Fv16.out.oneC, HRz6.out.oneC, HXz23.out.oneC, HYz23.out.oneC, rfl, trivial⟩ (fun W12 hb9 hx9 => ?_)
 have hs9 := Zbp HB1.out (by kernel_rfl) hb9 hx9
 replace Fv2 := hideP (Fv2.out.safe (by decide) hs9)
 replace HFFz3 := hideP (HFFz3.out.safe (by decide) hs9)
 replace HMVz3 := hideP (HMVz3.out.safe (by decide) hs9)
 replace Fv5 := hideP (Fv5.out.safe (by decide) hs9)
 replace HFFz6 := hideP (HFFz6.out.safe (by decide) hs9)
 replace HMVz6 := hideP (HMVz6.out.safe (by decide) hs9)
 replace HRz6 := hideP (HRz6.out.safe (by decide) hs9)
 replace HCFz6 := hideP (HCFz6.out.safe (by decide) hs9)
 replace Fv8 := hideP (Fv8.out.safe (by decide) hs9)
 replace Fv9 := hideP (Fv9.out.safe (by decide) hs9)
 replace Fv10 := hideP (Fv10.out.safe (by decide) hs9)
 replace Fv11 := hideP (Fv11.out.safe (by decide) hs9)
 replace Fv12 := hideP (Fv12.out.safe (by decide) hs9)
 replace Fv13 := hideP (Fv13.out.safe (by decide) hs9)
 replace Fv14 := hideP (Fv14.out.safe (by decide) hs9)
 replace Fv15 := hideP (Fv15.out.safe (by decide) hs9)
 replace Fv16 := hideP (Fv16.out.safe (by decide) hs9)
 replace Fv17 := hideP (Fv17.out.safe (by decide) hs9)
 replace Fv18 := hideP (Fv18.out.safe (by decide) hs9)
 replace Fv19 := hideP (Fv19.out.safe (by decide) hs9)
 replace Fv20 := hideP (Fv20.out.safe (by decide) hs9)
 replace Fv21 := hideP (Fv21.out.safe (by decide) hs9)
 replace Fv22 := hideP (Fv22.out.safe (by decide) hs9)
 replace HXz23 := hideP (HXz23.out.safe (by decide) hs9)
 replace HYz23 := hideP (HYz23.out.safe (by decide) hs9)
 replace HB4 := hideP (HB4.out.but hb9 (Ne.symm nB4_B1))
 replace HB7 := hideP (HB7.out.but hb9 (Ne.symm nB7_B1))
 replace HB := hideP (HB.out.trans (hb9.below.mono LB1.out))
 rw [show putAll _ _ _ = #[mz6, .int .u64 (fz6 : Int), tz6, .int .i64 2, v16, rz6, xz23, yz23, .bool false] by kernel_rfl] at hx9
 replace HB1 := hideP hx9
 clear hs9 hb9 hx9
 refine HK7.out _ _ ?_
 clear HK7 K7
 refine wp_ret ?_
 exact ZcW 0 44 B1 (#[mz6, .int .u64 (fz6 : Int), tz6, .int .i64 2, v16, rz6, xz23, yz23, .bool false]) rfl (hK.get rfl) HB1.out Zdh rfl info44 ⟨⟨_, rfl, ⟨_, _, _, _, _, _, _, rfl, HFFz6.out, HMVz6.out, Fv16.out, HRz6.out, HXz23.out, HYz23.out⟩⟩, HB.out⟩
end Go.Proofs.YtcbdbnfgnonacaaGreat
