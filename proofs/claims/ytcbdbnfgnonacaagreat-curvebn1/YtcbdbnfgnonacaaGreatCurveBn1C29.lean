/-
  Single operations of the law.
-/
import Derived.Test.YtcbdbnfgnonacaaGreatCurveBn1C28
set_option maxHeartbeats 4000000
set_option maxRecDepth 100000
namespace Go.Proofs.YtcbdbnfgnonacaaGreat
open Go.RowKit Go.Shelf
theorem Zmi {w : World} {B B' t t' : Nat} {C C' : Array Value} (h : BX w B C t) (h' : BX w B' C' t') (ht : t ≠ t') : B ≠ B' := fun e => by
  have h1 := h.heap
  rw [e, h'.heap] at h1
  cases h1
  exact ht rfl
theorem Zkl {x y : Nat} (hx : x < W6.R) (hy : y < W6.R) (i : Bool) (w : World) : (Op.equalIn 10000 30 (.agg (pn x 0 y 0 i)) (.agg (pn x 0 y 0 i))).run Tryz.prog w = .ok true w := by
  have h0 : 0 < W6.R := by decide +kernel
  rw [eqPn i i hx h0 hy h0 hx h0 hy h0 w]
  simp
theorem pn6_0 {w : World} {B t a b c d : Nat} {i : Bool} (h : w.heap[B]? = some (.cells (pn a b c d i) t (0, 0))) : w.rangeAt B 0 (W6.cs (limb a)).toList := by
  rw [Zcg] at h
  exact Zbt (A := #[]) (by rw [Array.empty_append]; exact h) rfl
theorem pn6_2 {w : World} {B t a b c d : Nat} {i : Bool} (h : w.heap[B]? = some (.cells (pn a b c d i) t (0, 0))) : w.rangeAt B 12 (W6.cs (limb c)).toList := by
  rw [Zcg, ← Array.append_assoc (xs := W6.cs (limb a))] at h
  exact Zbt (A := W6.cs (limb a) ++ W6.cs (limb b)) h (by rw [Array.size_append, W6.Za6, W6.Za6])
section
variable {P : Program} {ρ : Operand → Value} {o : Oper} {x y : Operand} {t t2 : TypeId} {e : Int}
theorem ex_ne0 (he : e ≠ 0) (ho : o.op = .binOp .neq t x y t2) (hx : ρ x = .int .i64 e) (hy : ρ y = .int .i64 0) (w : World) : (execOp ρ o).run P w = .ok (.value (.bool true)) w := by
  unfold execOp
  simp [ho, hx, hy, go_sem, he]
theorem ex_eqs (ho : o.op = .binOp .eql t x y t2) (hx : ρ x = .int .i64 e) (hy : ρ y = .int .i64 e) (w : World) : (execOp ρ o).run P w = .ok (.value (.bool true)) w := by
  unfold execOp
  simp [ho, hx, hy, go_sem]
end
theorem ref_1 {n : Nat} (hn : n = 4 ∨ n = 6) (a b c d a' c' : Nat) (i : Bool) (ha : ∀ j, j < n → limb a' j = limb a j) (hc : ∀ j, j < n → limb c' j = limb c j) (w : World) : Calls Tryz.prog 34 #[.agg (pn a b c d i), .int .i64 n, .int .i64 1] w fun r w' => (∃ v', r = .returned v' ∧ PT w' v' n [a'] [c'] i) ∧ Below w.heap.size w w' := by
 have HN2 : Hid (2 ≤ n) := by show 2 ≤ n; omega
 have HB : Hid (Up w w) := Below.refl _ _
 go_enter Tryz.func34, Tryz.ntmps34
 refine ZaW 43 [(0, .agg (pn a b c d i)), (1, .int .i64 n), (2, .int .i64 1)] rfl ⟨rfl, rfl, rfl, trivial⟩ (fun L hL hK => ?_)
 refine Zae (fun K1 HK1 => ?_)
 have up : ∀ V, Up w V → Up w V := fun _ h => HB.out.trans (h.mono HB.out.size)
 refine ZaA [.pr (NB w.heap.size (pn (a) (b) (c) (d) i) 30), .pr (NB w.heap.size #[.slice none 0 0, .slice none 0 0, .bool false] 42)] [1, 2, 3, 6] hL hK ⟨ZaH _ _ _, ZaH _ _ _, trivial⟩
   ⟨ok_x [.ex (.agg (pn a b c d i))] hK (fun V h => ⟨_, _, Zcl rfl rfl, Zaq _ _, _, rfl, h.size, ⟨Zaf _ _⟩⟩),
   ok_x [] hK (fun V h => ⟨_, _, ZaJ rfl (al42 _), Zaq _ _, _, rfl, h.size, ⟨Zaf _ _⟩⟩),
   trivial⟩ ?_
 rintro W1 h _ ⟨B1, rfl, lB1, hB1⟩ _ ⟨B2, rfl, lB2, hB2⟩ L1 hL1 hK1
 have LB1 := hideP (Nat.le_trans HB.out.size lB1)
 clear lB1
 have LB2 := hideP (Nat.le_trans HB.out.size lB2)
 clear lB2
 replace HB := hideP (up _ h)
 have HB1 := hideP hB1
 clear hB1
 have HB2 := hideP hB2
 clear hB2
 have hK2 := hK1.to [(1, .int .i64 n), (2, .int .i64 1), (3, .pointer (some ⟨B1, 0, none⟩)), (6, .pointer (some ⟨B2, 0, none⟩))] (by kernel_rfl)
 clear up h hK1 hK hL L
 revert L1
 intro L hL hK
 refine HK1.out _ _ ?_
 clear HK1 K1
 refine Zae (fun K2 HK2 => ?_)
 refine Zae (fun K3 HK3 => ?_)
 have up : ∀ V, Up W1 V → Up w V := fun _ h => HB.out.trans (h.mono HB.out.size)
 refine ZaA [.ex (.int .i64 1), .ex (.bool true)] [1, 3, 6, 8] hL hK trivial
   ⟨ok_q hK,
   ok_q hK,
   trivial⟩ ?_
 rintro W2 h  L1 hL1 hK1
 replace HB := hideP (up _ h)
 replace HB1 := hideP (HB1.out.moved h)
 replace HB2 := hideP (HB2.out.moved h)
 have hK2 := hK1.to [(1, .int .i64 n), (3, .pointer (some ⟨B1, 0, none⟩)), (6, .pointer (some ⟨B2, 0, none⟩)), (8, .bool true)] (by kernel_rfl)
 clear up h hK1 hK hL L
 revert L1
 intro L hL hK
 refine HK3.out _ _ ?_
 clear HK3 K3
 refine Ze2 hK ?_
 refine Zae (fun K4 HK4 => ?_)
 have up : ∀ V, Up W2 V → Up w V := fun _ h => HB.out.trans (h.mono HB.out.size)
 refine Zbi [.ex (.pointer (some ⟨B1, 0, none⟩)), .ex (.agg (W6.cs (limb (a)))), .ex (.int .i64 n), .pr (fun zv zw => LW zw zv (n) (limb a')), .pr (fun zv zw => LL zw zv (n) ([a'])), .ex (.pointer (some ⟨B1, 12, none⟩)), .ex (.agg (W6.cs (limb (c)))), .ex (.int .i64 n), .pr (fun zv zw => LW zw zv (n) (limb c')), .pr (fun zv zw => LL zw zv (n) ([c'])), .ex (.pointer (some ⟨B1, 24, none⟩)), .ex (.bool i), .pr (fun zv zw => PT zw zv (n) ([a']) ([c']) i)] [6, 21] hL hK ⟨ZbX _ _, Zbf _ _, ZbX _ _, Zbf _ _, Zeh _ _ _ _, trivial⟩
   ⟨ok_q hK,
   ok_x [.ex (.pointer (some ⟨B1, 0, none⟩))] hK (fun V h => ⟨_, _, ZaB rfl rfl (loadC _ B1 0 _ _ _ (pn6_0 (HB1.out.moved h).heap) W6.under rfl (W6.info _)), Below.refl _ _, rfl⟩),
   ok_q hK,
   ok_c [.ex (.agg (W6.cs (limb (a)))), .ex (.int .i64 n)] (en Tryz.func110) hK (fun V h => Zkj hn a a' ha _),
   ok_x [.pr (fun zv zw => LW zw zv (n) (limb a'))] hK (fun V h u1 q1 => ⟨_, _, ZeX (vs := #[(0, u1)]) rfl (by kernel_rfl) (bs1 _ (LW.isSlice q1)), Zaq _ _, LL.mk1 q1⟩),
   ok_q hK,
   ok_x [.ex (.pointer (some ⟨B1, 12, none⟩))] hK (fun V h => ⟨_, _, ZaB rfl rfl (loadC _ B1 12 _ _ _ (pn6_2 (HB1.out.moved h).heap) W6.under rfl (W6.info _)), Below.refl _ _, rfl⟩),
   ok_q hK,
   ok_c [.ex (.agg (W6.cs (limb (c)))), .ex (.int .i64 n)] (en Tryz.func110) hK (fun V h => Zkj hn c c' hc _),
   ok_x [.pr (fun zv zw => LW zw zv (n) (limb c'))] hK (fun V h u1 q1 => ⟨_, _, ZeX (vs := #[(0, u1)]) rfl (by kernel_rfl) (bs1 _ (LW.isSlice q1)), Zaq _ _, LL.mk1 q1⟩),
   ok_q hK,
   ok_x [.ex (.pointer (some ⟨B1, 24, none⟩))] hK (fun V h => ⟨_, _, ZaB rfl rfl (ld1 (by kernel_rfl) (pn_i (HB1.out.moved h).heap)), Below.refl _ _, rfl⟩),
   ok_x [.pr (fun zv zw => LL zw zv (n) ([a'])), .pr (fun zv zw => LL zw zv (n) ([c'])), .ex (.bool i)] hK (fun V h u1 q1 u2 q2 => ⟨_, _, Zcu (vs := #[(0, u1), (1, u2), (2, .bool i)]) rfl (by kernel_rfl) (ZmN i (LL.isSlice q1) (LL.isSlice q2) _), Below.refl _ _, ⟨_, _, rfl, q1, q2⟩⟩),
   trivial⟩ ?_
 rintro W3 h v3 pv3 v4 pv4 v5 pv5 v6 pv6 _ ⟨⟨xz7, yz7, rfl, hxz7, hyz7⟩⟩ L1 hL1 hK1
 replace HB := hideP (up _ h)
 replace HB1 := hideP (HB1.out.moved h)
 replace HB2 := hideP (HB2.out.moved h)
 have Fv3 := hideP pv3
 clear pv3
 have Fv4 := hideP pv4
 clear pv4
 have Fv5 := hideP pv5
 clear pv5
 have Fv6 := hideP pv6
 clear pv6
 have HXz7 : Hid (LL W3 xz7 (n) ([a'])) := hxz7
 clear hxz7
 have HYz7 : Hid (LL W3 yz7 (n) ([c'])) := hyz7
 clear hyz7
 have hK2 := hK1.to [(6, .pointer (some ⟨B2, 0, none⟩)), (21, .agg #[xz7, yz7, .bool i])] (by kernel_rfl)
 clear up h hK1 hK hL L
 revert L1
 intro L hL hK
 refine ZbQ rfl rfl 42 _ _ rfl rfl B2 0 #[.slice none 0 0, .slice none 0 0, .bool false] [xz7, yz7, .bool i] 42 (Zam (hK.get rfl)) (Zam (hK.get rfl)) (rfl) HB2.out (Nat.le_of_ble_eq_true rfl) info42 ⟨HXz7.out.oneC, HYz7.out.oneC, rfl, trivial⟩ (fun W4 hb9 hx9 => ?_)
 have hs9 := Zca HB2.out (by kernel_rfl) hb9 hx9
 replace Fv3 := hideP (Fv3.out.safe HN2.out hs9)
 replace Fv4 := hideP (Fv4.out.safe HN2.out hs9)
 replace Fv5 := hideP (Fv5.out.safe HN2.out hs9)
 replace Fv6 := hideP (Fv6.out.safe HN2.out hs9)
 replace HXz7 := hideP (HXz7.out.safe HN2.out hs9)
 replace HYz7 := hideP (HYz7.out.safe HN2.out hs9)
 clear HB1
 replace HB := hideP (HB.out.trans (hb9.below.mono LB2.out))
 rw [show putAll _ _ _ = #[xz7, yz7, .bool i] by kernel_rfl] at hx9
 replace HB2 := hideP hx9
 clear hs9 hb9 hx9
 refine HK4.out _ _ ?_
 clear HK4 K4
 refine wp_ret ?_
 refine Zdz ?_
 exact ZcP 6 42 B2 (#[xz7, yz7, .bool i]) rfl (hK.get rfl) HB2.out Zbj rfl info42 ⟨⟨_, rfl, ⟨_, _, rfl, HXz7.out, HYz7.out⟩⟩, HB.out⟩
theorem of_nil (w : World) : Calls Tryz.prog 17 #[.agg #[.slice none 0 0, .slice none 0 0, .bool false]] w fun r w' => r = .returned (.agg (pn 0 0 0 0 false)) ∧ Below w.heap.size w w' := by
 have HB : Hid (Up w w) := Below.refl _ _
 go_enter Tryz.func17, Tryz.ntmps17
 refine ZaW 44 [(0, .agg #[.slice none 0 0, .slice none 0 0, .bool false])] rfl ⟨rfl, trivial⟩ (fun L hL hK => ?_)
 refine Zae (fun K1 HK1 => ?_)
 have up : ∀ V, Up w V → Up w V := fun _ h => HB.out.trans (h.mono HB.out.size)
 refine ZaA [.pr (NB w.heap.size #[.slice none 0 0, .slice none 0 0, .bool false] 42), .pr (NB w.heap.size (pn (0) (0) (0) (0) false) 30)] [1, 2] hL hK ⟨ZaH _ _ _, ZaH _ _ _, trivial⟩
   ⟨ok_x [.ex (.agg #[.slice none 0 0, .slice none 0 0, .bool false])] hK (fun V h => ⟨_, _, Zcl rfl rfl, Zaq _ _, _, rfl, h.size, ⟨Zaf _ _⟩⟩),
   ok_x [] hK (fun V h => ⟨_, _, ZaJ rfl (al30 _), Zaq _ _, _, rfl, h.size, ⟨Zaf _ _⟩⟩),
   trivial⟩ ?_
 rintro W1 h _ ⟨B1, rfl, lB1, hB1⟩ _ ⟨B2, rfl, lB2, hB2⟩ L1 hL1 hK1
 have LB1 := hideP (Nat.le_trans HB.out.size lB1)
 clear lB1
 have LB2 := hideP (Nat.le_trans HB.out.size lB2)
 clear lB2
 replace HB := hideP (up _ h)
 have HB1 := hideP hB1
 clear hB1
 have HB2 := hideP hB2
 clear hB2
 have hK2 := hK1.to [(1, .pointer (some ⟨B1, 0, none⟩)), (2, .pointer (some ⟨B2, 0, none⟩))] (by kernel_rfl)
 clear up h hK1 hK hL L
 revert L1
 intro L hL hK
 refine HK1.out _ _ ?_
 clear HK1 K1
 refine Zae (fun K2 HK2 => ?_)
 have up : ∀ V, Up W1 V → Up w V := fun _ h => HB.out.trans (h.mono HB.out.size)
 refine ZaA [.pr (NB W1.heap.size (pn (0) (0) (0) (0) false) 30)] [1, 2, 3] hL hK ⟨ZaH _ _ _, trivial⟩
   ⟨ok_x [] hK (fun V h => ⟨_, _, ZaJ rfl (al30 _), Zaq _ _, _, rfl, h.size, ⟨Zaf _ _⟩⟩),
   trivial⟩ ?_
 rintro W2 h _ ⟨B3, rfl, lB3, hB3⟩ L1 hL1 hK1
 have LB3 := hideP (Nat.le_trans HB.out.size lB3)
 have nB3_B1 : B1 ≠ B3 := by have := HB1.out.lt; omega
 have nB3_B2 : B2 ≠ B3 := by have := HB2.out.lt; omega
 clear lB3
 replace HB := hideP (up _ h)
 replace HB1 := hideP (HB1.out.moved h)
 replace HB2 := hideP (HB2.out.moved h)
 have HB3 := hideP hB3
 clear hB3
 have hK2 := hK1.to [(1, .pointer (some ⟨B1, 0, none⟩)), (2, .pointer (some ⟨B2, 0, none⟩)), (3, .pointer (some ⟨B3, 0, none⟩))] (by kernel_rfl)
 clear up h hK1 hK hL L
 revert L1
 intro L hL hK
 refine HK2.out _ _ ?_
 clear HK2 K2
 refine Zae (fun K3 HK3 => ?_)
 have up : ∀ V, Up W2 V → Up w V := fun _ h => HB.out.trans (h.mono HB.out.size)
 refine Zbi [.ex (.pointer (some ⟨B1, 2, none⟩)), .ex (.bool false), .ex (.pointer (some ⟨B3, 24, none⟩))] [1, 2, 3, 5, 6] hL hK trivial
   ⟨ok_q hK,
   ZdJ 2 hK (fun V h => HB1.out.moved h),
   ok_q hK,
   trivial⟩ ?_
 rintro W3 h  L1 hL1 hK1
 replace HB := hideP (up _ h)
 replace HB1 := hideP (HB1.out.moved h)
 replace HB2 := hideP (HB2.out.moved h)
 replace HB3 := hideP (HB3.out.moved h)
 have hK2 := hK1.to [(1, .pointer (some ⟨B1, 0, none⟩)), (2, .pointer (some ⟨B2, 0, none⟩)), (3, .pointer (some ⟨B3, 0, none⟩)), (5, .bool false), (6, .pointer (some ⟨B3, 24, none⟩))] (by kernel_rfl)
 clear up h hK1 hK hL L
 revert L1
 intro L hL hK
 refine ZbQ rfl rfl 4 _ _ rfl rfl B3 24 (pn (0) (0) (0) (0) false) [.bool false] 30 (Zam (hK.get rfl)) (Zam (hK.get rfl)) rfl HB3.out (by rw [Zbc]; exact Nat.le_refl _) (by kernel_rfl) ⟨rfl, trivial⟩ (fun W4 hb9 hx9 => ?_)
 rw [ZjZ] at hx9
 replace HB1 := hideP (HB1.out.but hb9 nB3_B1)
 replace HB2 := hideP (HB2.out.but hb9 nB3_B2)
 replace HB := hideP (HB.out.trans (hb9.below.mono LB3.out))
 replace HB3 := hideP hx9
 clear hb9 hx9
 refine HK3.out _ _ ?_
 clear HK3 K3
 refine Zae (fun K4 HK4 => ?_)
 refine Zae (fun K5 HK5 => ?_)
 have up : ∀ V, Up W4 V → Up w V := fun _ h => HB.out.trans (h.mono HB.out.size)
 refine ZaA [.ex (.pointer (some ⟨B1, 0, none⟩)), .ex (.slice none 0 0), .ex (.int .i64 0), .ex (.bool false)] [1, 2, 3, 10] hL hK trivial
   ⟨ok_q hK,
   ZdJ 0 hK (fun V h => HB1.out.moved h),
   ok_q hK,
   ok_q hK,
   trivial⟩ ?_
 rintro W5 h  L1 hL1 hK1
 replace HB := hideP (up _ h)
 replace HB1 := hideP (HB1.out.moved h)
 replace HB2 := hideP (HB2.out.moved h)
 replace HB3 := hideP (HB3.out.moved h)
 have hK2 := hK1.to [(1, .pointer (some ⟨B1, 0, none⟩)), (2, .pointer (some ⟨B2, 0, none⟩)), (3, .pointer (some ⟨B3, 0, none⟩)), (10, .bool false)] (by kernel_rfl)
 clear up h hK1 hK hL L
 revert L1
 intro L hL hK
 refine HK5.out _ _ ?_
 clear HK5 K5
 refine Zdj hK ?_
 refine wp_skip ?_
 refine HK4.out _ _ ?_
 clear HK4 K4
 refine Zae (fun K6 HK6 => ?_)
 refine Zae (fun K7 HK7 => ?_)
 have up : ∀ V, Up W5 V → Up w V := fun _ h => HB.out.trans (h.mono HB.out.size)
 refine ZaA [.ex (.pointer (some ⟨B1, 0, none⟩)), .ex (.slice none 0 0), .ex (.int .i64 0), .ex (.bool false)] [2, 3, 28] hL hK trivial
   ⟨ok_q hK,
   ZdJ 0 hK (fun V h => HB1.out.moved h),
   ok_q hK,
   ok_q hK,
   trivial⟩ ?_
 rintro W6 h  L1 hL1 hK1
 replace HB := hideP (up _ h)
 replace HB1 := hideP (HB1.out.moved h)
 replace HB2 := hideP (HB2.out.moved h)
 replace HB3 := hideP (HB3.out.moved h)
 have hK2 := hK1.to [(2, .pointer (some ⟨B2, 0, none⟩)), (3, .pointer (some ⟨B3, 0, none⟩)), (28, .bool false)] (by kernel_rfl)
 clear up h hK1 hK hL L
 revert L1
 intro L hL hK
 refine HK7.out _ _ ?_
 clear HK7 K7
 refine Zdj hK ?_
 refine wp_skip ?_
 refine HK6.out _ _ ?_
 clear HK6 K6
 refine Zae (fun K8 HK8 => ?_)
 have up : ∀ V, Up W6 V → Up w V := fun _ h => HB.out.trans (h.mono HB.out.size)
 refine Zbi [.ex (.agg (pn (0) (0) (0) (0) false))] [2, 43] hL hK trivial
   ⟨ok_x [.ex (.pointer (some ⟨B3, 0, none⟩))] hK (fun V h => ⟨_, _, ZaB rfl rfl (loadC _ B3 0 30 (pn (0) (0) (0) (0) false) _ (Zag (HB3.out.moved h).heap) ZbJ rfl (info30 _ _ _ _ _)), Below.refl _ _, rfl⟩),
   trivial⟩ ?_
 rintro W7 h  L1 hL1 hK1
 replace HB := hideP (up _ h)
 replace HB1 := hideP (HB1.out.moved h)
 replace HB2 := hideP (HB2.out.moved h)
 replace HB3 := hideP (HB3.out.moved h)
 have hK2 := hK1.to [(2, .pointer (some ⟨B2, 0, none⟩)), (43, .agg (pn (0) (0) (0) (0) false))] (by kernel_rfl)
 clear up h hK1 hK hL L
 revert L1
 intro L hL hK
 refine st_pn rfl rfl _ _ rfl rfl B2 (Zam (hK.get rfl)) (Zam (hK.get rfl)) HB2.out (fun W8 hb9 hx9 => ?_)
 clear HB1
 replace HB3 := hideP (HB3.out.but hb9 (Ne.symm nB3_B2))
 replace HB := hideP (HB.out.trans (hb9.below.mono LB2.out))
 replace HB2 := hideP hx9
 clear hb9 hx9
 refine HK8.out _ _ ?_
 clear HK8 K8
 refine wp_ret ?_
 exact ZcP 2 30 B2 (pn (0) (0) (0) (0) false) rfl (hK.get rfl) HB2.out ZbJ rfl (info30 _ _ _ _ _) ⟨rfl, HB.out⟩
theorem Zlu {n : Nat} (hn : n = 4 ∨ n = 6) (x y : Nat) (hx : x < 18446744073709551616 ^ n) (hy : y < 18446744073709551616 ^ n) (hR : 18446744073709551616 ^ n ≤ W6.R) (i : Bool) (w : World) (q : Value) (hq : PT w q n [x] [y] i) : Calls Tryz.prog 40 #[.agg (pn (x) (0) (y) (0) i), .int .i64 0, q, .int .i64 0] w fun r w' => r = .returned (.bool true) ∧ Below w.heap.size w w' := by
 have HQ := hideP hq
 obtain ⟨qa, qb, rfl, hqa, hqb⟩ := hq.ex
 have HX := hideP hqa
 have HY := hideP hqb
 clear hq hqa hqb
 have HN2 : Hid (2 ≤ n) := by show 2 ≤ n; omega
 have HB : Hid (Up w w) := Below.refl _ _
 go_enter Tryz.func40, Tryz.ntmps40
 refine ZaW 21 [(0, .agg (pn (x) (0) (y) (0) i)), (1, .int .i64 0), (2, .agg #[qa, qb, .bool i]), (3, .int .i64 0)] rfl ⟨rfl, rfl, rfl, rfl, trivial⟩ (fun L hL hK => ?_)
 refine Zae (fun K1 HK1 => ?_)
 have up : ∀ V, Up w V → Up w V := fun _ h => HB.out.trans (h.mono HB.out.size)
 refine ZaA [.pr (NB w.heap.size (pn (x) (0) (y) (0) i) 30), .pr (NB w.heap.size #[qa, qb, .bool i] 42), .ex (.bool false)] [1, 3, 4, 6, 8] hL hK ⟨ZaH _ _ _, ZaH _ _ _, trivial⟩
   ⟨ok_x [.ex (.agg (pn (x) (0) (y) (0) i))] hK (fun V h => ⟨_, _, Zcl rfl rfl, Zaq _ _, _, rfl, h.size, ⟨Zaf _ _⟩⟩),
   ok_x [.ex (.agg #[qa, qb, .bool i])] hK (fun V h => ⟨_, _, Zcl rfl rfl, Zaq _ _, _, rfl, h.size, ⟨Zaf _ _⟩⟩),
   ok_q hK,
   trivial⟩ ?_
 rintro W1 h _ ⟨B1, rfl, lB1, hB1⟩ _ ⟨B2, rfl, lB2, hB2⟩ L1 hL1 hK1
 have LB1 := hideP (Nat.le_trans HB.out.size lB1)
 clear lB1
 have LB2 := hideP (Nat.le_trans HB.out.size lB2)
 clear lB2
 replace HB := hideP (up _ h)
 have HB1 := hideP hB1
 clear hB1
 have HB2 := hideP hB2
 clear hB2
 have nB2_B1 : B1 ≠ B2 := Zmi HB1.out HB2.out (by decide)
 have hK2 := hK1.to [(1, .int .i64 0), (3, .int .i64 0), (4, .pointer (some ⟨B1, 0, none⟩)), (6, .pointer (some ⟨B2, 0, none⟩)), (8, .bool false)] (by kernel_rfl)
 clear up h hK1 hK hL L
 revert L1
 intro L hL hK
 refine HK1.out _ _ ?_
 clear HK1 K1
 refine Zae (fun K2 HK2 => ?_)
 refine Zae (fun K3 HK3 => ?_)
 have up : ∀ V, Up W1 V → Up w V := fun _ h => HB.out.trans (h.mono HB.out.size)
 refine ZaA [.ex (.int .i64 0), .ex (.bool false)] [1, 3, 4, 6, 8, 10] hL hK trivial
   ⟨ok_q hK,
   ok_q hK,
   trivial⟩ ?_
 rintro W2 h  L1 hL1 hK1
 replace HB := hideP (up _ h)
 replace HB1 := hideP (HB1.out.moved h)
 replace HB2 := hideP (HB2.out.moved h)
 have hK2 := hK1.to [(1, .int .i64 0), (3, .int .i64 0), (4, .pointer (some ⟨B1, 0, none⟩)), (6, .pointer (some ⟨B2, 0, none⟩)), (8, .bool false), (10, .bool false)] (by kernel_rfl)
 clear up h hK1 hK hL L
 revert L1
 intro L hL hK
 refine HK3.out _ _ ?_
 clear HK3 K3
 refine Zdj hK ?_
 refine wp_skip ?_
 refine HK2.out _ _ ?_
 clear HK2 K2
 refine Zae (fun K4 HK4 => ?_)
 have up : ∀ V, Up W2 V → Up w V := fun _ h => HB.out.trans (h.mono HB.out.size)
 refine ZaA [.ex (.int .i64 0), .ex (.int .i64 0), .ex (.bool true), .ex (.bool true), .ex (.agg (pn (x) (0) (y) (0) i)), .ex (.agg #[qa, qb, .bool i]), .ex (.agg (pn (x) (0) (y) (0) i)), .ex (.bool true), .ex (.bool true), .ex (.bool true)] [8] hL hK trivial
   ⟨ok_q hK,
   ok_q hK,
   ok_q hK,
   ok_q hK,
   ok_x [.ex (.pointer (some ⟨B1, 0, none⟩))] hK (fun V h => ⟨_, _, ZaB rfl rfl (loadC _ B1 0 30 (pn (x) (0) (y) (0) i) _ (Zag (HB1.out.moved h).heap) ZbJ rfl (info30 _ _ _ _ _)), Below.refl _ _, rfl⟩),
   ZaM 0 hK (fun V h => HB2.out.moved h) Zbj info42,
   ok_c [.ex (.agg #[qa, qb, .bool i])] (en Tryz.func17) hK (fun V h => (of_1 hn x y hx hy i _ _ (HQ.out.moved (up V h))).told),
   ok_x [.ex (.agg (pn (x) (0) (y) (0) i)), .ex (.agg (pn (x) (0) (y) (0) i))] hK (fun V h => ⟨_, _, ZdL 30 30 _ _ rfl rfl rfl gqPn _ (Zkl (Nat.lt_of_lt_of_le hx hR) (Nat.lt_of_lt_of_le hy hR) i _), Below.refl _ _, rfl⟩),
   ok_q hK,
   ok_q hK,
   trivial⟩ ?_
 rintro W3 h  L1 hL1 hK1
 replace HB := hideP (up _ h)
 replace HB1 := hideP (HB1.out.moved h)
 replace HB2 := hideP (HB2.out.moved h)
 have hK2 := hK1.to [(8, .bool true)] (by kernel_rfl)
 clear up h hK1 hK hL L
 revert L1
 intro L hL hK
 refine HK4.out _ _ ?_
 clear HK4 K4
 refine wp_ret ?_
 exact ret2 hK ⟨rfl, HB.out⟩
theorem Zlv {e : Int} (he : e ≠ 0) (w : World) : Calls Tryz.prog 40 #[.agg (pn (0) (0) (0) (0) false), .int .i64 e, .agg #[.slice none 0 0, .slice none 0 0, .bool false], .int .i64 e] w fun r w' => r = .returned (.bool true) ∧ Below w.heap.size w w' := by
 have HB : Hid (Up w w) := Below.refl _ _
 go_enter Tryz.func40, Tryz.ntmps40
 refine ZaW 21 [(0, .agg (pn (0) (0) (0) (0) false)), (1, .int .i64 e), (2, .agg #[.slice none 0 0, .slice none 0 0, .bool false]), (3, .int .i64 e)] rfl ⟨rfl, rfl, rfl, rfl, trivial⟩ (fun L hL hK => ?_)
 refine Zae (fun K1 HK1 => ?_)
 have up : ∀ V, Up w V → Up w V := fun _ h => HB.out.trans (h.mono HB.out.size)
 refine ZaA [.pr (NB w.heap.size (pn (0) (0) (0) (0) false) 30), .pr (NB w.heap.size #[.slice none 0 0, .slice none 0 0, .bool false] 42), .ex (.bool false)] [1, 3, 4, 6, 8] hL hK ⟨ZaH _ _ _, ZaH _ _ _, trivial⟩
   ⟨ok_x [.ex (.agg (pn (0) (0) (0) (0) false))] hK (fun V h => ⟨_, _, Zcl rfl rfl, Zaq _ _, _, rfl, h.size, ⟨Zaf _ _⟩⟩),
   ok_x [.ex (.agg #[.slice none 0 0, .slice none 0 0, .bool false])] hK (fun V h => ⟨_, _, Zcl rfl rfl, Zaq _ _, _, rfl, h.size, ⟨Zaf _ _⟩⟩),
   ok_q hK,
   trivial⟩ ?_
 rintro W1 h _ ⟨B1, rfl, lB1, hB1⟩ _ ⟨B2, rfl, lB2, hB2⟩ L1 hL1 hK1
 have LB1 := hideP (Nat.le_trans HB.out.size lB1)
 clear lB1
 have LB2 := hideP (Nat.le_trans HB.out.size lB2)
 clear lB2
 replace HB := hideP (up _ h)
 have HB1 := hideP hB1
 clear hB1
 have HB2 := hideP hB2
 clear hB2
 have nB2_B1 : B1 ≠ B2 := Zmi HB1.out HB2.out (by decide)
 have hK2 := hK1.to [(1, .int .i64 e), (3, .int .i64 e), (4, .pointer (some ⟨B1, 0, none⟩)), (6, .pointer (some ⟨B2, 0, none⟩)), (8, .bool false)] (by kernel_rfl)
 clear up h hK1 hK hL L
 revert L1
 intro L hL hK
 refine HK1.out _ _ ?_
 clear HK1 K1
 refine Zae (fun K2 HK2 => ?_)
 refine Zae (fun K3 HK3 => ?_)
 have up : ∀ V, Up W1 V → Up w V := fun _ h => HB.out.trans (h.mono HB.out.size)
 refine ZaA [.ex (.int .i64 e), .ex (.bool true)] [1, 3, 4, 6, 8, 10] hL hK trivial
   ⟨ok_q hK,
   ok_x [.ex (.int .i64 e), .ex (.int .i64 0)] hK (fun V h => ⟨_, _, ex_ne0 he rfl rfl rfl _, Below.refl _ _, rfl⟩),
   trivial⟩ ?_
 rintro W2 h  L1 hL1 hK1
 replace HB := hideP (up _ h)
 replace HB1 := hideP (HB1.out.moved h)
 replace HB2 := hideP (HB2.out.moved h)
 have hK2 := hK1.to [(1, .int .i64 e), (3, .int .i64 e), (4, .pointer (some ⟨B1, 0, none⟩)), (6, .pointer (some ⟨B2, 0, none⟩)), (8, .bool false), (10, .bool true)] (by kernel_rfl)
 clear up h hK1 hK hL L
 revert L1
 intro L hL hK
 refine HK3.out _ _ ?_
 clear HK3 K3
 refine Ze2 hK ?_
 have up : ∀ V, Up W2 V → Up w V := fun _ h => HB.out.trans (h.mono HB.out.size)
 refine Zbi [.ex (.agg #[.slice none 0 0, .slice none 0 0, .bool false])] [1, 3, 4, 6, 8, 11] hL hK trivial
   ⟨ok_q hK,
   trivial⟩ ?_
 rintro W3 h  L1 hL1 hK1
 replace HB := hideP (up _ h)
 replace HB1 := hideP (HB1.out.moved h)
 replace HB2 := hideP (HB2.out.moved h)
 have hK2 := hK1.to [(1, .int .i64 e), (3, .int .i64 e), (4, .pointer (some ⟨B1, 0, none⟩)), (6, .pointer (some ⟨B2, 0, none⟩)), (8, .bool false), (11, .agg #[.slice none 0 0, .slice none 0 0, .bool false])] (by kernel_rfl)
 clear up h hK1 hK hL L
 revert L1
 intro L hL hK
 refine ZbQ rfl rfl 42 _ _ rfl rfl B2 0 #[.slice none 0 0, .slice none 0 0, .bool false] [.slice none 0 0, .slice none 0 0, .bool false] 42 (Zam (hK.get rfl)) (Zam (hK.get rfl)) (rfl) HB2.out (Nat.le_of_ble_eq_true rfl) info42 ⟨rfl, rfl, rfl, trivial⟩ (fun W4 hb9 hx9 => ?_)
 have hs9 := Zca HB2.out (by kernel_rfl) hb9 hx9
 replace HB1 := hideP (HB1.out.but hb9 nB2_B1)
 replace HB := hideP (HB.out.trans (hb9.below.mono LB2.out))
 rw [show putAll _ _ _ = #[.slice none 0 0, .slice none 0 0, .bool false] by kernel_rfl] at hx9
 replace HB2 := hideP hx9
 clear hs9 hb9 hx9
 refine HK2.out _ _ ?_
 clear HK2 K2
 refine Zae (fun K4 HK4 => ?_)
 have up : ∀ V, Up W4 V → Up w V := fun _ h => HB.out.trans (h.mono HB.out.size)
 refine ZaA [.ex (.int .i64 e), .ex (.int .i64 e), .ex (.bool true), .ex (.bool true), .ex (.agg (pn (0) (0) (0) (0) false)), .ex (.agg #[.slice none 0 0, .slice none 0 0, .bool false]), .ex (.agg (pn (0) (0) (0) (0) false)), .ex (.bool true), .ex (.bool true), .ex (.bool true)] [8] hL hK trivial
   ⟨ok_q hK,
   ok_q hK,
   ok_x [.ex (.int .i64 e), .ex (.int .i64 e)] hK (fun V h => ⟨_, _, ex_eqs rfl rfl rfl _, Below.refl _ _, rfl⟩),
   ok_q hK,
   ok_x [.ex (.pointer (some ⟨B1, 0, none⟩))] hK (fun V h => ⟨_, _, ZaB rfl rfl (loadC _ B1 0 30 (pn (0) (0) (0) (0) false) _ (Zag (HB1.out.moved h).heap) ZbJ rfl (info30 _ _ _ _ _)), Below.refl _ _, rfl⟩),
   ZaM 0 hK (fun V h => HB2.out.moved h) Zbj info42,
   ok_c [.ex (.agg #[.slice none 0 0, .slice none 0 0, .bool false])] (en Tryz.func17) hK (fun V h => (of_nil _).told),
   ok_x [.ex (.agg (pn (0) (0) (0) (0) false)), .ex (.agg (pn (0) (0) (0) (0) false))] hK (fun V h => ⟨_, _, ZdL 30 30 _ _ rfl rfl rfl gqPn _ (Zkl (by decide +kernel) (by decide +kernel) false _), Below.refl _ _, rfl⟩),
   ok_q hK,
   ok_q hK,
   trivial⟩ ?_
 rintro W5 h  L1 hL1 hK1
 replace HB := hideP (up _ h)
 replace HB1 := hideP (HB1.out.moved h)
 replace HB2 := hideP (HB2.out.moved h)
 have hK2 := hK1.to [(8, .bool true)] (by kernel_rfl)
 clear up h hK1 hK hL L
 revert L1
 intro L hL hK
 refine HK4.out _ _ ?_
 clear HK4 K4
 refine wp_ret ?_
 exact ret2 hK ⟨rfl, HB.out⟩
end Go.Proofs.YtcbdbnfgnonacaaGreat
namespace Go.Proofs.YtcbdbnfgnonacaaGreat
set_option maxRecDepth 100000
theorem pr_2 : Pr 2 := ZaC (by decide +kernel)
theorem pr_3 : Pr 3 := ZaC (by decide +kernel)
theorem pr_7 : Pr 7 := ZaC (by decide +kernel)
theorem pr_5 : Pr 5 := ZaC (by decide +kernel)
theorem pr_29 : Pr 29 := ZaC (by decide +kernel)
theorem Znp : Pr 11 := ZaC (by decide +kernel)
theorem pr_13 : Pr 13 := ZaC (by decide +kernel)
theorem pr_271 : Pr 271 := ZaC (by decide +kernel)
theorem pr_67 : Pr 67 := ZaC (by decide +kernel)
theorem pr_17 : Pr 17 := ZaC (by decide +kernel)
theorem Znq : Pr 19 := ZaC (by decide +kernel)
theorem Znr : Pr 41 := ZaC (by decide +kernel)
theorem pr_109 : Pr 109 := ZaC (by decide +kernel)
theorem pr_229 : Pr 229 := ZaC (by decide +kernel)
theorem pr_311 : Pr 311 := ZaC (by decide +kernel)
theorem pr_983 : Pr 983 := ZaC (by decide +kernel)
theorem Zns : Pr 5501 :=
  ZaL (k := 4) (N := 5501) (a := 2) (L := [(2, 2), (5, 3), (11, 1)]) (by decide) (by decide +kernel) ⟨pr_2, pr_5, Znp, trivial⟩ (by decide +kernel)
theorem Zlw : Pr 11003 :=
  ZaL (k := 4) (N := 11003) (a := 2) (L := [(2, 1), (5501, 1)]) (by decide) (by decide +kernel) ⟨pr_2, Zns, trivial⟩ (by decide +kernel)
theorem ZhW : Pr 1853641 :=
  ZaL (k := 4) (N := 1853641) (a := 17) (L := [(2, 3), (3, 2), (5, 1), (19, 1), (271, 1)]) (by decide) (by decide +kernel) ⟨pr_2, pr_3, pr_5, Znq, pr_271, trivial⟩ (by decide +kernel)
theorem Znt : Pr 1231 :=
  ZaL (k := 4) (N := 1231) (a := 3) (L := [(2, 1), (3, 1), (5, 1), (41, 1)]) (by decide) (by decide +kernel) ⟨pr_2, pr_3, pr_5, Znr, trivial⟩ (by decide +kernel)
theorem ZhX : Pr 4562087 :=
  ZaL (k := 4) (N := 4562087) (a := 5) (L := [(2, 1), (17, 1), (109, 1), (1231, 1)]) (by decide) (by decide +kernel) ⟨pr_2, pr_17, pr_109, Znt, trivial⟩ (by decide +kernel)
theorem pr_73 : Pr 73 := ZaC (by decide +kernel)
theorem pr_89 : Pr 89 := ZaC (by decide +kernel)
theorem pr_37 : Pr 37 := ZaC (by decide +kernel)
theorem Znu : Pr 2221 :=
  ZaL (k := 4) (N := 2221) (a := 2) (L := [(2, 2), (3, 1), (5, 1), (37, 1)]) (by decide) (by decide +kernel) ⟨pr_2, pr_3, pr_5, pr_37, trivial⟩ (by decide +kernel)
theorem Zlx : Pr 13327 :=
  ZaL (k := 4) (N := 13327) (a := 3) (L := [(2, 1), (3, 1), (2221, 1)]) (by decide) (by decide +kernel) ⟨pr_2, pr_3, Znu, trivial⟩ (by decide +kernel)
theorem Zgn : Pr 173171039 :=
  ZaL (k := 4) (N := 173171039) (a := 13) (L := [(2, 1), (73, 1), (89, 1), (13327, 1)]) (by decide) (by decide +kernel) ⟨pr_2, pr_73, pr_89, Zlx, trivial⟩ (by decide +kernel)
theorem pr_911 : Pr 911 := ZaC (by decide +kernel)
theorem pr_127 : Pr 127 := ZaC (by decide +kernel)
theorem Znv : Pr 3557 :=
  ZaL (k := 4) (N := 3557) (a := 2) (L := [(2, 2), (7, 1), (127, 1)]) (by decide) (by decide +kernel) ⟨pr_2, pr_7, pr_127, trivial⟩ (by decide +kernel)
theorem Zf6 : Pr 1263766531 :=
  ZaL (k := 4) (N := 1263766531) (a := 10) (L := [(2, 1), (3, 1), (5, 1), (13, 1), (911, 1), (3557, 1)]) (by decide) (by decide +kernel) ⟨pr_2, pr_3, pr_5, pr_13, pr_911, Znv, trivial⟩ (by decide +kernel)
theorem Zew : Pr 35385462869 :=
  ZaL (k := 4) (N := 35385462869) (a := 2) (L := [(2, 2), (7, 1), (1263766531, 1)]) (by decide) (by decide +kernel) ⟨pr_2, pr_7, Zf6, trivial⟩ (by decide +kernel)
theorem ZcE : Pr 2480874801745591 :=
  ZaL (k := 4) (N := 2480874801745591) (a := 6) (L := [(2, 1), (3, 2), (5, 1), (19, 1), (41, 1), (35385462869, 1)]) (by decide) (by decide +kernel) ⟨pr_2, pr_3, pr_5, Znq, Znr, Zew, trivial⟩ (by decide +kernel)
theorem ZaR : Pr 13427688667394608761327070753331941386769 :=
  ZaL (k := 4) (N := 13427688667394608761327070753331941386769) (a := 17) (L := [(2, 4), (3, 1), (7, 1), (11, 1), (1853641, 1), (4562087, 1), (173171039, 1), (2480874801745591, 1)]) (by decide) (by decide +kernel) ⟨pr_2, pr_3, pr_7, Znp, ZhW, ZhX, Zgn, ZcE, trivial⟩ (by decide +kernel)
theorem Znw : Pr 3691 :=
  ZaL (k := 4) (N := 3691) (a := 2) (L := [(2, 1), (3, 2), (5, 1), (41, 1)]) (by decide) (by decide +kernel) ⟨pr_2, pr_3, pr_5, Znr, trivial⟩ (by decide +kernel)
theorem Znx : Pr 4999 :=
  ZaL (k := 4) (N := 4999) (a := 3) (L := [(2, 1), (3, 1), (7, 2), (17, 1)]) (by decide) (by decide +kernel) ⟨pr_2, pr_3, pr_7, pr_17, trivial⟩ (by decide +kernel)
theorem Zgo : Pr 405928799 :=
  ZaL (k := 4) (N := 405928799) (a := 22) (L := [(2, 1), (11, 1), (3691, 1), (4999, 1)]) (by decide) (by decide +kernel) ⟨pr_2, Znp, Znw, Znx, trivial⟩ (by decide +kernel)
theorem pr_233 : Pr 233 := ZaC (by decide +kernel)
theorem Zkm : Pr 327599 :=
  ZaL (k := 4) (N := 327599) (a := 19) (L := [(2, 1), (19, 1), (37, 1), (233, 1)]) (by decide) (by decide +kernel) ⟨pr_2, Znq, pr_37, pr_233, trivial⟩ (by decide +kernel)
theorem Zex : Pr 11465965001 :=
  ZaL (k := 4) (N := 11465965001) (a := 3) (L := [(2, 3), (5, 4), (7, 1), (327599, 1)]) (by decide) (by decide +kernel) ⟨pr_2, pr_5, pr_7, Zkm, trivial⟩ (by decide +kernel)
theorem Zkn : Ferm 21888242871839275222246405745257275088696311157297823662689037894645226208583 :=
  lucas (k := 4) (N := 21888242871839275222246405745257275088696311157297823662689037894645226208583) (a := 3) (L := [(2, 1), (3, 2), (13, 1), (29, 1), (67, 1), (229, 1), (311, 1), (983, 1), (11003, 1), (13427688667394608761327070753331941386769, 1), (405928799, 1), (11465965001, 1)]) (by decide) (by decide +kernel) ⟨pr_2, pr_3, pr_13, pr_29, pr_67, pr_229, pr_311, pr_983, Zlw, ZaR, Zgo, Zex, trivial⟩ (by decide +kernel)
end Go.Proofs.YtcbdbnfgnonacaaGreat
namespace Go.Proofs.YtcbdbnfgnonacaaGreat.P4
open Go.RowKit Go.Shelf
theorem Zny (x y y2 : K) (i : Bool) : putAll (pt x y i) 4 (nv y2).toList = pt x y2 i := by
  rw [Zbh, Zbh]
  exact ZgO (Zao _) (by rw [Zao, Zao])
set_option maxRecDepth 100000
abbrev nE (x : EX) : SV := .row [.e 1 x]
theorem Zgp {w : World} {g p m : Nat} {b : K} (HG : GAt w g p m b) (x : K) (hx : Fits x) : Calls Tryz.prog 183 #[.pointer (some ⟨g, 0, none⟩), .agg (nv x)] w fun e w' => e = .returned (.agg (nv (rest m (kneg m x)))) ∧ Below w.heap.size w w' := by
  have := Zh1 HG (v5 x x x x x) false (fits2 hx hx) [] (fun _ h => by cases h) Tryz.func183 (args := [gp0, nE (.v 0)]) (y := nE (.u 2 (.u 0 (.v 0)))) (by kernel_rfl)
  simp only [Al.sv, List.map_cons, List.map_nil, rw_n] at this
  exact this
theorem Zly {w : World} {g p m : Nat} {b : K} (hG : GAt w g p m b) (x y : K) (hx : Fits x) (hy : Fits y) (i : Bool) (he : goodN m b x y i = 0) : Calls Tryz.prog 119 #[.pointer (some ⟨g, 0, none⟩), .agg (pt x y i)] w fun e w' => e = .returned (.tuple #[.agg (pt x (rest m (kneg m (y))) i), .int .i64 0]) ∧ Below w.heap.size w w' := by
  have hg := hG.glt
  have hp := hG.plt
  have HG9 := hideP hG
  clear hG
  go_enter Tryz.func119, Tryz.ntmps119
  refine Zae (fun K0 HK0 => ?_)
  go_wp2_with fail
  refine HK0.out _ _ ?_
  clear HK0 K0
  refine Zaj (fun W0 hW0 => ?_)
  have hb0 : W0.heap[w.heap.size]? = some (.cells (pt (x) (y) (i)) 125 (0, 0)) := by
    rw [hW0]
    exact ((Zah _ _ (by simp <;> omega)).trans (Zaf _ _))
  have hbr : ∃ C : Array Value, W0.heap[w.heap.size + 1]? = some (.cells C 125 (0, 0)) ∧ C.size = 9 := by
    rw [hW0]
    exact ⟨_, Zat _ _ _, rfl⟩
  have hbw : Below w.heap.size w W0 := by
    rw [hW0]
    repeat first | exact Below.refl _ _ | (refine Below.alloc ?_ (by simp <;> omega) _)
  clear hW0
  have HG := hideP (HG9.out.below hbw)
  clear HG9
  have HBW := hideP hbw
  clear hbw
  generalize hN : w.heap.size = N at *
  clear hN
  generalize hB1 : N + 1 = B1 at *
  have o1 : N < B1 := by omega
  clear hB1
  have H0 := hideP hb0
  clear hb0
  obtain ⟨Cr, hbr, s_B1⟩ := hbr
  have Hr := hideP hbr
  clear hbr
  refine Zae (fun K2 HK2 => ?_)
  refine Zae (fun K1 HK1 => ?_)
  refine wp_region_list ?_
  have hS := Below.refl W0.heap.size W0
  refine Zad rfl (fun K hK => ?_)
  go_simp
  refine hK _ _ ?_
  clear hK K
  refine Zax rfl 125 (.tmp 3) 8 rfl rfl (N) (0) (pt (x) (y) (i)) rfl _ (Zag ((hS.block _ (Zab H0.out)).trans H0.out)) Zed rfl (infoPt (Zau _ _ _)) ?_
  simp only [Zs, Zz]
  refine Zad rfl (fun K hK => ?_)
  refine ZbM (.tmp 7) (.tmp 8) _ 9 rfl rfl rfl rfl (en Tryz.func111) (ZjF (HG.out.below hS) (x) (y) hx hy i he) ?_
  intro x4 hbc
  refine hK _ _ ?_
  clear hK K
  have hS9 := hS.trans (hbc.mono hS.size)
  clear hS hbc
  have hS := hS9
  clear hS9
  simp only [Zs, Zz]
  refine Zad rfl (fun K hK => ?_)
  go_simp
  refine hK _ _ ?_
  clear hK K
  refine wpList_nil ?_
  refine HK1.out _ _ ?_
  clear HK1 K1
  have HG9 := hideP (HG.out.below hS)
  have H09 := hideP ((hS.block _ (Zab H0.out)).trans H0.out)
  have Hr9 := hideP ((hS.block _ (Zab Hr.out)).trans Hr.out)
  have HBW9 := hideP (HBW.out.trans (hS.mono (Nat.le_of_lt (Zab H0.out))))
  clear hS HG HBW H0 Hr 
  have HG := HG9
  clear HG9
  have HBW := HBW9
  clear HBW9
  have H0 := H09
  clear H09
  have Hr := Hr9
  clear Hr9
  as_aux_lemma =>
    refine Zae (fun K1 HK1 => ?_)
    refine wp_region_list ?_
    have hS := Below.refl x4.heap.size x4
    refine Zad rfl (fun K hK => ?_)
    go_simp
    refine hK _ _ ?_
    clear hK K
    refine Zad rfl (fun K hK => ?_)
    go_simp
    refine hK _ _ ?_
    clear hK K
    refine wpList_nil ?_
    refine HK1.out _ _ ?_
    clear HK1 K1
    clear hS
    refine wp_cond_false rfl ?_
    refine wp_skip ?_
    refine HK2.out _ _ ?_
    clear HK2 K2
    refine Zae (fun K1 HK1 => ?_)
    refine wp_region_list ?_
    refine Zad rfl (fun K hK => ?_)
    go_simp
    refine hK _ _ ?_
    clear hK K
    refine Zad rfl (fun K hK => ?_)
    go_simp
    refine hK _ _ ?_
    clear hK K
    refine Zax rfl 32 (.tmp 16) 17 rfl rfl N 4 (nv y) rfl _ (pt_y H0.out) underE rfl (infoE (Zao _)) ?_
    simp only [Zs, Zz]
    refine Zad rfl (fun K hK => ?_)
    refine ZbM (.tmp 15) (.tmp 17) _ 18 rfl rfl rfl rfl (en Tryz.func183) (Zgp HG.out y hy) ?_
    intro x91 hbc
    refine hK _ _ ?_
    clear hK K
    simp only [Zs, Zz]
    refine Zad rfl (fun K hK => ?_)
    go_simp
    refine hK _ _ ?_
    clear hK K
    have f0 := (hbc.block _ (Zab H0.out)).trans H0.out
    refine Zav rfl 32 (.tmp 19) (.tmp 18) rfl rfl N 4 (nv (rest m (kneg m (y)))) rfl rfl (ZfY f0 (by rw [Zau, Zao]; omega)) (infoE (Zao _)) (Zba _) ?_
    have g0 := Za9 (nv (rest m (kneg m (y)))).toList 4 f0
    rw [Zny] at g0
    have hB := But.sets (nv (rest m (kneg m (y)))).toList 4 (But.refl N x91)
    generalize World.setCells x91 N 4 (nv (rest m (kneg m (y)))).toList = x92 at g0 hB ⊢
    refine wpList_nil ?_
    refine HK1.out _ _ ?_
    clear HK1 K1
    have fr := (hB.same _ (by omega)).trans ((hbc.block _ (Zab Hr.out)).trans Hr.out)
    have hQ := KQ.start fr s_B1
    refine Zae (fun K1 HK1 => ?_)
    refine wp_region_list ?_
    refine Zax rfl 125 (.tmp 3) 20 rfl rfl N 0 (pt x (rest m (kneg m (y))) i) rfl _ (Zag g0) Zed rfl (infoPt (Zau _ _ _)) ?_
    simp only [Zs, Zz]
    refine Zav rfl 125 (.tmp 4) (.tmp 20) rfl rfl B1 0 (pt x (rest m (kneg m (y))) i) rfl rfl (hQ.there (Zau _ _ _)) (infoPt (Zau _ _ _)) (Zdm _ _ _) ?_
    have g1 := hQ.put (C := pt x (rest m (kneg m (y))) i) (Zau _ _ _)
    have hS := hQ.store (C := pt x (rest m (kneg m (y))) i) (Zau _ _ _)
    generalize World.setCells x92 B1 0 (pt x (rest m (kneg m (y))) i).toList = x93 at g1 hS ⊢
    refine Zad rfl (fun K hK => ?_)
    go_simp
    refine hK _ _ ?_
    clear hK K
    refine wpList_nil ?_
    refine HK1.out _ _ ?_
    refine wp_ret ?_
    exact bodyPost_ret_by (Zbs rfl rfl rfl (loadC _ B1 0 125 (pt x (rest m (kneg m (y))) i) _ (Zag g1) Zed rfl (infoPt (Zau _ _ _)))) rfl ⟨rfl, HBW.out.trans ((hbc.mono (Nat.le_of_lt (Zab H0.out))).trans (hB.below.trans (hS.below.mono (by omega))))⟩
def negP (m : Nat) (b x y : K) (i : Bool) : P3 := if goodN m b x y i = 0 then (x, rest m (kneg m y), i) else (k0, k0, false)
section
variable {w : World} {D : Dt} (HG : GAt w D.g D.p D.m D.b)
include HG
theorem Zlz (X Y Z : EX) (C : CX) (hX : Fits ((al D).d X)) (hY : Fits ((al D).d Y)) (h : goodN D.m D.b ((al D).d X) ((al D).d Y) ((al D).cx C) = 0) (hZ : (al D).d Z = rest D.m (kneg D.m ((al D).d Y))) : FactOK Tryz.prog (al D) w (119, [gp0, ptE X Y C], .tup (ptE X Z C) (iE 0)) :=
  ⟨en Tryz.func119, fun β V hV => by
    have := Zly (HG.below hV) _ _ hX hY _ h
    rw [← hZ] at this
    simp only [Al.sv, List.map_cons, List.map_nil, Zbo]
    exact this⟩
end
section
variable {w : World} {c g p m : Nat} {b bx bY : K} {kk : Nat} (hG : CAt w c g p m b bx bY kk) (x y : K) (hx : Fits x) (hy : Fits y)
include hG hx hy
theorem ZhY (i : Bool) (e0 : Int) (he : goodN m b x y i = e0) (h : runG fitA [] (factT [(111, [gp0, P0], iE e0)]) (xlC false) Tryz.f119 [gp0, P0] = some (.tup (ptE (.c 0) (.c 0) (.lit false)) (iE e0))) : FactOK Tryz.prog (al ⟨m, g, p, b, bx, bY, 0, vA x y x y (k0, k0, k0) (k0, k0, k0) (k0, k0, i), bA i (k0, k0, i) i, c⟩) w (119, [gp0, P0], .tup (ptE (.c 0) (.c 0) (.lit false)) (iE e0)) :=
  ⟨en Tryz.func119, fun β V hV => by
    have := Zcp (hG.below hV) 0 (vA x y x y (k0, k0, k0) (k0, k0, k0) (k0, k0, i)) (bA i (k0, k0, i) i) (fitsA hx hy hx hy) false (fun h => by cases h) [] trivial [(111, [gp0, P0], iE e0)] ⟨ZbT (hG.below hV).ga (.v 0) (.v 1) (.at_ 0) (by exact hx) (by exact hy) he, trivial⟩ Tryz.func119 h
    simp only [Al.sv, List.map_cons, List.map_nil, Zbo] at this ⊢
    exact this⟩
theorem Znz (i : Bool) : Calls Tryz.prog 41 #[.pointer (some ⟨c, 0, none⟩), .agg (pt x y i)] w fun e w' => e = .returned (.tuple #[.agg (ptS (negP m b x y i)), .int .i64 (goodN m b x y i)]) ∧ Below w.heap.size w w' := by
  unfold negP
  have bad : ∀ e0 : Int, goodN m b x y i = e0 → runG fitA [] (factT [(111, [gp0, P0], iE e0)]) (xlC false) Tryz.f119 [gp0, P0] = some (.tup (ptE (.c 0) (.c 0) (.lit false)) (iE e0)) → runG fitA [] (factT [(119, [gp0, P0], .tup (ptE (.c 0) (.c 0) (.lit false)) (iE e0))]) (xlC false) Tryz.f41 [cp0, P0] = some (.tup (ptE (.c 0) (.c 0) (.lit false)) (iE e0)) → Calls Tryz.prog 41 #[.pointer (some ⟨c, 0, none⟩), .agg (pt x y i)] w fun e w' => e = .returned (.tuple #[.agg (ptS (k0, k0, false)), .int .i64 e0]) ∧ Below w.heap.size w w' := fun e0 he h1 h => by
    have hF : Zcm Tryz.prog (al ⟨m, g, p, b, bx, bY, 0, vA x y x y (k0, k0, k0) (k0, k0, k0) (k0, k0, i), bA i (k0, k0, i) i, c⟩) w [(119, [gp0, P0], .tup (ptE (.c 0) (.c 0) (.lit false)) (iE e0))] := ⟨ZhY hG x y hx hy i e0 he h1, trivial⟩
    have := Zcp hG 0 _ _ (fitsA hx hy hx hy) false (fun h => by cases h) [] trivial _ hF Tryz.func41 h
    simp only [Al.sv, List.map_cons, List.map_nil, Zbo] at this
    exact this
  rcases ZbC m b x y i with he | he | he
  · rw [he, if_pos rfl]
    have main : ∀ q : K, q = rest m (kneg m y) → Calls Tryz.prog 41 #[.pointer (some ⟨c, 0, none⟩), .agg (pt x y i)] w fun e w' => e = .returned (.tuple #[.agg (ptS (x, q, i)), .int .i64 0]) ∧ Below w.heap.size w w' := fun q hq => by
      have hF : Zcm Tryz.prog (al ⟨m, g, p, b, bx, bY, 0, vA x y x y (k0, k0, k0) (k0, k0, k0) (k0, q, i), bA i (k0, k0, i) i, c⟩) w [(119, [gp0, P0], .tup (ptE (.v 0) (.v 6) (.at_ 0)) (iE 0))] := ⟨Zlz hG.ga (.v 0) (.v 1) (.v 6) (.at_ 0) (by exact hx) (by exact hy) he hq, trivial⟩
      have := Zcp hG 0 _ _ (fitsA hx hy hx hy) false (fun h => by cases h) [] trivial _ hF Tryz.func41 (args := [cp0, P0]) (y := .tup (ptE (.v 0) (.v 6) (.at_ 0)) (iE 0)) (by kernel_rfl)
      simp only [Al.sv, List.map_cons, List.map_nil, Zbo] at this
      exact this
    exact main _ rfl
  · rw [he, if_neg (by decide)]
    exact bad 70 he (by kernel_rfl) (by kernel_rfl)
  · rw [he, if_neg (by decide)]
    exact bad 71 he (by kernel_rfl) (by kernel_rfl)
end
end Go.Proofs.YtcbdbnfgnonacaaGreat.P4
namespace Go.Proofs.YtcbdbnfgnonacaaGreat
open Go.RowKit Go.Shelf
open P4 (dTimes dOut dAdd dSum P3)
def resP (e : Int) (q : P3) : P3 := if e = 0 then q else (0, 0, false)
def Sh (n : Nat) (v : Value) : Prop := ∃ a l c, v = .slice a l c ∧ l ≠ n
theorem Sh.one {n : Nat} {v : Value} (h : Sh n v) : v.oneCell' = true := by
  obtain ⟨a, l, c, rfl, _⟩ := h
  rfl
structure QE (w : World) (v : Value) (n : Nat) (q : P3) (e : Int) : Prop where
  ok : e = 0 → QD w v n q.1 q.2.1 q.2.2
  no : e ≠ 0 → v = nilP
theorem QE.moved {w w' : World} {v : Value} {n : Nat} {q : P3} {e : Int} (h : QE w v n q e) (hb : Below w.heap.size w w') : QE w' v n q e := ⟨fun h0 => (h.ok h0).moved hb, h.no⟩
theorem LL.sh {w : World} {v : Value} {n x : Nat} (hn : 2 ≤ n) (h : LL w v n [x]) : Sh n v := by
  obtain ⟨g, o, c, rfl, _⟩ := h.ex
  exact ⟨_, _, _, rfl, by simp; omega⟩
def TqE (n : Nat) (q : P3) (e : Int) (v : Value) (w : World) : Prop := ∃ a b i, v = .tuple #[.agg #[a, b, .bool i], .int .i64 e] ∧ Sh n a ∧ Sh n b ∧ QE w (.agg #[a, b, .bool i]) n q e
theorem Zc4 (n : Nat) (q : P3) (e : Int) : Stab (TqE n q e) := by
  rintro v w w' ⟨a, b, i, e1, h1, h2, h3⟩ hb
  exact ⟨a, b, i, e1, h1, h2, h3.moved hb⟩
theorem PtE.te {w : World} {r : Ending} {n : Nat} {q : P3} {e : Int} (hn : 2 ≤ n) (h : PtE w r n q e) : ∃ v, r = .returned v ∧ TqE n q e v w := by
  obtain ⟨t, e1, h1, h2⟩ := h
  by_cases he : e = 0
  · obtain ⟨a, b, rfl, k1, k2⟩ := (h1 he).ex
    exact ⟨_, e1, a, b, _, rfl, k1.sh hn, k2.sh hn, ⟨h1, h2⟩⟩
  · have := h2 he
    subst this
    exact ⟨_, e1, _, _, _, rfl, ⟨_, _, _, rfl, by omega⟩, ⟨_, _, _, rfl, by omega⟩, ⟨h1, h2⟩⟩
theorem LW.but {w w' : World} {v : Value} {n : Nat} {f : Nat → Nat} (h : LW w v n f) {B t : Nat} {x y : Value} {i : Bool} (hB : BX w B #[x, y, .bool i] t) (hx : Sh n x) (hy : Sh n y) (hb : But B w w') : LW w' v n f := by
  obtain ⟨g, o, c', e, h1, h2, hg, hc⟩ := h.ex
  refine ⟨g, o, c', e, h1, h2, Nat.lt_of_lt_of_le hg hb.below.size, fun j hj => ?_⟩
  have := hc j hj
  by_cases hgB : g = B
  · subst hgB
    rw [ZbB hB.heap] at this
    obtain ⟨_, _, _, rfl, _⟩ := hx
    obtain ⟨_, _, _, rfl, _⟩ := hy
    match o + j, this with
    | 0, this => cases this
    | 1, this => cases this
    | 2, this => cases this
    | _ + 3, this => cases this
  · unfold World.cell? at this ⊢
    simp only [hb.same g hgB]
    exact this
theorem LL.but {w w' : World} {v : Value} {n : Nat} {xs : List Nat} (h : LL w v n xs) {B t : Nat} {x y : Value} {i : Bool} (hB : BX w B #[x, y, .bool i] t) (hx : Sh n x) (hy : Sh n y) (hb : But B w w') : LL w' v n xs := by
  obtain ⟨g, o, c', e, h1, h2, hg, hc⟩ := h.ex
  refine ⟨g, o, c', e, h1, h2, Nat.lt_of_lt_of_le hg hb.below.size, fun j z hj => ?_⟩
  obtain ⟨u, hu, hlu⟩ := hc j z hj
  refine ⟨u, ?_, hlu.but hB hx hy hb⟩
  by_cases hgB : g = B
  · subst hgB
    obtain ⟨g', o', c'', e', _⟩ := hlu.ex
    subst e'
    rw [ZbB hB.heap] at hu
    obtain ⟨_, l1, _, rfl, k1⟩ := hx
    obtain ⟨_, l2, _, rfl, k2⟩ := hy
    match o + j, hu with
    | 0, hu => cases hu; exact absurd rfl k1
    | 1, hu => cases hu; exact absurd rfl k2
    | 2, hu => cases hu
    | _ + 3, hu => cases hu
  · unfold World.cell? at hu ⊢
    simp only [hb.same g hgB]
    exact hu
theorem QE.but {w w' : World} {v : Value} {n : Nat} {q : P3} {e : Int} (h : QE w v n q e) {B t : Nat} {x y : Value} {i : Bool} (hB : BX w B #[x, y, .bool i] t) (hx : Sh n x) (hy : Sh n y) (hb : But B w w') : QE w' v n q e :=
  ⟨fun h0 => by
    obtain ⟨a, b, e1, h1, h2⟩ := (h.ok h0).ex
    exact ⟨a, b, e1, h1.but hB hx hy hb, h2.but hB hx hy hb⟩, h.no⟩
def Sl (v : Value) : Prop := ∃ a l c, v = .slice a l c
theorem LW.sl {w : World} {v : Value} {n : Nat} {f : Nat → Nat} (h : LW w v n f) : Sl v := by
  obtain ⟨g, o, c, rfl, _⟩ := h.ex
  exact ⟨_, _, _, rfl⟩
theorem LL.sl {w : World} {v : Value} {n : Nat} {xs : List Nat} (h : LL w v n xs) : Sl v := by
  obtain ⟨g, o, c, rfl, _⟩ := h.ex
  exact ⟨_, _, _, rfl⟩
def DV (v : Value) (w : World) : Prop := ∃ (mv : Value) (fo : Nat) (tv b r x y : Value), v = .agg #[mv, .int .u64 (fo : Int), tv, .int .i64 1, b, r, x, y, .bool false] ∧ (Sl mv ∧ Sl tv ∧ Sl b ∧ Sl r ∧ Sl x ∧ Sl y) ∧ DCv w (.agg #[mv, .int .u64 (fo : Int), tv, .int .i64 1, b, r, x, y, .bool false]) 4 nBnP 3 nBnR 1 2
theorem dv_any (w : World) : Calls Tryz.prog 18 #[] w fun r w' => (∃ v, r = .returned v ∧ DV v w') ∧ Below w.heap.size w w' := by
  refine (Zlo w).mono ?_
  rintro r w' ⟨⟨v, e, h⟩, hb⟩
  obtain ⟨mv, fo, tv, b, r, x, y, rfl, h1, h2, h3, h4, h5, h6⟩ := h.ex
  have h7 := h1
  obtain ⟨mv', fo', tv', e', h8, h9, _⟩ := h7.ex
  cases e'
  exact ⟨⟨_, e, mv, fo, tv, b, r, x, y, rfl, ⟨h2.sl, h9.sl, h3.sl, h4.sl, h5.sl, h6.sl⟩, mv, fo, tv, b, r, x, y, rfl, h1, h3, h4, h5, h6⟩, hb⟩
theorem hB3 : 3 < nBnP ∧ 1 < nBnP ∧ 2 < nBnP := by decide +kernel
theorem Zgq : P4.cB = 3 := by decide +kernel
theorem fer_is : Ferm nBnP := Zkn
theorem hR256 : nBnR < 2 ^ 256 := by decide +kernel
theorem ZeG : W4.R = 18446744073709551616 ^ 4 := by decide +kernel
theorem Zmj {k : Nat} (hk : k < 2 ^ 256) : bl k ≤ 256 := by
  rcases Nat.lt_or_ge 256 (bl k) with h | h
  · have := (ZfX k 256).1 h
    omega
  · exact h
section
variable {v : Value} {w : World} (h : MD4 v w) {x y : Nat} (hx : P4.Fits x) (hy : P4.Fits y) (i : Bool)
include h hx hy
theorem lgood {g : Int} (hg : goodD nBnP x y 3 i = g) : Calls Tryz.prog 35 #[v, .agg (P4.pt x y i)] w fun r w' => r = .returned (.int .i64 g) ∧ Below w.heap.size w w' := by
  obtain ⟨c, rfl, hm⟩ := h
  obtain ⟨r, g1, g2, h0, h1, h2⟩ := hm.ex
  obtain ⟨f, hMF, _⟩ := h1.ga.ok.ex
  have e := P4.Zc2 hMF (by decide +kernel) 3 x y i
  have hc := P4.Zf0 h1 x y hx hy i
  rw [Zgq, ← e, hg] at hc
  exact hc
theorem lgroup {g gr : Int} (hg : goodD nBnP x y 3 i = g) (hgr : (if g = 0 then (if (dTimes nBnP x y i nBnR 256).2.2 = true then 0 else 72) else g) = gr) : Calls Tryz.prog 28 #[v, .agg (P4.pt x y i)] w fun r w' => r = .returned (.int .i64 gr) ∧ Below w.heap.size w w' := by
  obtain ⟨c, rfl, hm⟩ := h
  obtain ⟨r, g1, g2, h0, h1, h2⟩ := hm.ex
  obtain ⟨f, hMF, _⟩ := h1.ga.ok.ex
  have e := P4.Zc2 hMF (by decide +kernel) 3 x y i
  have hc := P4.ZjJ h1 x y hx hy hR256 i
  have hb : P4.Zc3 nBnP P4.cB x y i nBnR = gr := by
    rw [Zgq, ← hgr]
    rw [hg] at e
    by_cases h0 : g = 0
    · rw [if_pos h0]
      exact P4.ZjL hMF (by decide +kernel) (e.symm.trans h0) (Zmj hR256)
    · rw [if_neg h0]
      unfold P4.Zc3
      rw [if_neg (fun h9 => h0 (e.trans h9)), ← e]
  rw [hb] at hc
  exact hc
theorem lmul {g : Int} {q : P3} {k : Nat} (hk : k < 2 ^ 256) (hg : goodD nBnP x y 3 i = g) {D : P3} (hD : dTimes nBnP x y i k 256 = D) (hq : resP g D = q) : Calls Tryz.prog 43 #[v, .agg (P4.pt x y i), .agg (W4.cs (limb k))] w fun r w' => r = .returned (.tuple #[.agg (P4.pt q.1 q.2.1 q.2.2), .int .i64 g]) ∧ Below w.heap.size w w' := by
  subst hD
  obtain ⟨c, rfl, hm⟩ := h
  obtain ⟨r, g1, g2, h0, h1, h2⟩ := hm.ex
  obtain ⟨f, hMF, _⟩ := h1.ga.ok.ex
  have e := P4.Zc2 hMF (by decide +kernel) 3 x y i
  have hc := P4.ZjK h1 x y hx hy i k hk
  rw [hg] at e
  have hb : P4.mulP nBnP P4.cB x y i k = q := by
    rw [Zgq, ← hq]
    unfold resP
    by_cases h0 : g = 0
    · rw [if_pos h0]
      exact P4.Znd hMF (by decide +kernel) (e.symm.trans h0) (Zmj hk)
    · rw [if_neg h0]
      unfold P4.mulP
      rw [if_neg (fun h9 => h0 (e.trans h9))]
      rfl
  rw [hb, Zgq, ← e] at hc
  exact hc
theorem lneg {g : Int} {q : P3} (hg : goodD nBnP x y 3 i = g) {D : P3} (hD : dNeg nBnP x y i = D) (hq : resP g D = q) : Calls Tryz.prog 41 #[v, .agg (P4.pt x y i)] w fun r w' => r = .returned (.tuple #[.agg (P4.pt q.1 q.2.1 q.2.2), .int .i64 g]) ∧ Below w.heap.size w w' := by
  subst hD
  obtain ⟨c, rfl, hm⟩ := h
  obtain ⟨r, g1, g2, h0, h1, h2⟩ := hm.ex
  obtain ⟨f, hMF, _⟩ := h1.ga.ok.ex
  have e := P4.Zc2 hMF (by decide +kernel) 3 x y i
  have hc := P4.Znz h1 x y hx hy i
  rw [hg] at e
  have hb : P4.negP nBnP P4.cB x y i = q := by
    rw [Zgq, ← hq]
    unfold resP P4.negP
    by_cases h0 : g = 0
    · rw [if_pos h0, if_pos (e.symm.trans h0)]
      have hl := Zbr (hg.trans h0)
      unfold dNeg
      cases i with
      | true =>
        rw [if_pos rfl]
        obtain ⟨rfl, rfl⟩ := (P4.Zby (e.symm.trans h0)).1 rfl
        rfl
      | false =>
        rw [if_neg (by decide)]
        show (x, (nBnP - y % nBnP) % nBnP, false) = _
        rw [Nat.mod_eq_of_lt hl.2, Nat.zero_add]
    · rw [if_neg h0, if_neg (fun h9 => h0 (e.trans h9))]
      rfl
  rw [hb, Zgq, ← e] at hc
  exact hc
theorem ladd {u z : Nat} (hu : P4.Fits u) (hz : P4.Fits z) (j : Bool) {e0 : Int} {q : P3} (he : (if goodD nBnP x y 3 i = 0 then goodD nBnP u z 3 j else goodD nBnP x y 3 i) = e0) {D : P3} (hD : dAdd nBnP x y i u z j = D) (hq : resP e0 D = q) : Calls Tryz.prog 38 #[v, .agg (P4.pt x y i), .agg (P4.pt u z j)] w fun r w' => r = .returned (.tuple #[.agg (P4.pt q.1 q.2.1 q.2.2), .int .i64 e0]) ∧ Below w.heap.size w w' := by
  subst hD
  obtain ⟨c, rfl, hm⟩ := h
  obtain ⟨r, g1, g2, h0, h1, h2⟩ := hm.ex
  obtain ⟨f, hMF, _⟩ := h1.ga.ok.ex
  have e := P4.Zc2 hMF (by decide +kernel) 3 x y i
  have e2 := P4.Zc2 hMF (by decide +kernel) 3 u z j
  have hc := P4.Znc h1 x y hx hy u z hu hz i j
  have hn : P4.addN nBnP P4.cB x y i u z j = e0 := by
    rw [Zgq, ← he]
    unfold P4.addN
    rw [e, e2]
  have hb : P4.addP nBnP P4.cB x y i u z j = q := by
    rw [← hq]
    unfold resP
    by_cases h0 : e0 = 0
    · rw [if_pos h0]
      rw [h0] at hn
      rw [Zgq] at hn ⊢
      have g0 : P4.goodN nBnP 3 x y i = 0 := by
        unfold P4.addN at hn
        by_cases h9 : P4.goodN nBnP 3 x y i = 0
        · exact h9
        · rw [if_neg h9] at hn
          exact hn
      have g1 : P4.goodN nBnP 3 u z j = 0 := by
        unfold P4.addN at hn
        rwa [if_pos g0] at hn
      exact P4.Zne hMF (by decide +kernel) fer_is g0 g1
    · rw [if_neg h0]
      unfold P4.addP
      rw [if_neg (fun h9 => h0 (hn.symm.trans h9))]
      rfl
  rw [hb, hn] at hc
  exact hc
end
section
variable (hFM : FM 4 nBnP) {w : World} {o : Value} (ho : DCv w o 4 nBnP 3 nBnR 1 2) {x y : Nat} (hx : P4.Fits x) (hy : P4.Fits y) {i : Bool} {p : Value} (hp : QD w p 4 x y i)
include hFM ho hx hy hp
theorem ogood {g : Int} (hg : goodD nBnP x y 3 i = g) : Calls Tryz.prog 36 #[o, p] w fun r w' => r = .returned (.int .i64 g) ∧ Below w.heap.size w w' := by
  rw [show P4.Fits = fun x => x < W4.R from rfl, ZeG] at hx hy
  obtain ⟨mv, fo, tv, b, r, bx, by_, rfl, hF, h2, h3, h4, h5⟩ := ho.ex
  obtain ⟨pa, pb, rfl, hpa, hpb⟩ := hp.ex
  have hF2 := hF
  obtain ⟨mv', fo', tv', e, h6, h7, h8⟩ := hF2.ex
  cases e
  have := Zgb (by decide) hFM x y 3 i hx hy w mv tv b r bx by_ (.bool false) pa pb fo hF h6 h2 hB3.1 ⟨h3.isSlice, h3.oneC⟩ ⟨h4.isSlice, h4.oneC⟩ ⟨h5.isSlice, h5.oneC⟩ ⟨rfl, rfl⟩ hpa hpb
  rw [hg] at this
  exact this
theorem ogroup {g gr : Int} (hg : goodD nBnP x y 3 i = g) (hgr : (if g = 0 then (if (dTimes nBnP x y i nBnR 256).2.2 = true then 0 else 72) else g) = gr) : Calls Tryz.prog 37 #[o, p] w fun r w' => r = .returned (.int .i64 gr) ∧ Below w.heap.size w w' := by
  rw [show P4.Fits = fun x => x < W4.R from rfl, ZeG] at hx hy
  have := ZjQ (by decide) hFM hB3 ho ⟨hx, hy⟩ hp
  rw [hg, hgr] at this
  exact this
theorem omul {g : Int} {k : Nat} {kv : Value} (hk : LW w kv 4 (limb k)) (hg : goodD nBnP x y 3 i = g) {D : P3} (hD : dTimes nBnP x y i k 256 = D) : Calls Tryz.prog 44 #[o, p, kv] w fun r w' => (∃ v, r = .returned v ∧ TqE 4 D g v w') ∧ Below w.heap.size w w' := by
  subst hD
  rw [show P4.Fits = fun x => x < W4.R from rfl, ZeG] at hx hy
  have := Znh (by decide) hFM hB3 ho ⟨hx, hy⟩ hp hk
  rw [hg] at this
  exact this.mono fun r w' h => ⟨h.1.te (by decide), h.2⟩
theorem oneg {g : Int} (hg : goodD nBnP x y 3 i = g) {D : P3} (hD : dNeg nBnP x y i = D) : Calls Tryz.prog 42 #[o, p] w fun r w' => (∃ v, r = .returned v ∧ TqE 4 D g v w') ∧ Below w.heap.size w w' := by
  subst hD
  rw [show P4.Fits = fun x => x < W4.R from rfl, ZeG] at hx hy
  have := Zng (by decide) hFM hB3 ho ⟨hx, hy⟩ hp
  rw [hg] at this
  exact this.mono fun r w' h => ⟨h.1.te (by decide), h.2⟩
theorem oadd {u z : Nat} (hu : P4.Fits u) (hz : P4.Fits z) {j : Bool} {q : Value} (hq : QD w q 4 u z j) {e0 : Int} (he : (if goodD nBnP x y 3 i = 0 then goodD nBnP u z 3 j else goodD nBnP x y 3 i) = e0) {D : P3} (hD : dAdd nBnP x y i u z j = D) : Calls Tryz.prog 39 #[o, p, q] w fun r w' => (∃ v, r = .returned v ∧ TqE 4 D e0 v w') ∧ Below w.heap.size w w' := by
  subst hD
  rw [show P4.Fits = fun x => x < W4.R from rfl, ZeG] at hx hy hu hz
  have := Znf (by decide) hFM hB3 ho ⟨hx, hy⟩ ⟨hu, hz⟩ hp hq
  rw [he] at this
  exact this.mono fun r w' h => ⟨h.1.te (by decide), h.2⟩
end
theorem Zko {e : Int} {q : P3} (h : e = 0 → q.1 < W4.R ∧ q.2.1 < W4.R) : (resP e q).1 < W4.R ∧ (resP e q).2.1 < W4.R := by
  unfold resP
  by_cases h0 : e = 0
  · rw [if_pos h0]; exact h h0
  · rw [if_neg h0]; exact ⟨by decide +kernel, by decide +kernel⟩
theorem Zde {w : World} {t : Value} {e : Int} {q p : P3} (hp : resP e q = p) (hl : p.1 < W4.R ∧ p.2.1 < W4.R) (hq : QE w t 4 q e) : Calls Tryz.prog 40 #[.agg (pn p.1 0 p.2.1 0 p.2.2), .int .i64 e, t, .int .i64 e] w fun r w' => r = .returned (.bool true) ∧ Below w.heap.size w w' := by
  rw [ZeG] at hl
  by_cases he : e = 0
  · subst he
    have hp : q = p := hp
    subst hp
    obtain ⟨a, b, e1, h1, h2⟩ := (hq.ok rfl).ex
    exact Zlu (by decide) _ _ hl.1 hl.2 (by decide +kernel) _ w t ⟨a, b, e1, h1, h2⟩
  · obtain rfl := hq.no he
    unfold resP at hp
    rw [if_neg he] at hp
    subst hp
    exact Zlv he w
theorem lt_R {a : Nat} (h : a < nBnP) : a < W4.R := Nat.lt_trans h (by decide +kernel)
theorem Zn0 {x y u z : Nat} {i j : Bool} (hx : x < nBnP ∧ y < nBnP) (hu : u < nBnP ∧ z < nBnP) : (dAdd nBnP x y i u z j).1 < nBnP ∧ (dAdd nBnP x y i u z j).2.1 < nBnP := by
  have hm : 0 < nBnP := by decide +kernel
  unfold dAdd
  split
  · exact hu
  · split
    · exact hx
    · unfold dSum
      split
      · split
        · exact ⟨hm, hm⟩
        · exact ⟨Nat.mod_lt _ hm, Nat.mod_lt _ hm⟩
      · exact ⟨Nat.mod_lt _ hm, Nat.mod_lt _ hm⟩
open P4 (P3)
theorem ZcF {ops : Array Oper} {n q i j : Nat} (h : i ≠ n) : waits .any (waitE ops n q) i j = waits .any ops i j := by
  unfold waits
  rw [Zcw, if_neg (Ne.symm h)]
theorem ZbV (ops : Array Oper) (n q i : Nat) : dOf (waitE ops n q) i = dOf ops i := by
  unfold dOf
  rw [Zcw]
  by_cases h : n = i
  · rw [if_pos h]
    cases ops[i]? <;> rfl
  · rw [if_neg h]
theorem Zdf (ops : Array Oper) (n q i : Nat) : isAl (waitE ops n q) i = isAl ops i := by
  unfold isAl
  rw [Zcw]
  by_cases h : n = i
  · rw [if_pos h]
    cases ops[i]? <;> rfl
  · rw [if_neg h]
theorem ZhZ {P : Program} {ops : Array Oper} {Q : Exit → Act → World → Prop} {I : World → Prop} {Ps : List VP} {l : List Value} {ds : List Deferred} {q i : Nat} (hi : i < Ps.length) (h : OpOK P .any ops Q I Ps l ds i) : OpOK P .any (waitE ops Ps.length q) Q I Ps l ds i := by
  intro T w K hI hO hW hK
  rw [Zcx]
  refine h T w K hI (fun s hs => hO s ?_) (fun j hj => ?_) (fun v w' hb hp ha => ?_)
  · unfold outB at hs ⊢
    rw [List.all_eq_true] at hs ⊢
    intro j hj
    have := hs j hj
    rwa [ZbV, ZcF (by have := List.mem_range.1 hj; omega)]
  · have := hW j (by rwa [ZcF (by omega)])
    rwa [ZbV] at this
  · have := hK v w' hb hp (fun h9 => ha (by rwa [Zdf] at h9))
    rwa [ZbV] at this
theorem ZeH {p p' : Nat → Prop} : ∀ (Ps : List VP) (i : Nat), (∀ j, j < i + Ps.length → p j → p' j) → AllOK p Ps i → AllOK p' Ps i
  | [], _, _, _ => trivial
  | _ :: Ps, i, h, ho => ⟨h i (by simp) ho.1, ZeH Ps (i + 1) (fun j hj => h j (by simp only [List.length_cons]; omega)) ho.2⟩
theorem Zc5 {P : Program} {ops : Array Oper} {Q : Exit → Act → World → Prop} {W : World} {L : List Value} {ds : List Deferred} {kn : List (Nat × Value)} {id m : Nat} {b : Bool} (q : Nat) (Ds : List PD) (live : List Nat) (hL : L.length = m) (hk : KS L kn) (hst : StabD Ds) (hop : AllOK (OpOK P .any ops (Qn Q) (Up W) (PDs Ds) L ds) (PDs Ds) 0)
    (hend : ∀ w, Up W w → EndD w Ds (fun vals => Apt ops Ds.length vals → ∀ L', L'.length = m → KS L' (nextK ((List.range Ds.length).map (dOf ops)) vals kn live) → wpOp P ops (Qn Q) Ds.length (fun a w => wpOp P ops (Qn Q) (Ds.length + 1) (fun a w => Qn Q .normal a w) a w) { tmps := L'.toArray, defers := ds } w))
    (hm : P.follows .mixedOrders = true := by kernel_rfl) (hchk : (xchk ops Ds.length q && (((List.range ops.size).all fun i => match ops[i]? with
      | some o => o.after.all fun e => !Region.binds .any e || decide (e.on < i)
      | none => false) && (chkD .any (waitE ops Ds.length q) Ds.length m && (decide (Ds.length + 2 = ops.size) && waits .any ops (Ds.length + 1) Ds.length)))) = true := by kernel_rfl) :
    (Code.region id ops b).wp P Q { tmps := L.toArray, defers := ds } W := by
  rw [Bool.and_eq_true, Bool.and_eq_true, Bool.and_eq_true] at hchk
  obtain ⟨hx, hb, hc, hd⟩ := hchk
  obtain ⟨h1, h2⟩ := ZbN hc
  refine ZaY hm hb fun w' hw' => Zff hx _ _ _ _ (by simp) ?_
  have hlen : (PDs Ds).length = Ds.length := Zbg Ds
  have hop' : AllOK (OpOK P .any (waitE ops Ds.length q) (Qn Q) (Up W) (PDs Ds) L ds) (PDs Ds) 0 := ZeH _ _ (fun j hj h => by
    have := ZhZ (q := q) (by omega) h
    rwa [hlen] at this) hop
  have := ZcU (P := P) (ops := waitE ops Ds.length q) (Q := Qn Q) (I := Up W) (w := W) (l := L) (ds := ds) (PDs Ds) (by
    rw [hlen, hL, Zcv]
    simp only [Bool.and_eq_true] at hd ⊢
    exact ⟨hc, hd.1, by rw [ZcF (by omega)]; exact hd.2⟩) ZbI hst.all (Below.refl _ _) (Below.refl _ _).drew hop' (fun w hw => EndP.mono (hend w hw).to (fun vs h ha l' hl' => by
      subst hl'
      rw [hlen] at ha ⊢
      have ha' : Apt ops Ds.length vs := fun i j hij => ha i j (by rw [Zdf, Zdf]; exact hij)
      have := h ha' _ (by rw [ZdK, hL]) (hk.next (by
        have e : (List.range Ds.length).map (dOf (waitE ops Ds.length q)) = (List.range Ds.length).map (dOf ops) := List.map_congr_left fun i _ => ZbV ops _ q i
        rw [← e]; exact h1) (by
        have e : (List.range Ds.length).map (dOf (waitE ops Ds.length q)) = (List.range Ds.length).map (dOf ops) := List.map_congr_left fun i _ => ZbV ops _ q i
        rw [← e, hL]; exact h2) live)
      rw [Zcx]
      have e2 : (fun (a : Act) (w : World) => wpOp P (waitE ops Ds.length q) (Qn Q) (Ds.length + 1) (fun a w => Qn Q .normal a w) a w) = fun a w => wpOp P ops (Qn Q) (Ds.length + 1) (fun a w => Qn Q .normal a w) a w := by
        funext a w
        exact Zcx _ _ _ _
      rw [e2]
      have e3 : TV ((List.range Ds.length).map (dOf (waitE ops Ds.length q))) vs L = TV ((List.range Ds.length).map (dOf ops)) vs L := by
        rw [List.map_congr_left fun i _ => ZbV ops _ q i]
      rw [e3]
      exact this)) w' hw'
  rw [Zcv] at this
  exact this
def TqP (n : Nat) (q : P3) (e : Int) (v : Value) (w : World) : Prop := ∃ a b i, v = .agg #[a, b, .bool i] ∧ Sh n a ∧ Sh n b ∧ QE w (.agg #[a, b, .bool i]) n q e
theorem Zf7 (n : Nat) (q : P3) (e : Int) : Stab (TqP n q e) := by
  rintro v w w' ⟨a, b, i, e1, h1, h2, h3⟩ hb
  exact ⟨a, b, i, e1, h1, h2, h3.moved hb⟩
section
variable {P : Program} {ρ : Operand → Value} {o : Oper}
theorem Zmk {x : Operand} {k : Nat} {a b v : Value} (ho : o.op = .extract x k) (hx : ρ x = .tuple #[a, b]) (hk : (#[a, b] : Array Value)[k]? = some v) (w : World) : (execOp ρ o).run P w = .ok (.value v) w := by
  unfold execOp
  match k, hk with
  | 0, hk => cases hk; simp [ho, hx, go_sem]
  | 1, hk => cases hk; simp [ho, hx, go_sem]
  | _ + 2, hk => cases hk
theorem Zhh {x : Operand} {n : Nat} {q : P3} {e : Int} {u : Value} {w : World} (ho : o.op = .extract x 0) (hx : ρ x = u) (h : TqE n q e u w) : ∃ v w', (execOp ρ o).run P w = .ok (.value v) w' ∧ Below w.heap.size w w' ∧ TqP n q e v w' := by
  obtain ⟨a, b, i, rfl, h1, h2, h3⟩ := h
  exact ⟨_, w, Zmk ho hx rfl w, Below.refl _ _, a, b, i, rfl, h1, h2, h3⟩
theorem Zhi {x : Operand} {n : Nat} {q : P3} {e : Int} {u : Value} {w : World} (ho : o.op = .extract x 1) (hx : ρ x = u) (h : TqE n q e u w) : ∃ v w', (execOp ρ o).run P w = .ok (.value v) w' ∧ Below w.heap.size w w' ∧ Value.int .i64 e = v := by
  obtain ⟨a, b, i, rfl, h1, h2, h3⟩ := h
  exact ⟨_, w, Zmk ho hx rfl w, Below.refl _ _, rfl⟩
theorem Zhj {x y : Operand} {t t2 : TypeId} {g : Int} (ho : o.op = .binOp .neq t x y t2) (hx : ρ x = .int .i64 g) (hy : ρ y = .int .i64 g) (w : World) : (execOp ρ o).run P w = .ok (.value (.bool false)) w := by
  unfold execOp
  simp [ho, hx, hy, go_sem]
theorem Zkp {x y : Operand} {t t2 : TypeId} {a : Nat} (ho : o.op = .binOp .rem t x y t2) (hx : ρ x = .int .u64 (a : Nat)) (hy : ρ y = .int .u64 8) (w : World) : (execOp ρ o).run P w = .ok (.value (.int .u64 ((a % 8 : Nat) : Int))) w := by
  unfold execOp
  have e1 : Int.tmod (a : Int) 8 = ((a % 8 : Nat) : Int) := by rw [Int.tmod_eq_emod_of_nonneg (by omega)]; omega
  have e2 : IntKind.u64.wrap ((a % 8 : Nat) : Int) = ((a % 8 : Nat) : Int) := by rw [IntKind.wrap_u64]; omega
  simp [ho, hx, hy, go_sem]
  try omega
theorem Zml {x y : Operand} {t t2 : TypeId} {a : Nat} {b : Bool} (h8 : decide (a % 8 = 0) = b) (ho : o.op = .binOp .eql t x y t2) (hx : ρ x = .int .u64 ((a % 8 : Nat) : Int)) (hy : ρ y = .int .u64 0) (w : World) : (execOp ρ o).run P w = .ok (.value (.bool b)) w := by
  unfold execOp
  subst h8
  have e3 : ((a : Int) % 8 == 0) = decide (a % 8 = 0) := by rw [Bool.eq_iff_iff, beq_iff_eq, decide_eq_true_eq]; omega
  simp [ho, hx, hy, go_sem, e3]
end
theorem Zdg {P : Program} {ops : List Oper} {Q : Exit → Act → World → Prop} {i d : Nat} {o : Oper} {K : Act → World → Prop} {L : List Value} {ds : List Deferred} {w : World} {v : Value} (ho : ops[i]? = some o) (hg : o.guard = none) (x : Operand) (hop : o.op = .assign x) (hd : o.dst = some d) (hx : Act.eval { tmps := L.toArray, defers := ds } x = v) (h : K { tmps := (L.set d v).toArray, defers := ds } w) : wpOp P ops.toArray Q i K { tmps := L.toArray, defers := ds } w := by
  refine ZaE ho (fun K' hK' => ?_)
  have hw : Region.wanted o (yielded ops.toArray (Act.tmps { tmps := L.toArray, defers := ds })) = true := by
    unfold Region.wanted
    rw [hg]
  rw [if_pos hw]
  unfold Oper.wp
  rw [Zbl hop hx]
  show K' _ _
  rw [hd, Zaa]
  exact hK' _ _ h
theorem KS.setd {T : List Value} {d : Nat} {v : Value} {kn : List (Nat × Value)} (hd : d < T.length) (h : KS T kn) (hc : (kn.map (·.1)).contains d = false) : KS (T.set d v) ((d, v) :: kn) := ⟨by rw [List.getElem?_set_self hd], KS.set1 hd h hc⟩
theorem alP (w : World) : (Instr.alloc 34 true (.tuple #[])).run Tryz.prog w = .ok (.pointer (some ⟨w.heap.size, 0, none⟩)) (w.alloc (.cells (P4.pt 0 0 false) 34 (0, 0))) := by
  rw [P4.Zbh, P4.Za3]
  kernel_rfl
theorem Zkq {ops : List Oper} {Q : Exit → Act → World → Prop} {i : Nat} {o : Oper} {K : Act → World → Prop} {a : Act} {w : World} (ho : ops[i]? = some o) (hg : o.guard = none) (x y : Operand) (hop : o.op = .store 34 x y) (hd : o.dst = none)
    (B : Nat) {a1 b1 a2 b2 : Nat} {j1 j2 : Bool} (hx : a.eval x = .pointer (some ⟨B, 0, none⟩)) (hy : a.eval y = .agg (P4.pt a2 b2 j2)) (hB : BX w B (P4.pt a1 b1 j1) 34)
    (h : ∀ w', But B w w' → BX w' B (P4.pt a2 b2 j2) 34 → K a w') : wpOp Tryz.prog ops.toArray Q i K a w := by
  refine ZaE ho (fun K' hK' => ?_)
  have hw : Region.wanted o (yielded ops.toArray a.tmps) = true := by
    unfold Region.wanted
    rw [hg]
  rw [if_pos hw]
  refine Zan _ x y hop hd B 0 (P4.pt a2 b2 j2) hx hy (Zdt hB.heap (by rw [P4.Zau, P4.Zau])) (P4.infoA (P4.Zau _ _ _)) (P4.Zdm _ _ _) (hK' _ _ (h _ (But.sets _ _ (But.refl B w)) ⟨?_⟩))
  have := Za9 (P4.pt a2 b2 j2).toList 0 hB.heap
  rwa [Zck (by rw [P4.Zau, P4.Zau])] at this
theorem undWd0 : Tryz.prog.underlying 65 = some (.array 4 27) := by kernel_rfl
theorem Zn1 (f : Nat → Nat) : (Tryz.prog.info? 65).map (·.size) = some (W4.cs f).size := by
  rw [W4.Za6]
  kernel_rfl
theorem lw_box {w : World} {B k : Nat} (h : BX w B (W4.cs (limb k)) 65) : LW w (.slice (some ⟨B, 0, none⟩) 4 4) 4 (limb k) := ⟨_, _, _, rfl, by decide, by decide, Zab h.heap, fun j hj => by
  rw [Nat.zero_add]
  refine Zac h.heap ?_
  match j, hj with
  | 0, _ => rfl
  | 1, _ => rfl
  | 2, _ => rfl
  | 3, _ => rfl
  | _ + 4, hj => omega⟩
end Go.Proofs.YtcbdbnfgnonacaaGreat
