/-
  The law's points of the document, and how it holds them against ours.
-/
import Derived.Test.YtcbdbnfgnonacaaGreatCurveBn1C29
import Derived.Test.YtcbdbnfgnonacaaGreatCurveBn1C36
namespace Go.Proofs.YtcbdbnfgnonacaaGreat
open Go.RowKit Go.Shelf

theorem box_ne {w : World} {B B' t t' : Nat} {C C' : Array Value} (h : BX w B C t) (h' : BX w B' C' t') (ht : t ≠ t') : B ≠ B' := fun e => by
  have h1 := h.heap
  rw [e, h'.heap] at h1
  cases h1
  exact ht rfl

theorem same_pn {x y : Nat} (hx : x < W6.R) (hy : y < W6.R) (i : Bool) (w : World) : (Op.equalIn 10000 30 (.agg (pn x 0 y 0 i)) (.agg (pn x 0 y 0 i))).run Tryz.prog w = .ok true w := by
  have h0 : 0 < W6.R := by decide +kernel
  rw [eqPn i i hx h0 hy h0 hx h0 hy h0 w]
  simp

theorem pn6_0 {w : World} {B t a b c d : Nat} {i : Bool} (h : w.heap[B]? = some (.cells (pn a b c d i) t (0, 0))) : w.rangeAt B 0 (W6.cs (limb a)).toList := by
  rw [pn_eq] at h
  exact range_mid (A := #[]) (by rw [Array.empty_append]; exact h) rfl

theorem pn6_2 {w : World} {B t a b c d : Nat} {i : Bool} (h : w.heap[B]? = some (.cells (pn a b c d i) t (0, 0))) : w.rangeAt B 12 (W6.cs (limb c)).toList := by
  rw [pn_eq, ← Array.append_assoc (xs := W6.cs (limb a))] at h
  exact range_mid (A := W6.cs (limb a) ++ W6.cs (limb b)) h (by rw [Array.size_append, W6.cs_size, W6.cs_size])

set_option maxHeartbeats 4000000 in
set_option maxRecDepth 100000 in
theorem ref_1 {n : Nat} (hn : n = 4 ∨ n = 6) (a b c d a' c' : Nat) (i : Bool) (ha : ∀ j, j < n → limb a' j = limb a j) (hc : ∀ j, j < n → limb c' j = limb c j) (w : World) : Calls Tryz.prog 34 #[.agg (pn a b c d i), .int .i64 n, .int .i64 1] w fun r w' => (∃ v', r = .returned v' ∧ PT w' v' n [a'] [c'] i) ∧ Below w.heap.size w w' := by
 have HN2 : Hid (2 ≤ n) := by show 2 ≤ n; omega
 have HB : Hid (Up w w) := Below.refl _ _
 go_enter Tryz.func34, Tryz.ntmps34
 refine code_start 43 [(0, .agg (pn a b c d i)), (1, .int .i64 n), (2, .int .i64 1)] rfl ⟨rfl, rfl, rfl, trivial⟩ (fun L hL hK => ?_)
 refine wp_seqH (fun K1 HK1 => ?_)
 have up : ∀ V, Up w V → Up w V := fun _ h => HB.out.trans (h.mono HB.out.size)
 refine region2 [.pr (NB w.heap.size (pn (a) (b) (c) (d) i) 30), .pr (NB w.heap.size #[.slice none 0 0, .slice none 0 0, .bool false] 42)] [1, 2, 3, 6] hL hK ⟨stab_NB _ _ _, stab_NB _ _ _, trivial⟩
   ⟨ok_x [.ex (.agg (pn a b c d i))] hK (fun V h => ⟨_, _, ex_box rfl rfl, below_new _ _, _, rfl, h.size, ⟨heap_new _ _⟩⟩),
   ok_x [] hK (fun V h => ⟨_, _, ex_alloc rfl (al42 _), below_new _ _, _, rfl, h.size, ⟨heap_new _ _⟩⟩),
   trivial⟩ ?_
 rintro W1 h _ ⟨B1, rfl, lB1, hB1⟩ _ ⟨B2, rfl, lB2, hB2⟩ L1 hL1 hK1
 have LB1 := hideP (Nat.le_trans HB.out.size lB1)
 clear lB1
 have LB2 := hideP (Nat.le_trans HB.out.size lB2)
 clear lB2
 replace HB := hideP (up _ h)
 have HB1 := hideP hB1
 clear hB1
 have HB2 := hideP hB2
 clear hB2
 have hK2 := hK1.to [(1, .int .i64 n), (2, .int .i64 1), (3, .pointer (some ⟨B1, 0, none⟩)), (6, .pointer (some ⟨B2, 0, none⟩))] (by kernel_rfl)
 clear up h hK1 hK hL L
 revert L1
 intro L hL hK
 refine HK1.out _ _ ?_
 clear HK1 K1
 refine wp_seqH (fun K2 HK2 => ?_)
 refine wp_seqH (fun K3 HK3 => ?_)
 have up : ∀ V, Up W1 V → Up w V := fun _ h => HB.out.trans (h.mono HB.out.size)
 refine region2 [.ex (.int .i64 1), .ex (.bool true)] [1, 3, 6, 8] hL hK trivial
   ⟨ok_q hK,
   ok_q hK,
   trivial⟩ ?_
 rintro W2 h  L1 hL1 hK1
 replace HB := hideP (up _ h)
 replace HB1 := hideP (HB1.out.moved h)
 replace HB2 := hideP (HB2.out.moved h)
 have hK2 := hK1.to [(1, .int .i64 n), (3, .pointer (some ⟨B1, 0, none⟩)), (6, .pointer (some ⟨B2, 0, none⟩)), (8, .bool true)] (by kernel_rfl)
 clear up h hK1 hK hL L
 revert L1
 intro L hL hK
 refine HK3.out _ _ ?_
 clear HK3 K3
 refine cond_T hK ?_
 refine wp_seqH (fun K4 HK4 => ?_)
 have up : ∀ V, Up W2 V → Up w V := fun _ h => HB.out.trans (h.mono HB.out.size)
 refine region2S [.ex (.pointer (some ⟨B1, 0, none⟩)), .ex (.agg (W6.cs (limb (a)))), .ex (.int .i64 n), .pr (fun zv zw => LW zw zv (n) (limb a')), .pr (fun zv zw => LL zw zv (n) ([a'])), .ex (.pointer (some ⟨B1, 12, none⟩)), .ex (.agg (W6.cs (limb (c)))), .ex (.int .i64 n), .pr (fun zv zw => LW zw zv (n) (limb c')), .pr (fun zv zw => LL zw zv (n) ([c'])), .ex (.pointer (some ⟨B1, 24, none⟩)), .ex (.bool i), .pr (fun zv zw => PT zw zv (n) ([a']) ([c']) i)] [6, 21] hL hK ⟨stab_LW _ _, stab_LL _ _, stab_LW _ _, stab_LL _ _, stab_PT _ _ _ _, trivial⟩
   ⟨ok_q hK,
   ok_x [.ex (.pointer (some ⟨B1, 0, none⟩))] hK (fun V h => ⟨_, _, ex_load rfl rfl (loadC _ B1 0 _ _ _ (pn6_0 (HB1.out.moved h).heap) W6.under rfl (W6.info _)), Below.refl _ _, rfl⟩),
   ok_q hK,
   ok_c [.ex (.agg (W6.cs (limb (a)))), .ex (.int .i64 n)] (enters_of Tryz.func110 (by kernel_rfl) rfl) hK (fun V h => cut_any hn a a' ha _),
   ok_x [.pr (fun zv zw => LW zw zv (n) (limb a'))] hK (fun V h u1 q1 => ⟨_, _, ex_bs (vs := #[(0, u1)]) rfl (by kernel_rfl) (bs1 _ (LW.isSlice q1)), below_new _ _, LL.mk1 q1⟩),
   ok_q hK,
   ok_x [.ex (.pointer (some ⟨B1, 12, none⟩))] hK (fun V h => ⟨_, _, ex_load rfl rfl (loadC _ B1 12 _ _ _ (pn6_2 (HB1.out.moved h).heap) W6.under rfl (W6.info _)), Below.refl _ _, rfl⟩),
   ok_q hK,
   ok_c [.ex (.agg (W6.cs (limb (c)))), .ex (.int .i64 n)] (enters_of Tryz.func110 (by kernel_rfl) rfl) hK (fun V h => cut_any hn c c' hc _),
   ok_x [.pr (fun zv zw => LW zw zv (n) (limb c'))] hK (fun V h u1 q1 => ⟨_, _, ex_bs (vs := #[(0, u1)]) rfl (by kernel_rfl) (bs1 _ (LW.isSlice q1)), below_new _ _, LL.mk1 q1⟩),
   ok_q hK,
   ok_x [.ex (.pointer (some ⟨B1, 24, none⟩))] hK (fun V h => ⟨_, _, ex_load rfl rfl (ld1 (by kernel_rfl) (pn_i (HB1.out.moved h).heap)), Below.refl _ _, rfl⟩),
   ok_x [.pr (fun zv zw => LL zw zv (n) ([a'])), .pr (fun zv zw => LL zw zv (n) ([c'])), .ex (.bool i)] hK (fun V h u1 q1 u2 q2 => ⟨_, _, ex_build (vs := #[(0, u1), (1, u2), (2, .bool i)]) rfl (by kernel_rfl) (bd_pt3' i (LL.isSlice q1) (LL.isSlice q2) _), Below.refl _ _, ⟨_, _, rfl, q1, q2⟩⟩),
   trivial⟩ ?_
 rintro W3 h v3 pv3 v4 pv4 v5 pv5 v6 pv6 _ ⟨⟨xz7, yz7, rfl, hxz7, hyz7⟩⟩ L1 hL1 hK1
 replace HB := hideP (up _ h)
 replace HB1 := hideP (HB1.out.moved h)
 replace HB2 := hideP (HB2.out.moved h)
 have Fv3 := hideP pv3
 clear pv3
 have Fv4 := hideP pv4
 clear pv4
 have Fv5 := hideP pv5
 clear pv5
 have Fv6 := hideP pv6
 clear pv6
 have HXz7 : Hid (LL W3 xz7 (n) ([a'])) := hxz7
 clear hxz7
 have HYz7 : Hid (LL W3 yz7 (n) ([c'])) := hyz7
 clear hyz7
 have hK2 := hK1.to [(6, .pointer (some ⟨B2, 0, none⟩)), (21, .agg #[xz7, yz7, .bool i])] (by kernel_rfl)
 clear up h hK1 hK hL L
 revert L1
 intro L hL hK
 refine st_box rfl rfl 42 _ _ rfl rfl B2 0 #[.slice none 0 0, .slice none 0 0, .bool false] [xz7, yz7, .bool i] 42 (eval_get (hK.get rfl)) (eval_get (hK.get rfl)) (rfl) HB2.out (Nat.le_of_ble_eq_true rfl) info42 ⟨HXz7.out.oneC, HYz7.out.oneC, rfl, trivial⟩ (fun W4 hb9 hx9 => ?_)
 have hs9 := safe_put HB2.out (by kernel_rfl) hb9 hx9
 replace Fv3 := hideP (Fv3.out.safe HN2.out hs9)
 replace Fv4 := hideP (Fv4.out.safe HN2.out hs9)
 replace Fv5 := hideP (Fv5.out.safe HN2.out hs9)
 replace Fv6 := hideP (Fv6.out.safe HN2.out hs9)
 replace HXz7 := hideP (HXz7.out.safe HN2.out hs9)
 replace HYz7 := hideP (HYz7.out.safe HN2.out hs9)
 clear HB1
 replace HB := hideP (HB.out.trans (hb9.below.mono LB2.out))
 rw [show putAll _ _ _ = #[xz7, yz7, .bool i] by kernel_rfl] at hx9
 replace HB2 := hideP hx9
 clear hs9 hb9 hx9
 refine HK4.out _ _ ?_
 clear HK4 K4
 refine wp_ret ?_
 refine then_ret ?_
 exact ret_cell 6 42 B2 (#[xz7, yz7, .bool i]) rfl (hK.get rfl) HB2.out under42 rfl info42 ⟨⟨_, rfl, ⟨_, _, rfl, HXz7.out, HYz7.out⟩⟩, HB.out⟩

set_option maxHeartbeats 4000000 in
set_option maxRecDepth 100000 in
theorem of_nil (w : World) : Calls Tryz.prog 17 #[.agg #[.slice none 0 0, .slice none 0 0, .bool false]] w fun r w' => r = .returned (.agg (pn 0 0 0 0 false)) ∧ Below w.heap.size w w' := by
 have HB : Hid (Up w w) := Below.refl _ _
 go_enter Tryz.func17, Tryz.ntmps17
 refine code_start 44 [(0, .agg #[.slice none 0 0, .slice none 0 0, .bool false])] rfl ⟨rfl, trivial⟩ (fun L hL hK => ?_)
 refine wp_seqH (fun K1 HK1 => ?_)
 have up : ∀ V, Up w V → Up w V := fun _ h => HB.out.trans (h.mono HB.out.size)
 refine region2 [.pr (NB w.heap.size #[.slice none 0 0, .slice none 0 0, .bool false] 42), .pr (NB w.heap.size (pn (0) (0) (0) (0) false) 30)] [1, 2] hL hK ⟨stab_NB _ _ _, stab_NB _ _ _, trivial⟩
   ⟨ok_x [.ex (.agg #[.slice none 0 0, .slice none 0 0, .bool false])] hK (fun V h => ⟨_, _, ex_box rfl rfl, below_new _ _, _, rfl, h.size, ⟨heap_new _ _⟩⟩),
   ok_x [] hK (fun V h => ⟨_, _, ex_alloc rfl (al30 _), below_new _ _, _, rfl, h.size, ⟨heap_new _ _⟩⟩),
   trivial⟩ ?_
 rintro W1 h _ ⟨B1, rfl, lB1, hB1⟩ _ ⟨B2, rfl, lB2, hB2⟩ L1 hL1 hK1
 have LB1 := hideP (Nat.le_trans HB.out.size lB1)
 clear lB1
 have LB2 := hideP (Nat.le_trans HB.out.size lB2)
 clear lB2
 replace HB := hideP (up _ h)
 have HB1 := hideP hB1
 clear hB1
 have HB2 := hideP hB2
 clear hB2
 have hK2 := hK1.to [(1, .pointer (some ⟨B1, 0, none⟩)), (2, .pointer (some ⟨B2, 0, none⟩))] (by kernel_rfl)
 clear up h hK1 hK hL L
 revert L1
 intro L hL hK
 refine HK1.out _ _ ?_
 clear HK1 K1
 refine wp_seqH (fun K2 HK2 => ?_)
 have up : ∀ V, Up W1 V → Up w V := fun _ h => HB.out.trans (h.mono HB.out.size)
 refine region2 [.pr (NB W1.heap.size (pn (0) (0) (0) (0) false) 30)] [1, 2, 3] hL hK ⟨stab_NB _ _ _, trivial⟩
   ⟨ok_x [] hK (fun V h => ⟨_, _, ex_alloc rfl (al30 _), below_new _ _, _, rfl, h.size, ⟨heap_new _ _⟩⟩),
   trivial⟩ ?_
 rintro W2 h _ ⟨B3, rfl, lB3, hB3⟩ L1 hL1 hK1
 have LB3 := hideP (Nat.le_trans HB.out.size lB3)
 have nB3_B1 : B1 ≠ B3 := by have := HB1.out.lt; omega
 have nB3_B2 : B2 ≠ B3 := by have := HB2.out.lt; omega
 clear lB3
 replace HB := hideP (up _ h)
 replace HB1 := hideP (HB1.out.moved h)
 replace HB2 := hideP (HB2.out.moved h)
 have HB3 := hideP hB3
 clear hB3
 have hK2 := hK1.to [(1, .pointer (some ⟨B1, 0, none⟩)), (2, .pointer (some ⟨B2, 0, none⟩)), (3, .pointer (some ⟨B3, 0, none⟩))] (by kernel_rfl)
 clear up h hK1 hK hL L
 revert L1
 intro L hL hK
 refine HK2.out _ _ ?_
 clear HK2 K2
 refine wp_seqH (fun K3 HK3 => ?_)
 have up : ∀ V, Up W2 V → Up w V := fun _ h => HB.out.trans (h.mono HB.out.size)
 refine region2S [.ex (.pointer (some ⟨B1, 2, none⟩)), .ex (.bool false), .ex (.pointer (some ⟨B3, 24, none⟩))] [1, 2, 3, 5, 6] hL hK trivial
   ⟨ok_q hK,
   ok_ld 2 hK (fun V h => HB1.out.moved h),
   ok_q hK,
   trivial⟩ ?_
 rintro W3 h  L1 hL1 hK1
 replace HB := hideP (up _ h)
 replace HB1 := hideP (HB1.out.moved h)
 replace HB2 := hideP (HB2.out.moved h)
 replace HB3 := hideP (HB3.out.moved h)
 have hK2 := hK1.to [(1, .pointer (some ⟨B1, 0, none⟩)), (2, .pointer (some ⟨B2, 0, none⟩)), (3, .pointer (some ⟨B3, 0, none⟩)), (5, .bool false), (6, .pointer (some ⟨B3, 24, none⟩))] (by kernel_rfl)
 clear up h hK1 hK hL L
 revert L1
 intro L hL hK
 refine st_box rfl rfl 4 _ _ rfl rfl B3 24 (pn (0) (0) (0) (0) false) [.bool false] 30 (eval_get (hK.get rfl)) (eval_get (hK.get rfl)) rfl HB3.out (by rw [pn_size]; exact Nat.le_refl _) (by kernel_rfl) ⟨rfl, trivial⟩ (fun W4 hb9 hx9 => ?_)
 rw [pn_putI] at hx9
 replace HB1 := hideP (HB1.out.but hb9 nB3_B1)
 replace HB2 := hideP (HB2.out.but hb9 nB3_B2)
 replace HB := hideP (HB.out.trans (hb9.below.mono LB3.out))
 replace HB3 := hideP hx9
 clear hb9 hx9
 refine HK3.out _ _ ?_
 clear HK3 K3
 refine wp_seqH (fun K4 HK4 => ?_)
 refine wp_seqH (fun K5 HK5 => ?_)
 have up : ∀ V, Up W4 V → Up w V := fun _ h => HB.out.trans (h.mono HB.out.size)
 refine region2 [.ex (.pointer (some ⟨B1, 0, none⟩)), .ex (.slice none 0 0), .ex (.int .i64 0), .ex (.bool false)] [1, 2, 3, 10] hL hK trivial
   ⟨ok_q hK,
   ok_ld 0 hK (fun V h => HB1.out.moved h),
   ok_q hK,
   ok_q hK,
   trivial⟩ ?_
 rintro W5 h  L1 hL1 hK1
 replace HB := hideP (up _ h)
 replace HB1 := hideP (HB1.out.moved h)
 replace HB2 := hideP (HB2.out.moved h)
 replace HB3 := hideP (HB3.out.moved h)
 have hK2 := hK1.to [(1, .pointer (some ⟨B1, 0, none⟩)), (2, .pointer (some ⟨B2, 0, none⟩)), (3, .pointer (some ⟨B3, 0, none⟩)), (10, .bool false)] (by kernel_rfl)
 clear up h hK1 hK hL L
 revert L1
 intro L hL hK
 refine HK5.out _ _ ?_
 clear HK5 K5
 refine cond_F hK ?_
 refine wp_skip ?_
 refine HK4.out _ _ ?_
 clear HK4 K4
 refine wp_seqH (fun K6 HK6 => ?_)
 refine wp_seqH (fun K7 HK7 => ?_)
 have up : ∀ V, Up W5 V → Up w V := fun _ h => HB.out.trans (h.mono HB.out.size)
 refine region2 [.ex (.pointer (some ⟨B1, 0, none⟩)), .ex (.slice none 0 0), .ex (.int .i64 0), .ex (.bool false)] [2, 3, 28] hL hK trivial
   ⟨ok_q hK,
   ok_ld 0 hK (fun V h => HB1.out.moved h),
   ok_q hK,
   ok_q hK,
   trivial⟩ ?_
 rintro W6 h  L1 hL1 hK1
 replace HB := hideP (up _ h)
 replace HB1 := hideP (HB1.out.moved h)
 replace HB2 := hideP (HB2.out.moved h)
 replace HB3 := hideP (HB3.out.moved h)
 have hK2 := hK1.to [(2, .pointer (some ⟨B2, 0, none⟩)), (3, .pointer (some ⟨B3, 0, none⟩)), (28, .bool false)] (by kernel_rfl)
 clear up h hK1 hK hL L
 revert L1
 intro L hL hK
 refine HK7.out _ _ ?_
 clear HK7 K7
 refine cond_F hK ?_
 refine wp_skip ?_
 refine HK6.out _ _ ?_
 clear HK6 K6
 refine wp_seqH (fun K8 HK8 => ?_)
 have up : ∀ V, Up W6 V → Up w V := fun _ h => HB.out.trans (h.mono HB.out.size)
 refine region2S [.ex (.agg (pn (0) (0) (0) (0) false))] [2, 43] hL hK trivial
   ⟨ok_x [.ex (.pointer (some ⟨B3, 0, none⟩))] hK (fun V h => ⟨_, _, ex_load rfl rfl (loadC _ B3 0 30 (pn (0) (0) (0) (0) false) _ (rangeOf (HB3.out.moved h).heap) under30 rfl (info30 _ _ _ _ _)), Below.refl _ _, rfl⟩),
   trivial⟩ ?_
 rintro W7 h  L1 hL1 hK1
 replace HB := hideP (up _ h)
 replace HB1 := hideP (HB1.out.moved h)
 replace HB2 := hideP (HB2.out.moved h)
 replace HB3 := hideP (HB3.out.moved h)
 have hK2 := hK1.to [(2, .pointer (some ⟨B2, 0, none⟩)), (43, .agg (pn (0) (0) (0) (0) false))] (by kernel_rfl)
 clear up h hK1 hK hL L
 revert L1
 intro L hL hK
 refine st_pn rfl rfl _ _ rfl rfl B2 (eval_get (hK.get rfl)) (eval_get (hK.get rfl)) HB2.out (fun W8 hb9 hx9 => ?_)
 clear HB1
 replace HB3 := hideP (HB3.out.but hb9 (Ne.symm nB3_B2))
 replace HB := hideP (HB.out.trans (hb9.below.mono LB2.out))
 replace HB2 := hideP hx9
 clear hb9 hx9
 refine HK8.out _ _ ?_
 clear HK8 K8
 refine wp_ret ?_
 exact ret_cell 2 30 B2 (pn (0) (0) (0) (0) false) rfl (hK.get rfl) HB2.out under30 rfl (info30 _ _ _ _ _) ⟨rfl, HB.out⟩

set_option maxHeartbeats 4000000 in
set_option maxRecDepth 100000 in
theorem answer_0 {n : Nat} (hn : n = 4 ∨ n = 6) (x y : Nat) (hx : x < 18446744073709551616 ^ n) (hy : y < 18446744073709551616 ^ n) (hR : 18446744073709551616 ^ n ≤ W6.R) (i : Bool) (w : World) (q : Value) (hq : PT w q n [x] [y] i) : Calls Tryz.prog 40 #[.agg (pn (x) (0) (y) (0) i), .int .i64 0, q, .int .i64 0] w fun r w' => r = .returned (.bool true) ∧ Below w.heap.size w w' := by
 have HQ := hideP hq
 obtain ⟨qa, qb, rfl, hqa, hqb⟩ := hq.ex
 have HX := hideP hqa
 have HY := hideP hqb
 clear hq hqa hqb
 have HN2 : Hid (2 ≤ n) := by show 2 ≤ n; omega
 have HB : Hid (Up w w) := Below.refl _ _
 go_enter Tryz.func40, Tryz.ntmps40
 refine code_start 21 [(0, .agg (pn (x) (0) (y) (0) i)), (1, .int .i64 0), (2, .agg #[qa, qb, .bool i]), (3, .int .i64 0)] rfl ⟨rfl, rfl, rfl, rfl, trivial⟩ (fun L hL hK => ?_)
 refine wp_seqH (fun K1 HK1 => ?_)
 have up : ∀ V, Up w V → Up w V := fun _ h => HB.out.trans (h.mono HB.out.size)
 refine region2 [.pr (NB w.heap.size (pn (x) (0) (y) (0) i) 30), .pr (NB w.heap.size #[qa, qb, .bool i] 42), .ex (.bool false)] [1, 3, 4, 6, 8] hL hK ⟨stab_NB _ _ _, stab_NB _ _ _, trivial⟩
   ⟨ok_x [.ex (.agg (pn (x) (0) (y) (0) i))] hK (fun V h => ⟨_, _, ex_box rfl rfl, below_new _ _, _, rfl, h.size, ⟨heap_new _ _⟩⟩),
   ok_x [.ex (.agg #[qa, qb, .bool i])] hK (fun V h => ⟨_, _, ex_box rfl rfl, below_new _ _, _, rfl, h.size, ⟨heap_new _ _⟩⟩),
   ok_q hK,
   trivial⟩ ?_
 rintro W1 h _ ⟨B1, rfl, lB1, hB1⟩ _ ⟨B2, rfl, lB2, hB2⟩ L1 hL1 hK1
 have LB1 := hideP (Nat.le_trans HB.out.size lB1)
 clear lB1
 have LB2 := hideP (Nat.le_trans HB.out.size lB2)
 clear lB2
 replace HB := hideP (up _ h)
 have HB1 := hideP hB1
 clear hB1
 have HB2 := hideP hB2
 clear hB2
 have nB2_B1 : B1 ≠ B2 := box_ne HB1.out HB2.out (by decide)
 have hK2 := hK1.to [(1, .int .i64 0), (3, .int .i64 0), (4, .pointer (some ⟨B1, 0, none⟩)), (6, .pointer (some ⟨B2, 0, none⟩)), (8, .bool false)] (by kernel_rfl)
 clear up h hK1 hK hL L
 revert L1
 intro L hL hK
 refine HK1.out _ _ ?_
 clear HK1 K1
 refine wp_seqH (fun K2 HK2 => ?_)
 refine wp_seqH (fun K3 HK3 => ?_)
 have up : ∀ V, Up W1 V → Up w V := fun _ h => HB.out.trans (h.mono HB.out.size)
 refine region2 [.ex (.int .i64 0), .ex (.bool false)] [1, 3, 4, 6, 8, 10] hL hK trivial
   ⟨ok_q hK,
   ok_q hK,
   trivial⟩ ?_
 rintro W2 h  L1 hL1 hK1
 replace HB := hideP (up _ h)
 replace HB1 := hideP (HB1.out.moved h)
 replace HB2 := hideP (HB2.out.moved h)
 have hK2 := hK1.to [(1, .int .i64 0), (3, .int .i64 0), (4, .pointer (some ⟨B1, 0, none⟩)), (6, .pointer (some ⟨B2, 0, none⟩)), (8, .bool false), (10, .bool false)] (by kernel_rfl)
 clear up h hK1 hK hL L
 revert L1
 intro L hL hK
 refine HK3.out _ _ ?_
 clear HK3 K3
 refine cond_F hK ?_
 refine wp_skip ?_
 refine HK2.out _ _ ?_
 clear HK2 K2
 refine wp_seqH (fun K4 HK4 => ?_)
 have up : ∀ V, Up W2 V → Up w V := fun _ h => HB.out.trans (h.mono HB.out.size)
 refine region2 [.ex (.int .i64 0), .ex (.int .i64 0), .ex (.bool true), .ex (.bool true), .ex (.agg (pn (x) (0) (y) (0) i)), .ex (.agg #[qa, qb, .bool i]), .ex (.agg (pn (x) (0) (y) (0) i)), .ex (.bool true), .ex (.bool true), .ex (.bool true)] [8] hL hK trivial
   ⟨ok_q hK,
   ok_q hK,
   ok_q hK,
   ok_q hK,
   ok_x [.ex (.pointer (some ⟨B1, 0, none⟩))] hK (fun V h => ⟨_, _, ex_load rfl rfl (loadC _ B1 0 30 (pn (x) (0) (y) (0) i) _ (rangeOf (HB1.out.moved h).heap) under30 rfl (info30 _ _ _ _ _)), Below.refl _ _, rfl⟩),
   ok_ldN 0 hK (fun V h => HB2.out.moved h) under42 info42,
   ok_c [.ex (.agg #[qa, qb, .bool i])] (enters_of Tryz.func17 (by kernel_rfl) rfl) hK (fun V h => (of_1 hn x y hx hy i _ _ (HQ.out.moved (up V h))).told),
   ok_x [.ex (.agg (pn (x) (0) (y) (0) i)), .ex (.agg (pn (x) (0) (y) (0) i))] hK (fun V h => ⟨_, _, exec_eqlR 30 30 _ _ rfl rfl rfl gqPn _ (same_pn (Nat.lt_of_lt_of_le hx hR) (Nat.lt_of_lt_of_le hy hR) i _), Below.refl _ _, rfl⟩),
   ok_q hK,
   ok_q hK,
   trivial⟩ ?_
 rintro W3 h  L1 hL1 hK1
 replace HB := hideP (up _ h)
 replace HB1 := hideP (HB1.out.moved h)
 replace HB2 := hideP (HB2.out.moved h)
 have hK2 := hK1.to [(8, .bool true)] (by kernel_rfl)
 clear up h hK1 hK hL L
 revert L1
 intro L hL hK
 refine HK4.out _ _ ?_
 clear HK4 K4
 refine wp_ret ?_
 exact ret2 hK ⟨rfl, HB.out⟩

set_option maxHeartbeats 4000000 in
set_option maxRecDepth 100000 in
theorem answer_70 (w : World) : Calls Tryz.prog 40 #[.agg (pn (0) (0) (0) (0) false), .int .i64 70, .agg #[.slice none 0 0, .slice none 0 0, .bool false], .int .i64 70] w fun r w' => r = .returned (.bool true) ∧ Below w.heap.size w w' := by
 have HB : Hid (Up w w) := Below.refl _ _
 go_enter Tryz.func40, Tryz.ntmps40
 refine code_start 21 [(0, .agg (pn (0) (0) (0) (0) false)), (1, .int .i64 70), (2, .agg #[.slice none 0 0, .slice none 0 0, .bool false]), (3, .int .i64 70)] rfl ⟨rfl, rfl, rfl, rfl, trivial⟩ (fun L hL hK => ?_)
 refine wp_seqH (fun K1 HK1 => ?_)
 have up : ∀ V, Up w V → Up w V := fun _ h => HB.out.trans (h.mono HB.out.size)
 refine region2 [.pr (NB w.heap.size (pn (0) (0) (0) (0) false) 30), .pr (NB w.heap.size #[.slice none 0 0, .slice none 0 0, .bool false] 42), .ex (.bool false)] [1, 3, 4, 6, 8] hL hK ⟨stab_NB _ _ _, stab_NB _ _ _, trivial⟩
   ⟨ok_x [.ex (.agg (pn (0) (0) (0) (0) false))] hK (fun V h => ⟨_, _, ex_box rfl rfl, below_new _ _, _, rfl, h.size, ⟨heap_new _ _⟩⟩),
   ok_x [.ex (.agg #[.slice none 0 0, .slice none 0 0, .bool false])] hK (fun V h => ⟨_, _, ex_box rfl rfl, below_new _ _, _, rfl, h.size, ⟨heap_new _ _⟩⟩),
   ok_q hK,
   trivial⟩ ?_
 rintro W1 h _ ⟨B1, rfl, lB1, hB1⟩ _ ⟨B2, rfl, lB2, hB2⟩ L1 hL1 hK1
 have LB1 := hideP (Nat.le_trans HB.out.size lB1)
 clear lB1
 have LB2 := hideP (Nat.le_trans HB.out.size lB2)
 clear lB2
 replace HB := hideP (up _ h)
 have HB1 := hideP hB1
 clear hB1
 have HB2 := hideP hB2
 clear hB2
 have nB2_B1 : B1 ≠ B2 := box_ne HB1.out HB2.out (by decide)
 have hK2 := hK1.to [(1, .int .i64 70), (3, .int .i64 70), (4, .pointer (some ⟨B1, 0, none⟩)), (6, .pointer (some ⟨B2, 0, none⟩)), (8, .bool false)] (by kernel_rfl)
 clear up h hK1 hK hL L
 revert L1
 intro L hL hK
 refine HK1.out _ _ ?_
 clear HK1 K1
 refine wp_seqH (fun K2 HK2 => ?_)
 refine wp_seqH (fun K3 HK3 => ?_)
 have up : ∀ V, Up W1 V → Up w V := fun _ h => HB.out.trans (h.mono HB.out.size)
 refine region2 [.ex (.int .i64 70), .ex (.bool true)] [1, 3, 4, 6, 8, 10] hL hK trivial
   ⟨ok_q hK,
   ok_q hK,
   trivial⟩ ?_
 rintro W2 h  L1 hL1 hK1
 replace HB := hideP (up _ h)
 replace HB1 := hideP (HB1.out.moved h)
 replace HB2 := hideP (HB2.out.moved h)
 have hK2 := hK1.to [(1, .int .i64 70), (3, .int .i64 70), (4, .pointer (some ⟨B1, 0, none⟩)), (6, .pointer (some ⟨B2, 0, none⟩)), (8, .bool false), (10, .bool true)] (by kernel_rfl)
 clear up h hK1 hK hL L
 revert L1
 intro L hL hK
 refine HK3.out _ _ ?_
 clear HK3 K3
 refine cond_T hK ?_
 have up : ∀ V, Up W2 V → Up w V := fun _ h => HB.out.trans (h.mono HB.out.size)
 refine region2S [.ex (.agg #[.slice none 0 0, .slice none 0 0, .bool false])] [1, 3, 4, 6, 8, 11] hL hK trivial
   ⟨ok_q hK,
   trivial⟩ ?_
 rintro W3 h  L1 hL1 hK1
 replace HB := hideP (up _ h)
 replace HB1 := hideP (HB1.out.moved h)
 replace HB2 := hideP (HB2.out.moved h)
 have hK2 := hK1.to [(1, .int .i64 70), (3, .int .i64 70), (4, .pointer (some ⟨B1, 0, none⟩)), (6, .pointer (some ⟨B2, 0, none⟩)), (8, .bool false), (11, .agg #[.slice none 0 0, .slice none 0 0, .bool false])] (by kernel_rfl)
 clear up h hK1 hK hL L
 revert L1
 intro L hL hK
 refine st_box rfl rfl 42 _ _ rfl rfl B2 0 #[.slice none 0 0, .slice none 0 0, .bool false] [.slice none 0 0, .slice none 0 0, .bool false] 42 (eval_get (hK.get rfl)) (eval_get (hK.get rfl)) (rfl) HB2.out (Nat.le_of_ble_eq_true rfl) info42 ⟨rfl, rfl, rfl, trivial⟩ (fun W4 hb9 hx9 => ?_)
 have hs9 := safe_put HB2.out (by kernel_rfl) hb9 hx9
 replace HB1 := hideP (HB1.out.but hb9 nB2_B1)
 replace HB := hideP (HB.out.trans (hb9.below.mono LB2.out))
 rw [show putAll _ _ _ = #[.slice none 0 0, .slice none 0 0, .bool false] by kernel_rfl] at hx9
 replace HB2 := hideP hx9
 clear hs9 hb9 hx9
 refine HK2.out _ _ ?_
 clear HK2 K2
 refine wp_seqH (fun K4 HK4 => ?_)
 have up : ∀ V, Up W4 V → Up w V := fun _ h => HB.out.trans (h.mono HB.out.size)
 refine region2 [.ex (.int .i64 70), .ex (.int .i64 70), .ex (.bool true), .ex (.bool true), .ex (.agg (pn (0) (0) (0) (0) false)), .ex (.agg #[.slice none 0 0, .slice none 0 0, .bool false]), .ex (.agg (pn (0) (0) (0) (0) false)), .ex (.bool true), .ex (.bool true), .ex (.bool true)] [8] hL hK trivial
   ⟨ok_q hK,
   ok_q hK,
   ok_q hK,
   ok_q hK,
   ok_x [.ex (.pointer (some ⟨B1, 0, none⟩))] hK (fun V h => ⟨_, _, ex_load rfl rfl (loadC _ B1 0 30 (pn (0) (0) (0) (0) false) _ (rangeOf (HB1.out.moved h).heap) under30 rfl (info30 _ _ _ _ _)), Below.refl _ _, rfl⟩),
   ok_ldN 0 hK (fun V h => HB2.out.moved h) under42 info42,
   ok_c [.ex (.agg #[.slice none 0 0, .slice none 0 0, .bool false])] (enters_of Tryz.func17 (by kernel_rfl) rfl) hK (fun V h => (of_nil _).told),
   ok_x [.ex (.agg (pn (0) (0) (0) (0) false)), .ex (.agg (pn (0) (0) (0) (0) false))] hK (fun V h => ⟨_, _, exec_eqlR 30 30 _ _ rfl rfl rfl gqPn _ (same_pn (by decide +kernel) (by decide +kernel) false _), Below.refl _ _, rfl⟩),
   ok_q hK,
   ok_q hK,
   trivial⟩ ?_
 rintro W5 h  L1 hL1 hK1
 replace HB := hideP (up _ h)
 replace HB1 := hideP (HB1.out.moved h)
 replace HB2 := hideP (HB2.out.moved h)
 have hK2 := hK1.to [(8, .bool true)] (by kernel_rfl)
 clear up h hK1 hK hL L
 revert L1
 intro L hL hK
 refine HK4.out _ _ ?_
 clear HK4 K4
 refine wp_ret ?_
 exact ret2 hK ⟨rfl, HB.out⟩

set_option maxHeartbeats 4000000 in
set_option maxRecDepth 100000 in
theorem answer_71 (w : World) : Calls Tryz.prog 40 #[.agg (pn (0) (0) (0) (0) false), .int .i64 71, .agg #[.slice none 0 0, .slice none 0 0, .bool false], .int .i64 71] w fun r w' => r = .returned (.bool true) ∧ Below w.heap.size w w' := by
 have HB : Hid (Up w w) := Below.refl _ _
 go_enter Tryz.func40, Tryz.ntmps40
 refine code_start 21 [(0, .agg (pn (0) (0) (0) (0) false)), (1, .int .i64 71), (2, .agg #[.slice none 0 0, .slice none 0 0, .bool false]), (3, .int .i64 71)] rfl ⟨rfl, rfl, rfl, rfl, trivial⟩ (fun L hL hK => ?_)
 refine wp_seqH (fun K1 HK1 => ?_)
 have up : ∀ V, Up w V → Up w V := fun _ h => HB.out.trans (h.mono HB.out.size)
 refine region2 [.pr (NB w.heap.size (pn (0) (0) (0) (0) false) 30), .pr (NB w.heap.size #[.slice none 0 0, .slice none 0 0, .bool false] 42), .ex (.bool false)] [1, 3, 4, 6, 8] hL hK ⟨stab_NB _ _ _, stab_NB _ _ _, trivial⟩
   ⟨ok_x [.ex (.agg (pn (0) (0) (0) (0) false))] hK (fun V h => ⟨_, _, ex_box rfl rfl, below_new _ _, _, rfl, h.size, ⟨heap_new _ _⟩⟩),
   ok_x [.ex (.agg #[.slice none 0 0, .slice none 0 0, .bool false])] hK (fun V h => ⟨_, _, ex_box rfl rfl, below_new _ _, _, rfl, h.size, ⟨heap_new _ _⟩⟩),
   ok_q hK,
   trivial⟩ ?_
 rintro W1 h _ ⟨B1, rfl, lB1, hB1⟩ _ ⟨B2, rfl, lB2, hB2⟩ L1 hL1 hK1
 have LB1 := hideP (Nat.le_trans HB.out.size lB1)
 clear lB1
 have LB2 := hideP (Nat.le_trans HB.out.size lB2)
 clear lB2
 replace HB := hideP (up _ h)
 have HB1 := hideP hB1
 clear hB1
 have HB2 := hideP hB2
 clear hB2
 have nB2_B1 : B1 ≠ B2 := box_ne HB1.out HB2.out (by decide)
 have hK2 := hK1.to [(1, .int .i64 71), (3, .int .i64 71), (4, .pointer (some ⟨B1, 0, none⟩)), (6, .pointer (some ⟨B2, 0, none⟩)), (8, .bool false)] (by kernel_rfl)
 clear up h hK1 hK hL L
 revert L1
 intro L hL hK
 refine HK1.out _ _ ?_
 clear HK1 K1
 refine wp_seqH (fun K2 HK2 => ?_)
 refine wp_seqH (fun K3 HK3 => ?_)
 have up : ∀ V, Up W1 V → Up w V := fun _ h => HB.out.trans (h.mono HB.out.size)
 refine region2 [.ex (.int .i64 71), .ex (.bool true)] [1, 3, 4, 6, 8, 10] hL hK trivial
   ⟨ok_q hK,
   ok_q hK,
   trivial⟩ ?_
 rintro W2 h  L1 hL1 hK1
 replace HB := hideP (up _ h)
 replace HB1 := hideP (HB1.out.moved h)
 replace HB2 := hideP (HB2.out.moved h)
 have hK2 := hK1.to [(1, .int .i64 71), (3, .int .i64 71), (4, .pointer (some ⟨B1, 0, none⟩)), (6, .pointer (some ⟨B2, 0, none⟩)), (8, .bool false), (10, .bool true)] (by kernel_rfl)
 clear up h hK1 hK hL L
 revert L1
 intro L hL hK
 refine HK3.out _ _ ?_
 clear HK3 K3
 refine cond_T hK ?_
 have up : ∀ V, Up W2 V → Up w V := fun _ h => HB.out.trans (h.mono HB.out.size)
 refine region2S [.ex (.agg #[.slice none 0 0, .slice none 0 0, .bool false])] [1, 3, 4, 6, 8, 11] hL hK trivial
   ⟨ok_q hK,
   trivial⟩ ?_
 rintro W3 h  L1 hL1 hK1
 replace HB := hideP (up _ h)
 replace HB1 := hideP (HB1.out.moved h)
 replace HB2 := hideP (HB2.out.moved h)
 have hK2 := hK1.to [(1, .int .i64 71), (3, .int .i64 71), (4, .pointer (some ⟨B1, 0, none⟩)), (6, .pointer (some ⟨B2, 0, none⟩)), (8, .bool false), (11, .agg #[.slice none 0 0, .slice none 0 0, .bool false])] (by kernel_rfl)
 clear up h hK1 hK hL L
 revert L1
 intro L hL hK
 refine st_box rfl rfl 42 _ _ rfl rfl B2 0 #[.slice none 0 0, .slice none 0 0, .bool false] [.slice none 0 0, .slice none 0 0, .bool false] 42 (eval_get (hK.get rfl)) (eval_get (hK.get rfl)) (rfl) HB2.out (Nat.le_of_ble_eq_true rfl) info42 ⟨rfl, rfl, rfl, trivial⟩ (fun W4 hb9 hx9 => ?_)
 have hs9 := safe_put HB2.out (by kernel_rfl) hb9 hx9
 replace HB1 := hideP (HB1.out.but hb9 nB2_B1)
 replace HB := hideP (HB.out.trans (hb9.below.mono LB2.out))
 rw [show putAll _ _ _ = #[.slice none 0 0, .slice none 0 0, .bool false] by kernel_rfl] at hx9
 replace HB2 := hideP hx9
 clear hs9 hb9 hx9
 refine HK2.out _ _ ?_
 clear HK2 K2
 refine wp_seqH (fun K4 HK4 => ?_)
 have up : ∀ V, Up W4 V → Up w V := fun _ h => HB.out.trans (h.mono HB.out.size)
 refine region2 [.ex (.int .i64 71), .ex (.int .i64 71), .ex (.bool true), .ex (.bool true), .ex (.agg (pn (0) (0) (0) (0) false)), .ex (.agg #[.slice none 0 0, .slice none 0 0, .bool false]), .ex (.agg (pn (0) (0) (0) (0) false)), .ex (.bool true), .ex (.bool true), .ex (.bool true)] [8] hL hK trivial
   ⟨ok_q hK,
   ok_q hK,
   ok_q hK,
   ok_q hK,
   ok_x [.ex (.pointer (some ⟨B1, 0, none⟩))] hK (fun V h => ⟨_, _, ex_load rfl rfl (loadC _ B1 0 30 (pn (0) (0) (0) (0) false) _ (rangeOf (HB1.out.moved h).heap) under30 rfl (info30 _ _ _ _ _)), Below.refl _ _, rfl⟩),
   ok_ldN 0 hK (fun V h => HB2.out.moved h) under42 info42,
   ok_c [.ex (.agg #[.slice none 0 0, .slice none 0 0, .bool false])] (enters_of Tryz.func17 (by kernel_rfl) rfl) hK (fun V h => (of_nil _).told),
   ok_x [.ex (.agg (pn (0) (0) (0) (0) false)), .ex (.agg (pn (0) (0) (0) (0) false))] hK (fun V h => ⟨_, _, exec_eqlR 30 30 _ _ rfl rfl rfl gqPn _ (same_pn (by decide +kernel) (by decide +kernel) false _), Below.refl _ _, rfl⟩),
   ok_q hK,
   ok_q hK,
   trivial⟩ ?_
 rintro W5 h  L1 hL1 hK1
 replace HB := hideP (up _ h)
 replace HB1 := hideP (HB1.out.moved h)
 replace HB2 := hideP (HB2.out.moved h)
 have hK2 := hK1.to [(8, .bool true)] (by kernel_rfl)
 clear up h hK1 hK hL L
 revert L1
 intro L hL hK
 refine HK4.out _ _ ?_
 clear HK4 K4
 refine wp_ret ?_
 exact ret2 hK ⟨rfl, HB.out⟩

end Go.Proofs.YtcbdbnfgnonacaaGreat
