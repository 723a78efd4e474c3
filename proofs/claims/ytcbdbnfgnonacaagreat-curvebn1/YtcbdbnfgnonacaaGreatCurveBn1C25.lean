/-
 The square field: elements as pairs of elements of the prime field.
-/
import Derived.Test.YtcbdbnfgnonacaaGreatCurveBn1C24
set_option maxHeartbeats 8000000
set_option maxRecDepth 100000
namespace Go.Proofs.YtcbdbnfgnonacaaGreat.W6
open Go.RowKit Go.Shelf
section
variable {w : World} {p m f o r : Nat}
theorem RingAt.thereOne (h : RingAt w p m f o r) (g : Nat → Nat) : w.there p (6 + 1) (cs g).size := fun j hj =>
 ⟨h.one.isSome j hj, Zap h.heap⟩
theorem RingAt.thereRadix (h : RingAt w p m f o r) (g : Nat → Nat) : w.there p (2 * 6 + 1) (cs g).size := fun j hj =>
 ⟨h.radix.isSome j hj, Zap h.heap⟩
theorem RingAt.putOne (h : RingAt w p m f o r) (o' : Nat) : RingAt (w.setCells p (6 + 1) (cs (limb o')).toList) p m f o' r := by
 have h1 := Za9 (cs (limb o')).toList (6 + 1) h.heap
 refine ⟨h1.trans ?_⟩
 simp [rc, cs, putAll]
theorem RingAt.putRadix (h : RingAt w p m f o r) (r' : Nat) : RingAt (w.setCells p (2 * 6 + 1) (cs (limb r')).toList) p m f o r' := by
 have h1 := Za9 (cs (limb r')).toList (2 * 6 + 1) h.heap
 refine ⟨h1.trans ?_⟩
 simp [rc, cs, putAll]
end
theorem ZdX (m : Nat) : limb m 0 % 2 = m % 2 := by unfold limb; rw [Nat.pow_zero, Nat.div_one]; omega
theorem ZgC {m x : Nat} (hx : x < 18446744073709551616) (h : limb m 0 * x % 18446744073709551616 = 1) : ∃ f : Nat, f < 18446744073709551616 ∧ IntKind.u64.wrap (-(x : Int)) = (f : Int) ∧ (limb m 0 * f + 1) % 18446744073709551616 = 0 := by
 have hx0 : 0 < x := by
  apply Nat.pos_of_ne_zero
  intro e
  subst e
  simp at h
 refine ⟨18446744073709551616 - x, by omega, by rw [IntKind.wrap_u64]; omega, ?_⟩
 have e : limb m 0 * (18446744073709551616 - x) + limb m 0 * x = limb m 0 * 18446744073709551616 := by
  rw [← Nat.mul_add]; congr 1; omega
 generalize limb m 0 * (18446744073709551616 - x) = A at *
 generalize limb m 0 * x = C at *
 omega
theorem ZdY (h k : Nat) (hh : h ≤ 64 * k) : 2 ^ h * 2 ^ (64 * k - h) = 18446744073709551616 ^ k := by
 rw [← Nat.pow_add, Nat.add_sub_cancel' hh, Nat.pow_mul]
theorem Zfk (X Y : Nat) (hX : X < R) (hY : Y < R) (w : World) : Calls Tryz.prog 155 #[wv X, wv Y] w fun e w' => e = .returned (.bool (decide (X < Y))) ∧ Below w.heap.size w w' := by
 have HC := hideP (fun w => Zb7 X Y hX hY w)
 have hd : decide (X < Y) = ((less1 X Y : Int) == 1) := by
  unfold less1
  by_cases h : X < Y <;> simp [h]
 rw [hd]
 clear hX hY hd
 generalize X + R * less1 X Y - Y = D at *
 generalize less1 X Y = b at *
 unfold wv cs at HC
 unfold wv cs
 go_enter Tryz.func155, Tryz.ntmps155
 go_wp2_with fail
 refine ZcS (fun W0 hW0 => ?_)
 have HBW : Hid (Below w.heap.size w W0) := by
  show Below _ _ _
  rw [hW0]
  repeat first | exact Below.refl _ _ | (refine Below.alloc ?_ (by simp <;> omega) _)
 clear hW0
 refine (HC.out _).mono ?_
 rintro e w1 ⟨rfl, hb⟩
 have HB := hideP (HBW.out.trans (hb.mono HBW.out.size))
 clear hb
 go_wp2
 go_ret
 refine ⟨rfl, ?_⟩
 have hs := HB.out.size
 repeat first | exact HB.out | apply Below.drew | (refine Below.alloc ?_ hs _) | (refine Below.alloc ?_ (by simp <;> omega) _) | (refine Below.setCell ?_ (by simp <;> omega) _)
theorem ZdZ {Q : Exit → Act → World → Prop} {e : Exit} {a : Act} {w : World} (h : ∀ W0, W0 = w → Q e a W0) : Q e a w := h w rfl
theorem ZiT (m : Nat) : R % m = el m 1 := by unfold el; rw [Nat.one_mul]
theorem ZgD (m : Nat) (hm : m < R) (hodd : m % 2 = 1) (h3 : 3 ≤ m) (w : World) : Calls Tryz.prog 77 #[wv m] w fun e w' => ∃ p : Nat, e = .returned (.tuple #[.pointer (some ⟨p, 0, none⟩), .int .i64 0]) ∧ w.heap.size ≤ p ∧ Good w' p m ∧ Below w.heap.size w w' := by
 have h0 := ZdX m
 have HS := hideP (fun w => ZbP 3 (by decide) w)
 replace HS : Hid (∀ w, Calls Tryz.prog 156 #[.int .u64 (3 : Int)] w fun e w' => e = .returned (wv 3) ∧ Below w.heap.size w w') := HS
 have HL := hideP (fun w => Zfk m 3 hm (by decide) w)
 have HBL := hideP (fun w => ZbY m hm (by omega) w)
 have HINV := hideP (fun w => ZdW (limb m 0) (by omega) w)
 have HM := hideP hm
 have HO := hideP hodd
 have H3 := hideP h3
 have e1 : ((limb m 0 : Int)).tmod 2 = 1 := by rw [Int.tmod_eq_emod_of_nonneg (by omega)]; omega
 have e2 : IntKind.u64.wrap (1 : Int) = 1 := rfl
 rw [decide_eq_false (show ¬ m < 3 by omega)] at HL
 unfold wv at HS HL HBL ⊢
 unfold cs
 clear hm hodd h3 h0
 go_enter Tryz.func77, Tryz.ntmps77
 go_wp2_with fail
 rename_i Q' K hK
 have HK := hideP hK
 clear hK
 refine Zaj (fun W0 hW0 => ?_)
 have hA : W0.heap[w.heap.size]? = some (.cells (cs (limb m)) 28 (0, 0)) := by
  rw [hW0]
  exact Zaf _ _
 have HBW : Hid (Below w.heap.size w W0) := by
  show Below _ _ _
  rw [hW0]
  repeat first | exact Below.refl _ _ | (refine Below.alloc ?_ (by simp <;> omega) _)
 clear hW0
 have c0 := Zac hA (get (limb m) (show 0 < 6 by decide))
 have hlt := Zab hA
 have HA := hideP hA
 clear hA
 refine Zai (S := fun V => Below W0.heap.size W0 V) (by kernel_rfl) ((Below.refl _ _).drew) (fun hS => ?_)
 refine tkG 0 hS ?_
 simp only [Zaa, Zs, Zz]
 refine tkI 1 ?_ hS ?_ ?_
 rotate_left
 ·
  intro V hV
  have k0 := (hV.cell (p := ⟨w.heap.size, 0, none⟩) hlt).trans c0
  go_simp
  (try with_reducible rfl)
 simp only [Zaa, Zs, Zz]
 refine tkG 2 hS ?_
 simp only [Zaa, Zs, Zz]
 refine tkG 3 hS ?_
 simp only [Zaa, Zs, Zz]
 refine tkG 4 hS ?_
 simp only [Zaa, Zs, Zz]
 refine Zak (i := 5) (v := .agg (cs (limb m))) rfl (by kernel_rfl) (by kernel_rfl) (by kernel_rfl) (fun _ _ _ h => h) (yieldsIf_load_mid (by kernel_rfl) 28 _ rfl (w.heap.size) (0) rfl (cs (limb m)).toList _ (fun V hV => Zag ((hV.block _ (Zab HA.out)).trans HA.out)) under rfl (info _)) hS ?_
 simp only [Zaa, Zs, Zz]
 refine rd1 6 (fun K hK => ?_)
 go_simp
 refine (HS.out _).mono ?_
 rintro e w1 ⟨rfl, hbc⟩
 refine hK.out _ _ (hS.trans (hbc.mono hS.size)) (fun hS => ?_)
 clear hK K
 clear hbc
 refine rd1 7 (fun K hK => ?_)
 go_simp
 refine (HL.out _).mono ?_
 rintro e w2 ⟨rfl, hbc⟩
 refine hK.out _ _ (hS.trans (hbc.mono hS.size)) (fun hS => ?_)
 clear hK K
 clear hbc
 refine tkG 8 hS ?_
 simp only [Zaa, Zs, Zz]
 refine wpAnyH_done (by kernel_rfl) ?_ _
 (try simp only [Zas])
 have HB1 := hideP (HBW.out.trans (hS.mono HBW.out.size))
 have HA1 := hideP ((hS.block _ (Zab HA.out)).trans HA.out)
 clear hS c0 hlt HS HL HA HBW
 go_wp2_with fail
 refine HK.out _ _ ?_
 refine wp_cond_false rfl (wp_skip ?_)
 clear HK
 go_wp2_with fail
 rename World => W1
 have c0 := Zac HA1.out (get (limb m) (show 0 < 6 by decide))
 have hlt := Zab HA1.out
 refine Zai (S := fun V => Below W1.heap.size W1 V) (by kernel_rfl) ((Below.refl _ _).drew) (fun hS => ?_)
 refine Zak (i := 0) (v := .agg (cs (limb m))) rfl (by kernel_rfl) (by kernel_rfl) (by kernel_rfl) (fun _ _ _ h => h) (yieldsIf_load_mid (by kernel_rfl) 28 _ rfl (w.heap.size) (0) rfl (cs (limb m)).toList _ (fun V hV => Zag ((hV.block _ (Zab HA1.out)).trans HA1.out)) under rfl (info _)) hS ?_
 simp only [Zaa, Zs, Zz]
 refine tkG 1 hS ?_
 simp only [Zaa, Zs, Zz]
 refine tkI 2 ?_ hS ?_ ?_
 rotate_left
 ·
  intro V hV
  have k0 := (hV.cell (p := ⟨w.heap.size, 0, none⟩) hlt).trans c0
  go_simp
  (try with_reducible rfl)
 simp only [Zaa, Zs, Zz]
 refine rd1 3 (fun K hK => ?_)
 go_simp
 refine (HINV.out _).mono ?_
 rintro e w9 ⟨⟨x, rfl, hx, hxm⟩, rfl⟩
 refine hK.out _ _ hS (fun hS => ?_)
 clear hK K
 obtain ⟨f, hf, hwf, hff⟩ := ZgC hx hxm
 refine tkG 4 hS ?_
 simp only [Zaa, Zs, Zz]
 refine tkI 5 (.agg (rc m f 0 0)) hS ?_ ?_
 ·
  intro V hV
  unfold cs
  go_simp
  rfl
 simp only [Zaa, Zs, Zz]
 refine rd1 6 (fun K hK => ?_)
 go_simp
 refine hK.out _ _ (hS.alloc hS.size _) (fun hS => ?_)
 clear hK K
 refine rd1 7 (fun K hK => ?_)
 go_simp
 refine hK.out _ _ hS (fun hS => ?_)
 clear hK K
 refine wpAnyH_done (by kernel_rfl) ?_ _
 (try simp only [Zas])
 refine ZdZ (fun W2 hW2 => ?_)
 have hr : RingAt W2 W1.heap.size m f 0 0 := ⟨by rw [hW2]; exact Zaf _ _⟩
 have hA2 : W2.heap[w.heap.size]? = some (.cells (cs (limb m)) 28 (0, 0)) := by
  rw [hW2]
  exact (Zah _ _ hlt).trans HA1.out
 have HB2 : Hid (Below w.heap.size w W2) := by
  show Below _ _ _
  rw [hW2]
  exact Below.alloc HB1.out.drew HB1.out.size _
 have hMF : MF m f := ⟨HO.out, HM.out, H3.out, hff⟩
 generalize hPP : W1.heap.size = P at hr ⊢
 have hwP : w.heap.size < P := by omega
 clear hW2 hx hxm hf hwf hff c0 hPP HA1 HB1
 obtain ⟨q0, q1, q2, q3, q4, q5⟩ := cells hA2
 have HR2 := hideP hr
 have HMF := hideP hMF
 have HA2 := hideP hA2
 clear hr hMF hA2 hlt
 unfold cs at HBL
 go_wp2_with fail
 refine (HBL.out _).mono ?_
 rintro e W3 ⟨⟨n, rfl, hn1, hn2, hn3, hn4⟩, hb⟩
 obtain ⟨h, rfl⟩ : ∃ h, n = h + 1 := ⟨n - 1, by omega⟩
 rw [Nat.add_sub_cancel] at hn4
 have h2m : 2 ^ h < m := by
  rcases Nat.lt_or_eq_of_le hn4 with h1 | h1
  ·
   exact h1
  ·
   exfalso
   have := HO.out
   have := H3.out
   cases h with
   | zero => simp at h1; omega
   | succ h => rw [Nat.pow_succ] at h1; omega
 have hh : h < 384 := by omega
 have ew1 : IntKind.i64.wrap ((h : Int) + 1 - 1) = (h : Int) := by rw [IntKind.wrap_i64]; omega
 have ew2 : IntKind.i64.wrap (h : Int) = (h : Int) := by rw [IntKind.wrap_i64]; omega
 have ew4 : IntKind.i64.wrap (384 : Int) = 384 := rfl
 have ew3 : IntKind.i64.wrap (384 - (h : Int)) = ((384 - h : Nat) : Int) := by rw [IntKind.wrap_i64]; omega
 have hR2 : 2 ^ h * 2 ^ (384 - h) % m = el m 1 := by
  have hps : 2 ^ h * 2 ^ (384 - h) = R := (ZdY h 6 (by omega)).trans R_eq.symm
  rw [hps, ZiT]
 have HR3 := hideP (HR2.out.below hb)
 have HA3 := hideP ((hb.block _ (Zab HA2.out)).trans HA2.out)
 have HB3 := hideP (HB2.out.trans (hb.mono HB2.out.size))
 have hP3 : P < W3.heap.size := HR3.out.lt
 have HBIT := hideP (fun w => ZgB h hh w)
 have HDB : Hid (∀ w, RingAt w P m f 0 0 → Calls Tryz.prog 158 #[.pointer (some ⟨P, 0, none⟩), wv (2 ^ h), .int .i64 ((384 - h : Nat) : Int)] w fun e w' => e = .returned (wv (el m 1)) ∧ Below w.heap.size w w') := fun w hr => by
  have := Zbq hr HMF.out (2 ^ h) (384 - h) h2m (by omega)
  rw [hR2] at this
  exact this
 unfold wv at HBIT HDB
 clear hb hn1 hn2 hn3 hn4 h2m hh hR2 HR2 HA2 HB2 HBL q0 q1 q2 q3 q4 q5
 go_wp2_with fail
 refine Zai (S := fun V => Below P W3 V) (by kernel_rfl) ((Below.refl _ _).drew) (fun hS => ?_)
 refine tkG 0 hS ?_
 simp only [Zaa, Zs, Zz]
 refine tkG 1 hS ?_
 simp only [Zaa, Zs, Zz]
 refine tkG 2 hS ?_
 simp only [Zaa, Zs, Zz]
 refine Zak (i := 4) (v := .agg (cs (limb m))) rfl (by kernel_rfl) (by kernel_rfl) (by kernel_rfl) (fun _ _ _ h => h) (yieldsIf_load_mid (by kernel_rfl) 28 _ rfl (w.heap.size) (0) rfl (cs (limb m)).toList _ (fun V hV => Zag ((hV.block _ hwP).trans HA3.out)) under rfl (info _)) hS ?_
 simp only [Zaa, Zs, Zz]
 refine tkG 5 hS ?_
 simp only [Zaa, Zs, Zz]
 refine tkG 6 hS ?_
 simp only [Zaa, Zs, Zz]
 refine tkG 7 hS ?_
 simp only [Zaa, Zs, Zz]
 refine tkG 8 hS ?_
 simp only [Zaa, Zs, Zz]
 refine rd1 3 (fun K hK => ?_)
 go_simp
 refine (HBIT.out _).mono ?_
 rintro e w5 ⟨rfl, hbc⟩
 refine hK.out _ _ (hS.trans (hbc.mono (Nat.le_trans (Nat.le_of_lt hP3) hS.size))) (fun hS => ?_)
 clear hK K
 have hr5 := HR3.out.drew.below hbc
 clear hbc
 refine rd1 9 (fun K hK => ?_)
 go_simp
 refine (HDB.out _ hr5).mono ?_
 rintro e w6 ⟨rfl, hbc⟩
 refine hK.out _ _ (hS.trans (hbc.mono (Nat.le_trans (Nat.le_of_lt hP3) hS.size))) (fun hS => ?_)
 clear hK K
 have hr6 := hr5.below hbc
 clear hbc
 refine tkG 10 hS ?_
 simp only [Zaa, Zs, Zz]
 refine tkG 11 hS ?_
 simp only [Zaa, Zs, Zz]
 refine rd1 12 (fun K hK => ?_)
 refine Za7 (by kernel_rfl) ?_
 refine Zan 28 (.tmp 36) (.tmp 34) rfl rfl P (6 + 1) (cs (limb (el m 1))) rfl rfl (hr6.thereOne _) (info _) (one _) ?_
 have hr7 := hr6.putOne (el m 1)
 have hS9 := hS.trans (But.sets (cs (limb (el m 1))).toList (6 + 1) (But.refl P w6)).below
 clear hS
 generalize World.setCells w6 P (6 + 1) (cs (limb (el m 1))).toList = W7 at hr7 hS9 ⊢
 refine hK.out _ _ hS9 (fun hS => ?_)
 clear hK K hS9
 refine wpAnyH_done (by kernel_rfl) ?_ _
 (try simp only [Zas])
 clear HDB HBIT
 have HR7 := hideP hr7
 have HA7 := hideP ((hS.block _ hwP).trans HA3.out)
 have HB7 := hideP (HB3.out.trans (hS.mono (Nat.le_of_lt hwP)))
 have hP7 : P < W7.heap.size := HR7.out.lt
 have HDB : Hid (∀ w, RingAt w P m f (el m 1) 0 → Calls Tryz.prog 158 #[.pointer (some ⟨P, 0, none⟩), wv (el m 1), .int .i64 (6 : Int)] w fun e w' => e = .returned (wv (el m (2 ^ 6))) ∧ Below w.heap.size w w') := fun w hr => by
  have := Zbq hr HMF.out (el m 1) 6 (ZbO HMF.out 1) (by decide)
  rw [show el m 1 * 2 ^ 6 % m = el m (2 ^ 6) by unfold el; rw [Nat.one_mul, Nat.mod_mul_mod, Nat.mul_comm]] at this
  exact this
 unfold wv at HDB
 clear hS hr7 hr5 hr6 HA3 HB3 HR3 hP3
 go_wp2_with fail
 refine Zai (S := fun V => Below P W7 V) (by kernel_rfl) ((Below.refl _ _).drew) (fun hS => ?_)
 refine tkG 0 hS ?_
 simp only [Zaa, Zs, Zz]
 refine tkG 1 hS ?_
 simp only [Zaa, Zs, Zz]
 refine tkG 2 hS ?_
 simp only [Zaa, Zs, Zz]
 refine tkG 3 hS ?_
 simp only [Zaa, Zs, Zz]
 refine tkG 4 hS ?_
 simp only [Zaa, Zs, Zz]
 refine Zak (i := 6) (v := .agg (cs (limb m))) rfl (by kernel_rfl) (by kernel_rfl) (by kernel_rfl) (fun _ _ _ h => h) (yieldsIf_load_mid (by kernel_rfl) 28 _ rfl (w.heap.size) (0) rfl (cs (limb m)).toList _ (fun V hV => Zag ((hV.block _ hwP).trans HA7.out)) under rfl (info _)) hS ?_
 simp only [Zaa, Zs, Zz]
 refine tkG 7 hS ?_
 simp only [Zaa, Zs, Zz]
 refine rd1 5 (fun K hK => ?_)
 refine Za7 (by kernel_rfl) ?_
 refine Za8 28 (.tmp 41) 42 rfl rfl (P) (6 + 1) (cs (limb (el m 1))) rfl _ (HR7.out.drew.one) under rfl (info _) ?_
 refine hK.out _ _ hS (fun hS => ?_)
 clear hK K
 simp only [Zs, Zz]
 refine rd1 8 (fun K hK => ?_)
 go_simp
 refine (HDB.out _ HR7.out.drew).mono ?_
 rintro e w8 ⟨rfl, hbc⟩
 refine hK.out _ _ (hS.trans (hbc.mono (Nat.le_trans (Nat.le_of_lt hP7) hS.size))) (fun hS => ?_)
 clear hK K
 have hr8 := HR7.out.drew.below hbc
 clear hbc
 refine tkG 9 hS ?_
 simp only [Zaa, Zs, Zz]
 refine tkG 10 hS ?_
 simp only [Zaa, Zs, Zz]
 refine rd1 11 (fun K hK => ?_)
 refine Za7 (by kernel_rfl) ?_
 refine Zan 28 (.tmp 47) (.tmp 45) rfl rfl P (2 * 6 + 1) (cs (limb (el m (2 ^ 6)))) rfl rfl (hr8.thereRadix _) (info _) (one _) ?_
 have hr9 := hr8.putRadix (el m (2 ^ 6))
 have hS9 := hS.trans (But.sets (cs (limb (el m (2 ^ 6)))).toList (2 * 6 + 1) (But.refl P w8)).below
 clear hS
 generalize World.setCells w8 P (2 * 6 + 1) (cs (limb (el m (2 ^ 6)))).toList = W9 at hr9 hS9 ⊢
 refine hK.out _ _ hS9 (fun hS => ?_)
 clear hK K hS9
 refine wpAnyH_done (by kernel_rfl) ?_ _
 (try simp only [Zas])
 have HR9 : Hid (RingAt W9 P m f (el m 1) (el m ((2 ^ 6) ^ (2 ^ 0)))) := hr9
 have HB9 := hideP (HB7.out.trans (hS.mono (Nat.le_of_lt hwP)))
 clear hS hr9 hr8 HDB HA7 HB7 HR7 hP7 ew1 ew2 ew3 ew4
 go_wp2_with fail
 rename_i Q' K hK
 have HK := hideP hK
 clear hK
 go_loopw [48] (fun i wr => ∃ k : Nat, k ≤ 6 ∧ i = .int .i64 k ∧ RingAt wr P m f (el m 1) (el m ((2 ^ 6) ^ (2 ^ k))) ∧ Below w.heap.size w wr) (fun i _ => 6 - (intOf i).toNat)
 case atStart => exact ⟨0, Nat.zero_le _, rfl, HR9.out, HB9.out⟩
 case round =>
  obtain ⟨k, hk, rfl, hr, hbw⟩ := hrel
  have HR := hideP hr
  have HBW := hideP hbw
  by_cases hlt : k < 6
  ·
   have hlt' : (k : Int) < 6 := by omega
   have e4 : IntKind.i64.wrap ((k : Int) + 1) = (k : Int) + 1 := by rw [IntKind.wrap_i64]; omega
   have HKS : Hid (k + 1 ≤ 6) := hlt
   have hP : P < wr.heap.size := hr.lt
   have HMU := hideP (Zda hr.drew HMF.out ((2 ^ 6) ^ (2 ^ k)) ((2 ^ 6) ^ (2 ^ k)))
   rw [← Nat.pow_add, ← Nat.two_mul, Nat.mul_comm 2, ← Nat.pow_succ] at HMU
   unfold wv at HMU
   clear hr hbw hlt hk
   generalize el m ((2 ^ 6) ^ (2 ^ k)) = Ek at *
   generalize hE1 : el m ((2 ^ 6) ^ (2 ^ (k + 1))) = Ek1 at HMU
   go_wp2_with fail
   refine Zai (S := fun V => Below P wr V) (by kernel_rfl) ((Below.refl _ _).drew) (fun hS => ?_)
   refine tkG 0 hS ?_
   simp only [Zaa, Zs, Zz]
   refine tkG 1 hS ?_
   simp only [Zaa, Zs, Zz]
   refine tkG 2 hS ?_
   simp only [Zaa, Zs, Zz]
   refine tkG 3 hS ?_
   simp only [Zaa, Zs, Zz]
   refine tkG 4 hS ?_
   simp only [Zaa, Zs, Zz]
   refine tkG 6 hS ?_
   simp only [Zaa, Zs, Zz]
   refine tkG 7 hS ?_
   simp only [Zaa, Zs, Zz]
   refine tkG 8 hS ?_
   simp only [Zaa, Zs, Zz]
   refine wpAnyH_ready (rs := [5, 9]) (by kernel_rfl) (by simp) (AllReadyH.cons rfl (fun K hK => ?_) (AllReadyH.cons rfl (fun K hK => ?_) AllReadyH.nil))
   ·
    refine Za7 (by kernel_rfl) ?_
    refine Za8 28 (.tmp 54) 55 rfl rfl P (2 * 6 + 1) (cs (limb Ek)) rfl _ (HR.out.drew.radix) under rfl (info _) ?_
    refine hK.out _ _ hS (fun hS => ?_)
    clear hK K
    simp only [Zs, Zz]
    refine rd1 9 (fun K hK => ?_)
    refine Za7 (by kernel_rfl) ?_
    refine Za8 28 (.tmp 58) 59 rfl rfl (P) (2 * 6 + 1) (cs (limb Ek)) rfl _ (HR.out.drew.radix) under rfl (info _) ?_
    refine hK.out _ _ hS (fun hS => ?_)
    clear hK K
    simp only [Zs, Zz]
    refine rd1 10 (fun K hK => ?_)
    go_simp
    refine (HMU.out).mono ?_
    rintro e w8 ⟨rfl, hbc⟩
    refine hK.out _ _ (hS.trans (hbc.mono (Nat.le_trans (Nat.le_of_lt hP) hS.size))) (fun hS => ?_)
    clear hK K
    have hr8 := HR.out.drew.below hbc
    clear hbc
    refine tkG 11 hS ?_
    simp only [Zaa, Zs, Zz]
    refine tkG 12 hS ?_
    simp only [Zaa, Zs, Zz]
    refine rd1 13 (fun K hK => ?_)
    refine Za7 (by kernel_rfl) ?_
    refine Zan 28 (.tmp 62) (.tmp 60) rfl rfl P (2 * 6 + 1) (cs (limb Ek1)) rfl rfl (hr8.thereRadix _) (info _) (one _) ?_
    have hr9 := hr8.putRadix Ek1
    have hS9 := hS.trans (But.sets (cs (limb Ek1)).toList (2 * 6 + 1) (But.refl P w8)).below
    clear hS
    generalize World.setCells w8 P (2 * 6 + 1) (cs (limb Ek1)).toList = W9 at hr9 hS9 ⊢
    refine hK.out _ _ hS9 (fun hS => ?_)
    clear hK K hS9
    refine wpAnyH_done (by kernel_rfl) ?_ _
    (try simp only [Zas])
    have HR9 : Hid (RingAt W9 P m f (el m 1) Ek1) := hr9
    have HB9 := hideP (HBW.out.trans (hS.mono (Nat.le_of_lt hwP)))
    clear hS hr9 hr8
    go_wp2_with fail
    refine ⟨⟨_, _, _, _, _, _, _, _, _, _, _, _, _, _, _, _, ⟨k + 1, HKS.out, ?h1, ?h2, HB9.out⟩, rfl⟩, ?h3⟩
    case h1 => go_num
    case h2 => rw [hE1]; exact HR9.out
    case h3 => have := HKS.out; simp [intOf]; omega
   ·
    refine Za7 (by kernel_rfl) ?_
    refine Za8 28 (.tmp 58) 59 rfl rfl P (2 * 6 + 1) (cs (limb Ek)) rfl _ (HR.out.drew.radix) under rfl (info _) ?_
    refine hK.out _ _ hS (fun hS => ?_)
    clear hK K
    simp only [Zs, Zz]
    refine rd1 5 (fun K hK => ?_)
    refine Za7 (by kernel_rfl) ?_
    refine Za8 28 (.tmp 54) 55 rfl rfl (P) (2 * 6 + 1) (cs (limb Ek)) rfl _ (HR.out.drew.radix) under rfl (info _) ?_
    refine hK.out _ _ hS (fun hS => ?_)
    clear hK K
    simp only [Zs, Zz]
    refine rd1 10 (fun K hK => ?_)
    go_simp
    refine (HMU.out).mono ?_
    rintro e w8 ⟨rfl, hbc⟩
    refine hK.out _ _ (hS.trans (hbc.mono (Nat.le_trans (Nat.le_of_lt hP) hS.size))) (fun hS => ?_)
    clear hK K
    have hr8 := HR.out.drew.below hbc
    clear hbc
    refine tkG 11 hS ?_
    simp only [Zaa, Zs, Zz]
    refine tkG 12 hS ?_
    simp only [Zaa, Zs, Zz]
    refine rd1 13 (fun K hK => ?_)
    refine Za7 (by kernel_rfl) ?_
    refine Zan 28 (.tmp 62) (.tmp 60) rfl rfl P (2 * 6 + 1) (cs (limb Ek1)) rfl rfl (hr8.thereRadix _) (info _) (one _) ?_
    have hr9 := hr8.putRadix Ek1
    have hS9 := hS.trans (But.sets (cs (limb Ek1)).toList (2 * 6 + 1) (But.refl P w8)).below
    clear hS
    generalize World.setCells w8 P (2 * 6 + 1) (cs (limb Ek1)).toList = W9 at hr9 hS9 ⊢
    refine hK.out _ _ hS9 (fun hS => ?_)
    clear hK K hS9
    refine wpAnyH_done (by kernel_rfl) ?_ _
    (try simp only [Zas])
    have HR9 : Hid (RingAt W9 P m f (el m 1) Ek1) := hr9
    have HB9 := hideP (HBW.out.trans (hS.mono (Nat.le_of_lt hwP)))
    clear hS hr9 hr8
    go_wp2_with fail
    refine ⟨⟨_, _, _, _, _, _, _, _, _, _, _, _, _, _, _, _, ⟨k + 1, HKS.out, ?h1, ?h2, HB9.out⟩, rfl⟩, ?h3⟩
    case h1 => go_num
    case h2 => rw [hE1]; exact HR9.out
    case h3 => have := HKS.out; simp [intOf]; omega
  ·
   have hkn : k = 6 := by omega
   have hnl : ¬ (k : Int) < 6 := by omega
   rw [hkn, show (2 ^ 6) ^ (2 ^ 6) = R by decide] at hr
   have HR6 := hideP hr
   clear hr hbw hlt hk hkn HR
   go_wp2_with fail
   refine HK.out _ _ ?_
   go_wp2
   go_ret2
   exact ⟨P, rfl, Nat.le_of_lt hwP, ⟨f, HMF.out, HR6.out⟩, HBW.out⟩
theorem ZiU {p m : Nat} {w : World} (hgood : Good w p m) (A : Nat) (hA1 : A < R) : Calls Tryz.prog 211 #[.pointer (some ⟨p, 0, none⟩), wv A] w fun e w' => e = .returned (wv (el m A)) ∧ Below w.heap.size w w' := by
 have hp := hgood.lt
 obtain ⟨f, hMF, hr⟩ := hgood.ex
 have HIS := hideP (fun w (hr : RingAt w p m f (el m 1) (el m R)) => ZaS hr hMF)
 have HMF := hideP hMF
 have HR := hideP hr
 clear hr hMF hgood
 unfold wv
 unfold cs
 go_enter Tryz.func211, Tryz.ntmps211
 refine Zae (fun K0 HK0 => ?_)
 go_wp2_with fail
 refine HK0.out _ _ ?_
 clear HK0 K0
 refine Zaj (fun W0 hW0 => ?_)
 have hA : W0.heap[w.heap.size]? = some (.cells (cs (limb A)) 28 (0, 0)) := by
  rw [hW0]
  exact ((Zah _ _ (by simp <;> omega)).trans (Zaf _ _))
 have hD : W0.heap[w.heap.size + 1]? = some (.cells (cs (fun _ => 0)) 28 (0, 0)) := by
  rw [hW0]
  exact Zat _ _ _ 
 have HBW : Hid (Below w.heap.size w W0) := by
  show Below _ _ _
  rw [hW0]
  repeat first | exact Below.refl _ _ | (refine Below.alloc ?_ (by simp <;> omega) _)
 clear hW0
 have HR0 := hideP (HR.out.belowN hp HBW.out)
 have HA := hideP hA
 have HD := hideP hD
 clear HR hA hD
 have nP : p ≠ w.heap.size + 1 := by omega
 have nA : w.heap.size ≠ w.heap.size + 1 := by omega
 have nR : w.heap.size ≤ w.heap.size + 1 := by omega
 generalize hRR : w.heap.size + 1 = R0 at *
 refine Zae (fun K1 HK1 => ?_)
 refine Zae (fun K2 HK2 => ?_)
 go_wp2_with (go_at_call 242; refine (HIS.out _ HR0.out).mono ?_; rintro e w' ⟨rfl, rfl⟩)
 refine HK2.out _ _ ?_
 clear HK2 K2
 refine wp_cond_true rfl ?_
 refine Zai (S := fun V => KP W0 R0 V) (by kernel_rfl) (KP.init HD.out) (fun hS => ?_)
 refine tkG 0 hS ?_
 simp only [Zaa, Zs, Zz]
 refine Zak (i := 1) (v := .agg (cs (limb A))) rfl (by kernel_rfl) (by kernel_rfl) (by kernel_rfl) (fun _ _ _ h => h) (yieldsIf_load_mid (by kernel_rfl) 28 _ rfl (w.heap.size) (0) rfl (cs (limb A)).toList _ (fun V hV => Zag (hV.box HA.out nA)) under rfl (info _)) hS ?_
 simp only [Zaa, Zs, Zz]
 refine tkG 2 hS ?_
 simp only [Zaa, Zs, Zz]
 refine tkG 3 hS ?_
 simp only [Zaa, Zs, Zz]
 refine tkG 4 hS ?_
 simp only [Zaa, Zs, Zz]
 refine Zak (i := 5) (v := .agg (cs (limb (el m R)))) rfl (by kernel_rfl) (by kernel_rfl) (by kernel_rfl) (fun _ _ _ h => h) (yieldsIf_load_mid (by kernel_rfl) 28 _ rfl (p) (2 * 6 + 1) rfl (cs (limb (el m R))).toList _ (fun V hV => (hV.ring HR0.out nP).radix) under rfl (info _)) hS ?_
 simp only [Zaa, Zs, Zz]
 have HC := hideP (ZgA HR0.out.drew HMF.out A hA1)
 unfold wv at HC
 refine rd1 6 (fun K hK => ?_)
 go_simp
 refine HC.out.mono ?_
 rintro e w1 ⟨rfl, hbc⟩
 refine hK.out _ _ (hS.call hbc) (fun hS => ?_)
 clear hK K
 clear hbc
 refine rd1 7 (fun K hK => ?_)
 refine Za7 (by kernel_rfl) ?_
 refine Zan 28 (.tmp 4) (.tmp 13) rfl rfl (R0) 0 (cs (limb (el m A))) rfl rfl (hS.there _) (info _) (one _) ?_
 have g1 := hS.put ((limb (el m A)))
 have hS9 := hS.store ((limb (el m A)))
 clear hS
 generalize World.setCells _ (R0) 0 (cs (limb (el m A))).toList = w2 at g1 hS9 ⊢
 refine hK.out _ _ hS9 (fun hS => ?_)
 clear hK K hS9
 refine wpAnyH_done (by kernel_rfl) ?_ _
 (try simp only [Zas])
 refine HK1.out _ _ ?_
 refine Za4 (fun _ _ h => h) rfl rfl rfl (by decide) (by show 14 < 15; decide) rfl under rfl (info _) (one _) (Zag g1) (Zar g1 _) ?_
 intro wS hBut
 exact ⟨rfl, HBW.out.trans ((hS.below.mono nR).trans (hBut.below.mono nR))⟩
attribute [local go_sem] Oper.semAt_some
end Go.Proofs.YtcbdbnfgnonacaaGreat.W6
namespace Go.Proofs.YtcbdbnfgnonacaaGreat.P6
open Go.RowKit Go.Shelf
abbrev K := Nat
noncomputable def ev (m : Nat) (x : K) : Array Value := Classical.choose (⟨_, rfl⟩ : ∃ C : Array Value, C = W6.cs (limb (W6.el m x)))
theorem Zb0 (m : Nat) (x : K) : ev m x = W6.cs (limb (W6.el m x)) := Classical.choose_spec (⟨_, rfl⟩ : ∃ C : Array Value, C = W6.cs (limb (W6.el m x)))
noncomputable def nv (A : K) : Array Value := Classical.choose (⟨_, rfl⟩ : ∃ C : Array Value, C = W6.cs (limb A))
theorem Za3 (A : K) : nv A = W6.cs (limb A) := Classical.choose_spec (⟨_, rfl⟩ : ∃ C : Array Value, C = W6.cs (limb A))
def Fits (A : K) : Prop := A < W6.R
theorem ZaF (m : Nat) (x : K) : (ev m x).size = 6 := by rw [Zb0]; rfl
theorem Zao (A : K) : (nv A).size = 6 := by rw [Za3]; rfl
theorem Zb4 (m : Nat) (x : K) : (ev m x).all (·.oneCell') = true := by rw [Zb0]; exact W6.one _
theorem Zba (A : K) : (nv A).all (·.oneCell') = true := by rw [Za3]; exact W6.one _
def ifv (p : Nat) : Value := .iface 137 (.pointer (some ⟨p, 0, none⟩))
def rcv (p : Nat) : Value := .pointer (some ⟨p, 0, none⟩)
abbrev FOK (w : World) (p m : Nat) : Prop := W6.Good w p m
theorem _root_.Go.Proofs.YtcbdbnfgnonacaaGreat.W6.Good.of_same {w w' : World} {p m : Nat} (h : W6.Good w p m) (hp : w'.heap[p]? = w.heap[p]?) : W6.Good w' p m := by
 obtain ⟨f, h1, h2⟩ := h.ex
 exact ⟨f, h1, ⟨hp.trans h2.heap⟩⟩
def k0 : K := 0
def k1 : K := 1
section
variable (p : Nat) (a b : Value) (w : World)
set_option maxRecDepth 100000
theorem ZgF : (callMethod (ifv p) "In" #[a]).run Tryz.prog w = .ok (.enter 211 #[rcv p, a]) w := by kernel_rfl
theorem ZgG : (nilAhead (Tryz.prog.types.size + Made.depth) 137 (rcv p) "In").run Tryz.prog w = .ok (some false) w := by kernel_rfl
end
section
variable {w : World} {p m : Nat} (hg : FOK w p m) (x y : K)
include hg
theorem c_In (hx : Fits x) : Calls Tryz.prog 211 #[rcv p, .agg (nv x)] w fun e w' => e = .returned (.agg (ev m x)) ∧ Below w.heap.size w w' := by
 simp only [Zb0, Za3]
 exact W6.ZiU hg x hx
end
theorem eq_u (d : Nat) (x y : Int) (W : World) : (Op.equalIn (d + 1) 27 (.int .u64 x) (.int .u64 y)).run Tryz.prog W = .ok (x == y) W := by
 unfold Op.equalIn
 simp [go_sem]
theorem eq_l (d : Nat) (a0 a1 a2 a3 a4 a5 b0 b1 b2 b3 b4 b5 : Int) (W : World) : (Op.equalIn (d + 2) 28 (.agg #[.int .u64 a0, .int .u64 a1, .int .u64 a2, .int .u64 a3, .int .u64 a4, .int .u64 a5]) (.agg #[.int .u64 b0, .int .u64 b1, .int .u64 b2, .int .u64 b3, .int .u64 b4, .int .u64 b5])).run Tryz.prog W = .ok (a0 == b0 && (a1 == b1 && (a2 == b2 && (a3 == b3 && (a4 == b4 && (a5 == b5)))))) W := by
 unfold Op.equalIn
 simp [go_sem, List.range', eq_u]
 by_cases h0 : a0 = b0 <;> by_cases h1 : a1 = b1 <;> by_cases h2 : a2 = b2 <;> by_cases h3 : a3 = b3 <;> by_cases h4 : a4 = b4 <;> by_cases h5 : a5 = b5 <;> simp [go_sem, h0, h1, h2, h3, h4, h5]
theorem eqv (d : Nat) {X Y : Nat} (hX : X < W6.R) (hY : Y < W6.R) (W : World) : (Op.equalIn (d + 2) 28 (.agg (nv X)) (.agg (nv Y))).run Tryz.prog W = .ok (decide (X = Y)) W := by
 rw [Za3, Za3]
 refine (eq_l d (limb X 0 : Int) (limb X 1 : Int) (limb X 2 : Int) (limb X 3 : Int) (limb X 4 : Int) (limb X 5 : Int) (limb Y 0 : Int) (limb Y 1 : Int) (limb Y 2 : Int) (limb Y 3 : Int) (limb Y 4 : Int) (limb Y 5 : Int) W).trans ?_
 congr 1
 rw [Bool.eq_iff_iff, decide_eq_true_eq]
 simp only [Bool.and_eq_true, beq_iff_eq]
 constructor
 ·
  rintro ⟨h0, h1, h2, h3, h4, h5⟩
  rw [← W6.Zal hX, ← W6.Zal hY]
  refine Za0 _ (fun j hj => ?_)
  match j, hj with
  | 0, _ => omega
  | 1, _ => omega
  | 2, _ => omega
  | 3, _ => omega
  | 4, _ => omega
  | 5, _ => omega
  | k + 6, h => exact absurd h (by omega)
 ·
  rintro rfl
  exact ⟨rfl, rfl, rfl, rfl, rfl, rfl⟩
theorem Zfl : Fits k0 := Nat.pos_of_ne_zero (by decide +kernel)
theorem underE : Tryz.prog.underlying 28 = some (.array 6 27) := by kernel_rfl
structure GAt (w : World) (g p m : Nat) (b : K) : Prop where
 fld : w.cell? ⟨g, 0, none⟩ = some (ifv p)
 zero : w.rangeAt g 1 (ev m k0).toList
 one : w.rangeAt g (1 + 6) (ev m k1).toList
 b : w.rangeAt g (1 + 2 * 6) (ev m b).toList
 ok : FOK w p m
 glt : g < w.heap.size
 plt : p < w.heap.size
theorem Zay {w w' : World} {g o : Nat} {l : List Value} (h : w'.heap[g]? = w.heap[g]?) (hr : w.rangeAt g o l) : w'.rangeAt g o l := fun j v hv => by
 have := hr j v hv
 unfold World.cell? at this ⊢
 rw [h]
 exact this
theorem GAt.same {w w' : World} {g p m : Nat} {b : K} (h : GAt w g p m b) (hg : w'.heap[g]? = w.heap[g]?) (hp : w'.heap[p]? = w.heap[p]?) (hs : w.heap.size ≤ w'.heap.size) : GAt w' g p m b :=
 ⟨by have := h.fld; unfold World.cell? at this ⊢; rw [hg]; exact this, Zay hg h.zero, Zay hg h.one, Zay hg h.b, h.ok.of_same hp, Nat.lt_of_lt_of_le h.glt hs, Nat.lt_of_lt_of_le h.plt hs⟩
theorem GAt.below {w w' : World} {g p m : Nat} {b : K} (h : GAt w g p m b) (hb : Below w.heap.size w w') : GAt w' g p m b := h.same (hb.block _ h.glt) (hb.block _ h.plt) hb.size
def zn : Array Value := Array.replicate 6 (.int .u64 0)
noncomputable def pt (x y : K) (i : Bool) : Array Value := Classical.choose (⟨_, rfl⟩ : ∃ C : Array Value, C = nv x ++ (nv y ++ #[.bool i]))
theorem Zbh (x y : K) (i : Bool) : pt x y i = nv x ++ (nv y ++ #[.bool i]) := Classical.choose_spec (⟨_, rfl⟩ : ∃ C : Array Value, C = nv x ++ (nv y ++ #[.bool i]))
theorem ZcB : nv k0 = zn := by first | (rw [Za3]; rfl) | (rw [Za3, P6.Za3, P6.Za3]; rfl)
def sz : Nat → Nat
 | 2 => 4
 | _ => 6
structure Dt where
 m : Nat
 g : Nat
 p : Nat
 b : K
 bx : K
 bY : K
 kw : Nat
 v : Nat → K
 bo : Nat → Bool
 cv : Nat
noncomputable abbrev al (D : Dt) : Al sz where
 K := K
 v := D.v
 c := fun _ => k0
 u := fun _ x => x
 b := fun _ x _ => x
 cells := fun k x => match k with
  | 0 => ev D.m x
  | 2 => W4.cs (limb D.kw)
  | _ => nv x
 hs := fun k x => match k with
  | 0 => ZaF D.m x
  | 1 => Zao x
  | 2 => rfl
  | _ + 3 => Zao x
 h1 := fun k x => match k with
  | 0 => Zb4 D.m x
  | 1 => Zba x
  | 2 => W4.one _
  | _ + 3 => Zba x
 lk := fun _ _ _ => true
 bo := D.bo
 xb := fun _ => D.g
 ov := fun _ => ifv D.p
 ho := fun _ => ⟨rfl, rfl⟩
def ft (fl : Nat → Bool) : EX → Bool
 | .v i => fl i
 | .c 0 => true
 | _ => false
def eI (fl : Nat → Bool) (s : String) (xs : List SV) : Option SV := match xs with
 | [.one (.ov _), .row [.e 1 x]] => if s = "In" ∧ ft fl x = true then some (.row [.e 0 x]) else none
 | _ => none
abbrev zE : Ch := .e 1 (.c 0)
abbrev fE : Ch := .s (.cx (.lit false))
abbrev zI : Ch := .s (.v (.int .u64 0))
def eZ (t : Nat) : Option (List Ch) := if t = 28 then some [zE] else if t = 253 then some [.s (.v .nilIface), zE, zE, zE, zE, zE, fE, zI, zI, zI, zI] else none
structure FAt (w : World) (p m : Nat) : Prop where
 ok : FOK w p m
 plt : p < w.heap.size
theorem FAt.below {w w' : World} {p m : Nat} (h : FAt w p m) (hb : Below w.heap.size w w') : FAt w' p m := ⟨h.ok.of_same (hb.block _ h.plt), Nat.lt_of_lt_of_le h.plt hb.size⟩
def envF (fl : Nat → Bool) (G : List (CX × Bool)) (X : Nat → List SV → Option SV) (XL : Nat → Nat → Nat → Option SV) (T : Nat → List SV → Option SV) : Env := ⟨aheadT X T, eI fl, XL, eZ, fun _ _ _ => none, G, fun s _ => s == "In"⟩
section
variable {D : Dt} {β : Nat → Nat}
theorem rw_w (x : EX) : ((al D).rw β [.e 2 x]).toArray = W4.cs (limb D.kw) := by simp [Al.rw, Al.ch]
end
def XLOK {sz : Nat → Nat} (A : Al sz) (XL : Nat → Nat → Nat → Option SV) (w : World) : Prop := ∀ i q t y β V, XL i q t = some y → Below w.heap.size w V → (loadVar t ⟨A.xb i, q, none⟩).run Tryz.prog V = .ok (A.sv β y) V
theorem XLOK.mono {sz : Nat → Nat} {A : Al sz} {XL : Nat → Nat → Nat → Option SV} {w V : World} (h : XLOK A XL w) (hV : Below w.heap.size w V) : XLOK A XL V := fun i q t y β U e hU => h i q t y β U e (hV.trans (hU.mono hV.size))
theorem z_ok {D : Dt} {t : Nat} {l : List Ch} (β : Nat → Nat) (V : World) (h : eZ t = some l) : ∃ z, (zeroValue t).run Tryz.prog V = .ok z V ∧ z.cells = ((al D).rw β l).toArray := by
 have hz : ((al D).ch β zE) = zn.toList := by
  show (nv k0).toList = _
  rw [ZcB]
 unfold eZ at h
 split at h
 ·
  rename_i hc
  subst hc
  cases h
  refine ⟨.agg zn, by kernel_rfl, ?_⟩
  simp only [Al.rw, hz]
  rfl
 rename_i hc
 clear hc
 split at h
 ·
  rename_i hc
  subst hc
  cases h
  refine ⟨.agg (#[.nilIface] ++ zn ++ zn ++ zn ++ zn ++ zn ++ #[.bool false] ++ Array.replicate 4 (.int .u64 0)), by kernel_rfl, ?_⟩
  simp only [Al.rw, hz]
  rfl
 ·
  cases h
theorem Zdc {D : Dt} {fl : Nat → Bool} (hv : ∀ i, fl i = true → Fits (D.v i)) {x : EX} (h : ft fl x = true) : Fits ((al D).d x) := by
 unfold ft at h
 split at h
 ·
  exact hv _ h
 ·
  exact Zfl
 ·
  cases h
theorem Zb9 {w : World} {D : Dt} {fl : Nat → Bool} {G : List (CX × Bool)} {X T : Nat → List SV → Option SV} {XL : Nat → Nat → Nat → Option SV} (HG : FAt w D.p D.m) (hv : ∀ i, fl i = true → Fits (D.v i)) (hG : ∀ x ∈ G, (al D).cx x.1 = x.2) (hX : TOK Tryz.prog (al D) X w) (hL : XLOK (al D) XL w) (hT : TOK Tryz.prog (al D) T w) : EnvOK Tryz.prog (al D) (envF fl G X XL T) w where
 G := hG
 F := fun s i h => by
  refine ⟨_, _, rfl, fun V => ?_⟩
  simp only [envF, beq_iff_eq] at h
  subst h
  exact ZgG D.p V
 T := Zdy hX hT
 I := fun s xs y β V h hV => by
  have hF := (HG.below hV).ok
  have h : eI fl s xs = some y := h
  unfold eI at h
  split at h
  ·
   split at h
   ·
    cases h; rename_i hs; obtain ⟨rfl, hx⟩ := hs; exact ⟨_, _, ZgF D.p _ V, by simpa [Al.sv, Al.rw, Al.ch, al, Al.d] using c_In hF _ (Zdc hv hx)⟩
   ·
    cases h
  ·
   cases h
 X := hL
 Z := fun t l β V h => z_ok β V h
 E := fun t l k c β V h => by cases h
def tab : Nat → Option Func := fun _ => none
theorem Zee : TabOK Tryz.prog tab := fun _ _ h => by cases h
theorem mixed : Tryz.prog.follows .mixedOrders = true := by kernel_rfl
theorem ZfW {w : World} {D : Dt} {fl : Nat → Bool} {G : List (CX × Bool)} {X : Nat → List SV → Option SV} {XL : Nat → Nat → Nat → Option SV} (HG : FAt w D.p D.m) (hv : ∀ i, fl i = true → Fits (D.v i)) (hG : ∀ x ∈ G, (al D).cx x.1 = x.2) (hX : TOK Tryz.prog (al D) X w) (hL : XLOK (al D) XL w) : EnvOK Tryz.prog (al D) (envF fl G X XL (Tk Tryz.prog sz (envF fl G X XL) tab 6)) w :=
 Zb9 HG hv hG hX hL (ZiM (A := al D) mixed Zee (fun _ _ hV hT => Zb9 (HG.below hV) hv hG (hX.mono hV) (hL.mono hV) hT) 6 w (Below.refl _ _))
theorem noL {A : Al sz} (w : World) : XLOK A (fun _ _ _ => none) w := fun _ _ _ _ _ _ h => by cases h
def fit2 : Nat → Bool
 | 0 => true
 | 1 => true
 | _ => false
def noX : Nat → Nat → Nat → Option SV := fun _ _ _ => none
abbrev v5 (x y z u t : K) : Nat → K
 | 0 => x
 | 1 => y
 | 2 => z
 | 3 => u
 | _ => t
theorem fits2 {x y z u t : K} (hx : Fits x) (hy : Fits y) : ∀ i, fit2 i = true → Fits (v5 x y z u t i)
 | 0, _ => hx
 | 1, _ => hy
 | _ + 2, h => by cases h
section
variable {w : World} {g p m : Nat} {b : K} (HG : GAt w g p m b) (x y z : K)
include HG
set_option maxRecDepth 100000
end
attribute [local go_sem] Oper.semAt_some
structure GB (w : World) (g : Nat) (x y : K) (k : Nat) : Prop where
 base : w.rangeAt g (1 + 3 * 6) (pt x y false).toList
 ord : w.rangeAt g (2 + 5 * 6) (W4.cs (limb k)).toList
 lt : g < w.heap.size
theorem GB.below {w w' : World} {g k : Nat} {x y : K} (h : GB w g x y k) (hb : Below w.heap.size w w') : GB w' g x y k :=
 ⟨Zay (hb.block _ h.lt) h.base, Zay (hb.block _ h.lt) h.ord, Nat.lt_of_lt_of_le h.lt hb.size⟩
structure CAt (w : World) (c g p m : Nat) (b bx bY : K) (k : Nat) : Prop where
 at_ : w.cell? ⟨c, 1, none⟩ = some (.pointer (some ⟨g, 0, none⟩))
 ga : GAt w g p m b
 gb : GB w g bx bY k
 clt : c < w.heap.size
theorem ZbD {P : Program} {op : Oper} {l : List Value} {ds : List Deferred} {w : World} {K : Act → World → Prop} {Q : Exit → Act → World → Prop} (t : TypeId) (ps : Array (Nat × Operand)) (vs : Array (Nat × Value)) (d : Nat) (ho : op.op = .build t ps) (hd : op.dst = some d)
  (hps : ps.map (fun x => (x.1, Act.eval { tmps := l.toArray, defers := ds } x.2)) = vs) {v : Value} (hb : (Instr.build t vs).run P w = .ok v w) (h : K { tmps := (l.set d v).toArray, defers := ds } w) : op.wp P { tmps := l.toArray, defers := ds } w K Q := by
 unfold Oper.wp execOp
 simp only [ho, hps, hb, Sem.run_bind, Sem.run_pure, Result.andThen]
 show K _ _
 rw [hd, Zaa]
 exact h
end Go.Proofs.YtcbdbnfgnonacaaGreat.P6
namespace Go.Proofs.YtcbdbnfgnonacaaGreat.Q6
open Go.RowKit Go.Shelf
abbrev K := Nat × Nat
noncomputable def ev (m : Nat) (x : K) : Array Value := Classical.choose (⟨_, rfl⟩ : ∃ C : Array Value, C = P6.ev m x.1 ++ P6.ev m x.2)
theorem Zb0 (m : Nat) (x : K) : ev m x = P6.ev m x.1 ++ P6.ev m x.2 := Classical.choose_spec (⟨_, rfl⟩ : ∃ C : Array Value, C = P6.ev m x.1 ++ P6.ev m x.2)
noncomputable def nv (x : K) : Array Value := Classical.choose (⟨_, rfl⟩ : ∃ C : Array Value, C = P6.nv x.1 ++ P6.nv x.2)
theorem Za3 (x : K) : nv x = P6.nv x.1 ++ P6.nv x.2 := Classical.choose_spec (⟨_, rfl⟩ : ∃ C : Array Value, C = P6.nv x.1 ++ P6.nv x.2)
def Fits (x : K) : Prop := P6.Fits x.1 ∧ P6.Fits x.2
def k0 : K := (0, 0)
def k1 : K := (1, 0)
theorem ZaF (m : Nat) (x : K) : (ev m x).size = 2 * 6 := by rw [Zb0, Array.size_append, P6.ZaF, P6.ZaF]
theorem Zao (x : K) : (nv x).size = 2 * 6 := by rw [Za3, Array.size_append, P6.Zao, P6.Zao]
theorem Zem {A B : Array Value} (h1 : A.all (·.oneCell') = true) (h2 : B.all (·.oneCell') = true) : (A ++ B).all (·.oneCell') = true := by
 rw [Array.all_append, h1, h2]; rfl
theorem Zb4 (m : Nat) (x : K) : (ev m x).all (·.oneCell') = true := by rw [Zb0]; exact Zem (P6.Zb4 _ _) (P6.Zb4 _ _)
theorem Zba (x : K) : (nv x).all (·.oneCell') = true := by rw [Za3]; exact Zem (P6.Zba _) (P6.Zba _)
abbrev FOK (w : World) (p m : Nat) : Prop := W6.Good w p m
structure RAt (w : World) (p m : Nat) : Prop where
 ok : FOK w p m
 plt : p < w.heap.size
theorem RAt.below {w w' : World} {p m : Nat} (h : RAt w p m) (hb : Below w.heap.size w w') : RAt w' p m := ⟨h.ok.of_same (hb.block _ h.plt), Nat.lt_of_lt_of_le h.plt hb.size⟩
end Go.Proofs.YtcbdbnfgnonacaaGreat.Q6
