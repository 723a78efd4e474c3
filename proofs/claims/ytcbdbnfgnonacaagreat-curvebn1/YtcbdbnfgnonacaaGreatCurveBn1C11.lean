/-
 Words from the last to the first: the library's iterator; a range over a function that gives a known row of values.
-/
import Derived.Test.YtcbdbnfgnonacaaGreatCurveBn1C10
import Derived.RangeFuncNested
import Derived.RangeFuncBound
import Derived.RangeFuncCalls
import Derived.RangeFuncLeaves
import Derived.RangeFuncBox
import Derived.Shelf.Abstract
import Derived.Shelf.RegionOpen
import Derived.OwnWalkIn
import Derived.TacticsInMore
import Derived.LoopNIn
import Derived.LoopIn
import Derived.RangeFuncWrites
set_option maxHeartbeats 8000000
set_option maxRecDepth 100000
namespace Go.Proofs.YtcbdbnfgnonacaaGreat.W4
open Go.RowKit Go.Shelf
section
variable {w : World} {p m f o r : Nat}
theorem RingAt.thereOne (h : RingAt w p m f o r) (g : Nat → Nat) : w.there p (4 + 1) (cs g).size := fun j hj =>
 ⟨h.one.isSome j hj, Zap h.heap⟩
theorem RingAt.thereRadix (h : RingAt w p m f o r) (g : Nat → Nat) : w.there p (2 * 4 + 1) (cs g).size := fun j hj =>
 ⟨h.radix.isSome j hj, Zap h.heap⟩
theorem RingAt.putOne (h : RingAt w p m f o r) (o' : Nat) : RingAt (w.setCells p (4 + 1) (cs (limb o')).toList) p m f o' r := by
 have h1 := Za9 (cs (limb o')).toList (4 + 1) h.heap
 refine ⟨h1.trans ?_⟩
 simp [rc, cs, putAll]
theorem RingAt.putRadix (h : RingAt w p m f o r) (r' : Nat) : RingAt (w.setCells p (2 * 4 + 1) (cs (limb r')).toList) p m f o r' := by
 have h1 := Za9 (cs (limb r')).toList (2 * 4 + 1) h.heap
 refine ⟨h1.trans ?_⟩
 simp [rc, cs, putAll]
end
theorem ZdX (m : Nat) : limb m 0 % 2 = m % 2 := by unfold limb; rw [Nat.pow_zero, Nat.div_one]; omega
theorem ZgC {m x : Nat} (hx : x < 18446744073709551616) (h : limb m 0 * x % 18446744073709551616 = 1) : ∃ f : Nat, f < 18446744073709551616 ∧ IntKind.u64.wrap (-(x : Int)) = (f : Int) ∧ (limb m 0 * f + 1) % 18446744073709551616 = 0 := by
 have hx0 : 0 < x := by
  apply Nat.pos_of_ne_zero
  intro e
  subst e
  simp at h
 refine ⟨18446744073709551616 - x, by omega, by rw [IntKind.wrap_u64]; omega, ?_⟩
 have e : limb m 0 * (18446744073709551616 - x) + limb m 0 * x = limb m 0 * 18446744073709551616 := by
  rw [← Nat.mul_add]; congr 1; omega
 generalize limb m 0 * (18446744073709551616 - x) = A at *
 generalize limb m 0 * x = C at *
 omega
theorem ZdY (h k : Nat) (hh : h ≤ 64 * k) : 2 ^ h * 2 ^ (64 * k - h) = 18446744073709551616 ^ k := by
 rw [← Nat.pow_add, Nat.add_sub_cancel' hh, Nat.pow_mul]
theorem Zfk (X Y : Nat) (hX : X < R) (hY : Y < R) (w : World) : Calls Tryz.prog 147 #[wv X, wv Y] w fun e w' => e = .returned (.bool (decide (X < Y))) ∧ Below w.heap.size w w' := by
 have HC := hideP (fun w => Zb7 X Y hX hY w)
 have hd : decide (X < Y) = ((less1 X Y : Int) == 1) := by
  unfold less1
  by_cases h : X < Y <;> simp [h]
 rw [hd]
 clear hX hY hd
 generalize X + R * less1 X Y - Y = D at *
 generalize less1 X Y = b at *
 unfold wv cs at HC
 unfold wv cs
 go_enter Tryz.func147, Tryz.ntmps147
 go_wp2_with fail
 refine ZcS (fun W0 hW0 => ?_)
 have HBW : Hid (Below w.heap.size w W0) := by
  show Below _ _ _
  rw [hW0]
  repeat first | exact Below.refl _ _ | (refine Below.alloc ?_ (by simp <;> omega) _)
 clear hW0
 refine (HC.out _).mono ?_
 rintro e w1 ⟨rfl, hb⟩
 have HB := hideP (HBW.out.trans (hb.mono HBW.out.size))
 clear hb
 go_wp2
 go_ret
 refine ⟨rfl, ?_⟩
 have hs := HB.out.size
 repeat first | exact HB.out | apply Below.drew | (refine Below.alloc ?_ hs _) | (refine Below.alloc ?_ (by simp <;> omega) _) | (refine Below.setCell ?_ (by simp <;> omega) _)
theorem ZdZ {Q : Exit → Act → World → Prop} {e : Exit} {a : Act} {w : World} (h : ∀ W0, W0 = w → Q e a W0) : Q e a w := h w rfl
theorem ZiT (m : Nat) : R % m = el m 1 := by unfold el; rw [Nat.one_mul]
theorem ZgD (m : Nat) (hm : m < R) (hodd : m % 2 = 1) (h3 : 3 ≤ m) (w : World) : Calls Tryz.prog 71 #[wv m] w fun e w' => ∃ p : Nat, e = .returned (.tuple #[.pointer (some ⟨p, 0, none⟩), .int .i64 0]) ∧ w.heap.size ≤ p ∧ Good w' p m ∧ Below w.heap.size w w' := by
 have h0 := ZdX m
 have HS := hideP (fun w => ZbP 3 (by decide) w)
 replace HS : Hid (∀ w, Calls Tryz.prog 148 #[.int .u64 (3 : Int)] w fun e w' => e = .returned (wv 3) ∧ Below w.heap.size w w') := HS
 have HL := hideP (fun w => Zfk m 3 hm (by decide) w)
 have HBL := hideP (fun w => ZbY m hm (by omega) w)
 have HINV := hideP (fun w => ZdW (limb m 0) (by omega) w)
 have HM := hideP hm
 have HO := hideP hodd
 have H3 := hideP h3
 have e1 : ((limb m 0 : Int)).tmod 2 = 1 := by rw [Int.tmod_eq_emod_of_nonneg (by omega)]; omega
 have e2 : IntKind.u64.wrap (1 : Int) = 1 := rfl
 rw [decide_eq_false (show ¬ m < 3 by omega)] at HL
 unfold wv at HS HL HBL ⊢
 unfold cs
 clear hm hodd h3 h0
 go_enter Tryz.func71, Tryz.ntmps71
 go_wp2_with fail
 rename_i Q' K hK
 have HK := hideP hK
 clear hK
 refine Zaj (fun W0 hW0 => ?_)
 have hA : W0.heap[w.heap.size]? = some (.cells (cs (limb m)) 32 (0, 0)) := by
  rw [hW0]
  exact Zaf _ _
 have HBW : Hid (Below w.heap.size w W0) := by
  show Below _ _ _
  rw [hW0]
  repeat first | exact Below.refl _ _ | (refine Below.alloc ?_ (by simp <;> omega) _)
 clear hW0
 have c0 := Zac hA (get (limb m) (show 0 < 4 by decide))
 have hlt := Zab hA
 have HA := hideP hA
 clear hA
 refine Zai (S := fun V => Below W0.heap.size W0 V) (by kernel_rfl) ((Below.refl _ _).drew) (fun hS => ?_)
 refine tkG 0 hS ?_
 simp only [Zaa, Zs, Zz]
 refine tkI 1 ?_ hS ?_ ?_
 rotate_left
 ·
  intro V hV
  have k0 := (hV.cell (p := ⟨w.heap.size, 0, none⟩) hlt).trans c0
  go_simp
  (try with_reducible rfl)
 simp only [Zaa, Zs, Zz]
 refine tkG 2 hS ?_
 simp only [Zaa, Zs, Zz]
 refine tkG 3 hS ?_
 simp only [Zaa, Zs, Zz]
 refine tkG 4 hS ?_
 simp only [Zaa, Zs, Zz]
 refine Zak (i := 5) (v := .agg (cs (limb m))) rfl (by kernel_rfl) (by kernel_rfl) (by kernel_rfl) (fun _ _ _ h => h) (yieldsIf_load_mid (by kernel_rfl) 32 _ rfl (w.heap.size) (0) rfl (cs (limb m)).toList _ (fun V hV => Zag ((hV.block _ (Zab HA.out)).trans HA.out)) under rfl (info _)) hS ?_
 simp only [Zaa, Zs, Zz]
 refine rd1 6 (fun K hK => ?_)
 go_simp
 refine (HS.out _).mono ?_
 rintro e w1 ⟨rfl, hbc⟩
 refine hK.out _ _ (hS.trans (hbc.mono hS.size)) (fun hS => ?_)
 clear hK K
 clear hbc
 refine rd1 7 (fun K hK => ?_)
 go_simp
 refine (HL.out _).mono ?_
 rintro e w2 ⟨rfl, hbc⟩
 refine hK.out _ _ (hS.trans (hbc.mono hS.size)) (fun hS => ?_)
 clear hK K
 clear hbc
 refine tkG 8 hS ?_
 simp only [Zaa, Zs, Zz]
 refine wpAnyH_done (by kernel_rfl) ?_ _
 (try simp only [Zas])
 have HB1 := hideP (HBW.out.trans (hS.mono HBW.out.size))
 have HA1 := hideP ((hS.block _ (Zab HA.out)).trans HA.out)
 clear hS c0 hlt HS HL HA HBW
 go_wp2_with fail
 refine HK.out _ _ ?_
 refine wp_cond_false rfl (wp_skip ?_)
 clear HK
 go_wp2_with fail
 rename World => W1
 have c0 := Zac HA1.out (get (limb m) (show 0 < 4 by decide))
 have hlt := Zab HA1.out
 refine Zai (S := fun V => Below W1.heap.size W1 V) (by kernel_rfl) ((Below.refl _ _).drew) (fun hS => ?_)
 refine Zak (i := 0) (v := .agg (cs (limb m))) rfl (by kernel_rfl) (by kernel_rfl) (by kernel_rfl) (fun _ _ _ h => h) (yieldsIf_load_mid (by kernel_rfl) 32 _ rfl (w.heap.size) (0) rfl (cs (limb m)).toList _ (fun V hV => Zag ((hV.block _ (Zab HA1.out)).trans HA1.out)) under rfl (info _)) hS ?_
 simp only [Zaa, Zs, Zz]
 refine tkG 1 hS ?_
 simp only [Zaa, Zs, Zz]
 refine tkI 2 ?_ hS ?_ ?_
 rotate_left
 ·
  intro V hV
  have k0 := (hV.cell (p := ⟨w.heap.size, 0, none⟩) hlt).trans c0
  go_simp
  (try with_reducible rfl)
 simp only [Zaa, Zs, Zz]
 refine rd1 3 (fun K hK => ?_)
 go_simp
 refine (HINV.out _).mono ?_
 rintro e w9 ⟨⟨x, rfl, hx, hxm⟩, rfl⟩
 refine hK.out _ _ hS (fun hS => ?_)
 clear hK K
 obtain ⟨f, hf, hwf, hff⟩ := ZgC hx hxm
 refine tkG 4 hS ?_
 simp only [Zaa, Zs, Zz]
 refine tkI 5 (.agg (rc m f 0 0)) hS ?_ ?_
 ·
  intro V hV
  unfold cs
  go_simp
  rfl
 simp only [Zaa, Zs, Zz]
 refine rd1 6 (fun K hK => ?_)
 go_simp
 refine hK.out _ _ (hS.alloc hS.size _) (fun hS => ?_)
 clear hK K
 refine rd1 7 (fun K hK => ?_)
 go_simp
 refine hK.out _ _ hS (fun hS => ?_)
 clear hK K
 refine wpAnyH_done (by kernel_rfl) ?_ _
 (try simp only [Zas])
 refine ZdZ (fun W2 hW2 => ?_)
 have hr : RingAt W2 W1.heap.size m f 0 0 := ⟨by rw [hW2]; exact Zaf _ _⟩
 have hA2 : W2.heap[w.heap.size]? = some (.cells (cs (limb m)) 32 (0, 0)) := by
  rw [hW2]
  exact (Zah _ _ hlt).trans HA1.out
 have HB2 : Hid (Below w.heap.size w W2) := by
  show Below _ _ _
  rw [hW2]
  exact Below.alloc HB1.out.drew HB1.out.size _
 have hMF : MF m f := ⟨HO.out, HM.out, H3.out, hff⟩
 generalize hPP : W1.heap.size = P at hr ⊢
 have hwP : w.heap.size < P := by omega
 clear hW2 hx hxm hf hwf hff c0 hPP HA1 HB1
 obtain ⟨q0, q1, q2, q3⟩ := cells hA2
 have HR2 := hideP hr
 have HMF := hideP hMF
 have HA2 := hideP hA2
 clear hr hMF hA2 hlt
 unfold cs at HBL
 go_wp2_with fail
 refine (HBL.out _).mono ?_
 rintro e W3 ⟨⟨n, rfl, hn1, hn2, hn3, hn4⟩, hb⟩
 obtain ⟨h, rfl⟩ : ∃ h, n = h + 1 := ⟨n - 1, by omega⟩
 rw [Nat.add_sub_cancel] at hn4
 have h2m : 2 ^ h < m := by
  rcases Nat.lt_or_eq_of_le hn4 with h1 | h1
  ·
   exact h1
  ·
   exfalso
   have := HO.out
   have := H3.out
   cases h with
   | zero => simp at h1; omega
   | succ h => rw [Nat.pow_succ] at h1; omega
 have hh : h < 256 := by omega
 have ew1 : IntKind.i64.wrap ((h : Int) + 1 - 1) = (h : Int) := by rw [IntKind.wrap_i64]; omega
 have ew2 : IntKind.i64.wrap (h : Int) = (h : Int) := by rw [IntKind.wrap_i64]; omega
 have ew4 : IntKind.i64.wrap (256 : Int) = 256 := rfl
 have ew3 : IntKind.i64.wrap (256 - (h : Int)) = ((256 - h : Nat) : Int) := by rw [IntKind.wrap_i64]; omega
 have hR2 : 2 ^ h * 2 ^ (256 - h) % m = el m 1 := by
  have hps : 2 ^ h * 2 ^ (256 - h) = R := (ZdY h 4 (by omega)).trans R_eq.symm
  rw [hps, ZiT]
 have HR3 := hideP (HR2.out.below hb)
 have HA3 := hideP ((hb.block _ (Zab HA2.out)).trans HA2.out)
 have HB3 := hideP (HB2.out.trans (hb.mono HB2.out.size))
 have hP3 : P < W3.heap.size := HR3.out.lt
 have HBIT := hideP (fun w => ZgB h hh w)
 have HDB : Hid (∀ w, RingAt w P m f 0 0 → Calls Tryz.prog 151 #[.pointer (some ⟨P, 0, none⟩), wv (2 ^ h), .int .i64 ((256 - h : Nat) : Int)] w fun e w' => e = .returned (wv (el m 1)) ∧ Below w.heap.size w w') := fun w hr => by
  have := Zbq hr HMF.out (2 ^ h) (256 - h) h2m (by omega)
  rw [hR2] at this
  exact this
 unfold wv at HBIT HDB
 clear hb hn1 hn2 hn3 hn4 h2m hh hR2 HR2 HA2 HB2 HBL q0 q1 q2 q3
 go_wp2_with fail
 refine Zai (S := fun V => Below P W3 V) (by kernel_rfl) ((Below.refl _ _).drew) (fun hS => ?_)
 refine tkG 0 hS ?_
 simp only [Zaa, Zs, Zz]
 refine tkG 1 hS ?_
 simp only [Zaa, Zs, Zz]
 refine tkG 2 hS ?_
 simp only [Zaa, Zs, Zz]
 refine Zak (i := 4) (v := .agg (cs (limb m))) rfl (by kernel_rfl) (by kernel_rfl) (by kernel_rfl) (fun _ _ _ h => h) (yieldsIf_load_mid (by kernel_rfl) 32 _ rfl (w.heap.size) (0) rfl (cs (limb m)).toList _ (fun V hV => Zag ((hV.block _ hwP).trans HA3.out)) under rfl (info _)) hS ?_
 simp only [Zaa, Zs, Zz]
 refine tkG 5 hS ?_
 simp only [Zaa, Zs, Zz]
 refine tkG 6 hS ?_
 simp only [Zaa, Zs, Zz]
 refine tkG 7 hS ?_
 simp only [Zaa, Zs, Zz]
 refine tkG 8 hS ?_
 simp only [Zaa, Zs, Zz]
 refine rd1 3 (fun K hK => ?_)
 go_simp
 refine (HBIT.out _).mono ?_
 rintro e w5 ⟨rfl, hbc⟩
 refine hK.out _ _ (hS.trans (hbc.mono (Nat.le_trans (Nat.le_of_lt hP3) hS.size))) (fun hS => ?_)
 clear hK K
 have hr5 := HR3.out.drew.below hbc
 clear hbc
 refine rd1 9 (fun K hK => ?_)
 go_simp
 refine (HDB.out _ hr5).mono ?_
 rintro e w6 ⟨rfl, hbc⟩
 refine hK.out _ _ (hS.trans (hbc.mono (Nat.le_trans (Nat.le_of_lt hP3) hS.size))) (fun hS => ?_)
 clear hK K
 have hr6 := hr5.below hbc
 clear hbc
 refine tkG 10 hS ?_
 simp only [Zaa, Zs, Zz]
 refine tkG 11 hS ?_
 simp only [Zaa, Zs, Zz]
 refine rd1 12 (fun K hK => ?_)
 refine Za7 (by kernel_rfl) ?_
 refine Zan 32 (.tmp 36) (.tmp 34) rfl rfl P (4 + 1) (cs (limb (el m 1))) rfl rfl (hr6.thereOne _) (info _) (one _) ?_
 have hr7 := hr6.putOne (el m 1)
 have hS9 := hS.trans (But.sets (cs (limb (el m 1))).toList (4 + 1) (But.refl P w6)).below
 clear hS
 generalize World.setCells w6 P (4 + 1) (cs (limb (el m 1))).toList = W7 at hr7 hS9 ⊢
 refine hK.out _ _ hS9 (fun hS => ?_)
 clear hK K hS9
 refine wpAnyH_done (by kernel_rfl) ?_ _
 (try simp only [Zas])
 clear HDB HBIT
 have HR7 := hideP hr7
 have HA7 := hideP ((hS.block _ hwP).trans HA3.out)
 have HB7 := hideP (HB3.out.trans (hS.mono (Nat.le_of_lt hwP)))
 have hP7 : P < W7.heap.size := HR7.out.lt
 have HDB : Hid (∀ w, RingAt w P m f (el m 1) 0 → Calls Tryz.prog 151 #[.pointer (some ⟨P, 0, none⟩), wv (el m 1), .int .i64 (4 : Int)] w fun e w' => e = .returned (wv (el m (2 ^ 4))) ∧ Below w.heap.size w w') := fun w hr => by
  have := Zbq hr HMF.out (el m 1) 4 (ZbO HMF.out 1) (by decide)
  rw [show el m 1 * 2 ^ 4 % m = el m (2 ^ 4) by unfold el; rw [Nat.one_mul, Nat.mod_mul_mod, Nat.mul_comm]] at this
  exact this
 unfold wv at HDB
 clear hS hr7 hr5 hr6 HA3 HB3 HR3 hP3
 go_wp2_with fail
 refine Zai (S := fun V => Below P W7 V) (by kernel_rfl) ((Below.refl _ _).drew) (fun hS => ?_)
 refine tkG 0 hS ?_
 simp only [Zaa, Zs, Zz]
 refine tkG 1 hS ?_
 simp only [Zaa, Zs, Zz]
 refine tkG 2 hS ?_
 simp only [Zaa, Zs, Zz]
 refine tkG 3 hS ?_
 simp only [Zaa, Zs, Zz]
 refine tkG 4 hS ?_
 simp only [Zaa, Zs, Zz]
 refine Zak (i := 6) (v := .agg (cs (limb m))) rfl (by kernel_rfl) (by kernel_rfl) (by kernel_rfl) (fun _ _ _ h => h) (yieldsIf_load_mid (by kernel_rfl) 32 _ rfl (w.heap.size) (0) rfl (cs (limb m)).toList _ (fun V hV => Zag ((hV.block _ hwP).trans HA7.out)) under rfl (info _)) hS ?_
 simp only [Zaa, Zs, Zz]
 refine tkG 7 hS ?_
 simp only [Zaa, Zs, Zz]
 refine rd1 5 (fun K hK => ?_)
 refine Za7 (by kernel_rfl) ?_
 refine Za8 32 (.tmp 41) 42 rfl rfl (P) (4 + 1) (cs (limb (el m 1))) rfl _ (HR7.out.drew.one) under rfl (info _) ?_
 refine hK.out _ _ hS (fun hS => ?_)
 clear hK K
 simp only [Zs, Zz]
 refine rd1 8 (fun K hK => ?_)
 go_simp
 refine (HDB.out _ HR7.out.drew).mono ?_
 rintro e w8 ⟨rfl, hbc⟩
 refine hK.out _ _ (hS.trans (hbc.mono (Nat.le_trans (Nat.le_of_lt hP7) hS.size))) (fun hS => ?_)
 clear hK K
 have hr8 := HR7.out.drew.below hbc
 clear hbc
 refine tkG 9 hS ?_
 simp only [Zaa, Zs, Zz]
 refine tkG 10 hS ?_
 simp only [Zaa, Zs, Zz]
 refine rd1 11 (fun K hK => ?_)
 refine Za7 (by kernel_rfl) ?_
 refine Zan 32 (.tmp 47) (.tmp 45) rfl rfl P (2 * 4 + 1) (cs (limb (el m (2 ^ 4)))) rfl rfl (hr8.thereRadix _) (info _) (one _) ?_
 have hr9 := hr8.putRadix (el m (2 ^ 4))
 have hS9 := hS.trans (But.sets (cs (limb (el m (2 ^ 4)))).toList (2 * 4 + 1) (But.refl P w8)).below
 clear hS
 generalize World.setCells w8 P (2 * 4 + 1) (cs (limb (el m (2 ^ 4)))).toList = W9 at hr9 hS9 ⊢
 refine hK.out _ _ hS9 (fun hS => ?_)
 clear hK K hS9
 refine wpAnyH_done (by kernel_rfl) ?_ _
 (try simp only [Zas])
 have HR9 : Hid (RingAt W9 P m f (el m 1) (el m ((2 ^ 4) ^ (2 ^ 0)))) := hr9
 have HB9 := hideP (HB7.out.trans (hS.mono (Nat.le_of_lt hwP)))
 clear hS hr9 hr8 HDB HA7 HB7 HR7 hP7 ew1 ew2 ew3 ew4
 go_wp2_with fail
 rename_i Q' K hK
 have HK := hideP hK
 clear hK
 go_loopw [48] (fun i wr => ∃ k : Nat, k ≤ 6 ∧ i = .int .i64 k ∧ RingAt wr P m f (el m 1) (el m ((2 ^ 4) ^ (2 ^ k))) ∧ Below w.heap.size w wr) (fun i _ => 6 - (intOf i).toNat)
 case atStart => exact ⟨0, Nat.zero_le _, rfl, HR9.out, HB9.out⟩
 case round =>
  obtain ⟨k, hk, rfl, hr, hbw⟩ := hrel
  have HR := hideP hr
  have HBW := hideP hbw
  by_cases hlt : k < 6
  ·
   have hlt' : (k : Int) < 6 := by omega
   have e4 : IntKind.i64.wrap ((k : Int) + 1) = (k : Int) + 1 := by rw [IntKind.wrap_i64]; omega
   have HKS : Hid (k + 1 ≤ 6) := hlt
   have hP : P < wr.heap.size := hr.lt
   have HMU := hideP (Zda hr.drew HMF.out ((2 ^ 4) ^ (2 ^ k)) ((2 ^ 4) ^ (2 ^ k)))
   rw [← Nat.pow_add, ← Nat.two_mul, Nat.mul_comm 2, ← Nat.pow_succ] at HMU
   unfold wv at HMU
   clear hr hbw hlt hk
   generalize el m ((2 ^ 4) ^ (2 ^ k)) = Ek at *
   generalize hE1 : el m ((2 ^ 4) ^ (2 ^ (k + 1))) = Ek1 at HMU
   go_wp2_with fail
   refine Zai (S := fun V => Below P wr V) (by kernel_rfl) ((Below.refl _ _).drew) (fun hS => ?_)
   refine tkG 0 hS ?_
   simp only [Zaa, Zs, Zz]
   refine tkG 1 hS ?_
   simp only [Zaa, Zs, Zz]
   refine tkG 2 hS ?_
   simp only [Zaa, Zs, Zz]
   refine tkG 3 hS ?_
   simp only [Zaa, Zs, Zz]
   refine tkG 4 hS ?_
   simp only [Zaa, Zs, Zz]
   refine tkG 6 hS ?_
   simp only [Zaa, Zs, Zz]
   refine tkG 7 hS ?_
   simp only [Zaa, Zs, Zz]
   refine tkG 8 hS ?_
   simp only [Zaa, Zs, Zz]
   refine wpAnyH_ready (rs := [5, 9]) (by kernel_rfl) (by simp) (AllReadyH.cons rfl (fun K hK => ?_) (AllReadyH.cons rfl (fun K hK => ?_) AllReadyH.nil))
   ·
    refine Za7 (by kernel_rfl) ?_
    refine Za8 32 (.tmp 54) 55 rfl rfl P (2 * 4 + 1) (cs (limb Ek)) rfl _ (HR.out.drew.radix) under rfl (info _) ?_
    refine hK.out _ _ hS (fun hS => ?_)
    clear hK K
    simp only [Zs, Zz]
    refine rd1 9 (fun K hK => ?_)
    refine Za7 (by kernel_rfl) ?_
    refine Za8 32 (.tmp 58) 59 rfl rfl (P) (2 * 4 + 1) (cs (limb Ek)) rfl _ (HR.out.drew.radix) under rfl (info _) ?_
    refine hK.out _ _ hS (fun hS => ?_)
    clear hK K
    simp only [Zs, Zz]
    refine rd1 10 (fun K hK => ?_)
    go_simp
    refine (HMU.out).mono ?_
    rintro e w8 ⟨rfl, hbc⟩
    refine hK.out _ _ (hS.trans (hbc.mono (Nat.le_trans (Nat.le_of_lt hP) hS.size))) (fun hS => ?_)
    clear hK K
    have hr8 := HR.out.drew.below hbc
    clear hbc
    refine tkG 11 hS ?_
    simp only [Zaa, Zs, Zz]
    refine tkG 12 hS ?_
    simp only [Zaa, Zs, Zz]
    refine rd1 13 (fun K hK => ?_)
    refine Za7 (by kernel_rfl) ?_
    refine Zan 32 (.tmp 62) (.tmp 60) rfl rfl P (2 * 4 + 1) (cs (limb Ek1)) rfl rfl (hr8.thereRadix _) (info _) (one _) ?_
    have hr9 := hr8.putRadix Ek1
    have hS9 := hS.trans (But.sets (cs (limb Ek1)).toList (2 * 4 + 1) (But.refl P w8)).below
    clear hS
    generalize World.setCells w8 P (2 * 4 + 1) (cs (limb Ek1)).toList = W9 at hr9 hS9 ⊢
    refine hK.out _ _ hS9 (fun hS => ?_)
    clear hK K hS9
    refine wpAnyH_done (by kernel_rfl) ?_ _
    (try simp only [Zas])
    have HR9 : Hid (RingAt W9 P m f (el m 1) Ek1) := hr9
    have HB9 := hideP (HBW.out.trans (hS.mono (Nat.le_of_lt hwP)))
    clear hS hr9 hr8
    go_wp2_with fail
    refine ⟨⟨_, _, _, _, _, _, _, _, _, _, _, _, _, _, _, _, ⟨k + 1, HKS.out, ?h1, ?h2, HB9.out⟩, rfl⟩, ?h3⟩
    case h1 => go_num
    case h2 => rw [hE1]; exact HR9.out
    case h3 => have := HKS.out; simp [intOf]; omega
   ·
    refine Za7 (by kernel_rfl) ?_
    refine Za8 32 (.tmp 58) 59 rfl rfl P (2 * 4 + 1) (cs (limb Ek)) rfl _ (HR.out.drew.radix) under rfl (info _) ?_
    refine hK.out _ _ hS (fun hS => ?_)
    clear hK K
    simp only [Zs, Zz]
    refine rd1 5 (fun K hK => ?_)
    refine Za7 (by kernel_rfl) ?_
    refine Za8 32 (.tmp 54) 55 rfl rfl (P) (2 * 4 + 1) (cs (limb Ek)) rfl _ (HR.out.drew.radix) under rfl (info _) ?_
    refine hK.out _ _ hS (fun hS => ?_)
    clear hK K
    simp only [Zs, Zz]
    refine rd1 10 (fun K hK => ?_)
    go_simp
    refine (HMU.out).mono ?_
    rintro e w8 ⟨rfl, hbc⟩
    refine hK.out _ _ (hS.trans (hbc.mono (Nat.le_trans (Nat.le_of_lt hP) hS.size))) (fun hS => ?_)
    clear hK K
    have hr8 := HR.out.drew.below hbc
    clear hbc
    refine tkG 11 hS ?_
    simp only [Zaa, Zs, Zz]
    refine tkG 12 hS ?_
    simp only [Zaa, Zs, Zz]
    refine rd1 13 (fun K hK => ?_)
    refine Za7 (by kernel_rfl) ?_
    refine Zan 32 (.tmp 62) (.tmp 60) rfl rfl P (2 * 4 + 1) (cs (limb Ek1)) rfl rfl (hr8.thereRadix _) (info _) (one _) ?_
    have hr9 := hr8.putRadix Ek1
    have hS9 := hS.trans (But.sets (cs (limb Ek1)).toList (2 * 4 + 1) (But.refl P w8)).below
    clear hS
    generalize World.setCells w8 P (2 * 4 + 1) (cs (limb Ek1)).toList = W9 at hr9 hS9 ⊢
    refine hK.out _ _ hS9 (fun hS => ?_)
    clear hK K hS9
    refine wpAnyH_done (by kernel_rfl) ?_ _
    (try simp only [Zas])
    have HR9 : Hid (RingAt W9 P m f (el m 1) Ek1) := hr9
    have HB9 := hideP (HBW.out.trans (hS.mono (Nat.le_of_lt hwP)))
    clear hS hr9 hr8
    go_wp2_with fail
    refine ⟨⟨_, _, _, _, _, _, _, _, _, _, _, _, _, _, _, _, ⟨k + 1, HKS.out, ?h1, ?h2, HB9.out⟩, rfl⟩, ?h3⟩
    case h1 => go_num
    case h2 => rw [hE1]; exact HR9.out
    case h3 => have := HKS.out; simp [intOf]; omega
  ·
   have hkn : k = 6 := by omega
   have hnl : ¬ (k : Int) < 6 := by omega
   rw [hkn, show (2 ^ 4) ^ (2 ^ 6) = R by decide] at hr
   have HR6 := hideP hr
   clear hr hbw hlt hk hkn HR
   go_wp2_with fail
   refine HK.out _ _ ?_
   go_wp2
   go_ret2
   exact ⟨P, rfl, Nat.le_of_lt hwP, ⟨f, HMF.out, HR6.out⟩, HBW.out⟩
theorem ZiU {p m : Nat} {w : World} (hgood : Good w p m) (A : Nat) (hA1 : A < R) : Calls Tryz.prog 274 #[.pointer (some ⟨p, 0, none⟩), wv A] w fun e w' => e = .returned (wv (el m A)) ∧ Below w.heap.size w w' := by
 have hp := hgood.lt
 obtain ⟨f, hMF, hr⟩ := hgood.ex
 have HIS := hideP (fun w (hr : RingAt w p m f (el m 1) (el m R)) => ZaS hr hMF)
 have HMF := hideP hMF
 have HR := hideP hr
 clear hr hMF hgood
 unfold wv
 unfold cs
 go_enter Tryz.func274, Tryz.ntmps274
 refine Zae (fun K0 HK0 => ?_)
 go_wp2_with fail
 refine HK0.out _ _ ?_
 clear HK0 K0
 refine Zaj (fun W0 hW0 => ?_)
 have hA : W0.heap[w.heap.size]? = some (.cells (cs (limb A)) 32 (0, 0)) := by
  rw [hW0]
  exact ((Zah _ _ (by simp <;> omega)).trans (Zaf _ _))
 have hD : W0.heap[w.heap.size + 1]? = some (.cells (cs (fun _ => 0)) 32 (0, 0)) := by
  rw [hW0]
  exact Zat _ _ _ 
 have HBW : Hid (Below w.heap.size w W0) := by
  show Below _ _ _
  rw [hW0]
  repeat first | exact Below.refl _ _ | (refine Below.alloc ?_ (by simp <;> omega) _)
 clear hW0
 have HR0 := hideP (HR.out.belowN hp HBW.out)
 have HA := hideP hA
 have HD := hideP hD
 clear HR hA hD
 have nP : p ≠ w.heap.size + 1 := by omega
 have nA : w.heap.size ≠ w.heap.size + 1 := by omega
 have nR : w.heap.size ≤ w.heap.size + 1 := by omega
 generalize hRR : w.heap.size + 1 = R0 at *
 refine Zae (fun K1 HK1 => ?_)
 refine Zae (fun K2 HK2 => ?_)
 go_wp2_with (go_at_call 281; refine (HIS.out _ HR0.out).mono ?_; rintro e w' ⟨rfl, rfl⟩)
 refine HK2.out _ _ ?_
 clear HK2 K2
 refine wp_cond_true rfl ?_
 refine Zai (S := fun V => KP W0 R0 V) (by kernel_rfl) (KP.init HD.out) (fun hS => ?_)
 refine tkG 0 hS ?_
 simp only [Zaa, Zs, Zz]
 refine Zak (i := 1) (v := .agg (cs (limb A))) rfl (by kernel_rfl) (by kernel_rfl) (by kernel_rfl) (fun _ _ _ h => h) (yieldsIf_load_mid (by kernel_rfl) 32 _ rfl (w.heap.size) (0) rfl (cs (limb A)).toList _ (fun V hV => Zag (hV.box HA.out nA)) under rfl (info _)) hS ?_
 simp only [Zaa, Zs, Zz]
 refine tkG 2 hS ?_
 simp only [Zaa, Zs, Zz]
 refine tkG 3 hS ?_
 simp only [Zaa, Zs, Zz]
 refine tkG 4 hS ?_
 simp only [Zaa, Zs, Zz]
 refine Zak (i := 5) (v := .agg (cs (limb (el m R)))) rfl (by kernel_rfl) (by kernel_rfl) (by kernel_rfl) (fun _ _ _ h => h) (yieldsIf_load_mid (by kernel_rfl) 32 _ rfl (p) (2 * 4 + 1) rfl (cs (limb (el m R))).toList _ (fun V hV => (hV.ring HR0.out nP).radix) under rfl (info _)) hS ?_
 simp only [Zaa, Zs, Zz]
 have HC := hideP (ZgA HR0.out.drew HMF.out A hA1)
 unfold wv at HC
 refine rd1 6 (fun K hK => ?_)
 go_simp
 refine HC.out.mono ?_
 rintro e w1 ⟨rfl, hbc⟩
 refine hK.out _ _ (hS.call hbc) (fun hS => ?_)
 clear hK K
 clear hbc
 refine rd1 7 (fun K hK => ?_)
 refine Za7 (by kernel_rfl) ?_
 refine Zan 32 (.tmp 4) (.tmp 13) rfl rfl (R0) 0 (cs (limb (el m A))) rfl rfl (hS.there _) (info _) (one _) ?_
 have g1 := hS.put ((limb (el m A)))
 have hS9 := hS.store ((limb (el m A)))
 clear hS
 generalize World.setCells _ (R0) 0 (cs (limb (el m A))).toList = w2 at g1 hS9 ⊢
 refine hK.out _ _ hS9 (fun hS => ?_)
 clear hK K hS9
 refine wpAnyH_done (by kernel_rfl) ?_ _
 (try simp only [Zas])
 refine HK1.out _ _ ?_
 refine Za4 (fun _ _ h => h) rfl rfl rfl (by decide) (by show 14 < 15; decide) rfl under rfl (info _) (one _) (Zag g1) (Zar g1 _) ?_
 intro wS hBut
 exact ⟨rfl, HBW.out.trans ((hS.below.mono nR).trans (hBut.below.mono nR))⟩
theorem ZgE {p m : Nat} {w : World} (hgood : Good w p m) (X : Nat) : Calls Tryz.prog 278 #[.pointer (some ⟨p, 0, none⟩), wv (el m X)] w fun e w' => e = .returned (wv (X % m)) ∧ Below w.heap.size w w' := by
 have hp := hgood.lt
 obtain ⟨f, hMF, hr⟩ := hgood.ex
 have HIS := hideP (fun w (hr : RingAt w p m f (el m 1) (el m R)) => ZaS hr hMF)
 have HMF := hideP hMF
 have HR := hideP hr
 clear hr hMF hgood
 unfold wv
 unfold cs
 go_enter Tryz.func278, Tryz.ntmps278
 refine Zae (fun K0 HK0 => ?_)
 go_wp2_with fail
 refine HK0.out _ _ ?_
 clear HK0 K0
 refine Zaj (fun W0 hW0 => ?_)
 have hA : W0.heap[w.heap.size]? = some (.cells (cs (limb (el m X))) 32 (0, 0)) := by
  rw [hW0]
  exact ((Zah _ _ (by simp <;> omega)).trans (Zaf _ _))
 have hD : W0.heap[w.heap.size + 1]? = some (.cells (cs (fun _ => 0)) 32 (0, 0)) := by
  rw [hW0]
  exact Zat _ _ _ 
 have HBW : Hid (Below w.heap.size w W0) := by
  show Below _ _ _
  rw [hW0]
  repeat first | exact Below.refl _ _ | (refine Below.alloc ?_ (by simp <;> omega) _)
 clear hW0
 have HR0 := hideP (HR.out.belowN hp HBW.out)
 have HA := hideP hA
 have HD := hideP hD
 clear HR hA hD
 have nP : p ≠ w.heap.size + 1 := by omega
 have nA : w.heap.size ≠ w.heap.size + 1 := by omega
 have nR : w.heap.size ≤ w.heap.size + 1 := by omega
 generalize hRR : w.heap.size + 1 = R0 at *
 refine Zae (fun K1 HK1 => ?_)
 refine Zae (fun K2 HK2 => ?_)
 go_wp2_with (go_at_call 281; refine (HIS.out _ HR0.out).mono ?_; rintro e w' ⟨rfl, rfl⟩)
 refine HK2.out _ _ ?_
 clear HK2 K2
 refine wp_cond_true rfl ?_
 refine Zai (S := fun V => KP W0 R0 V) (by kernel_rfl) (KP.init HD.out) (fun hS => ?_)
 refine tkG 0 hS ?_
 simp only [Zaa, Zs, Zz]
 refine Zak (i := 1) (v := .agg (cs (limb (el m X)))) rfl (by kernel_rfl) (by kernel_rfl) (by kernel_rfl) (fun _ _ _ h => h) (yieldsIf_load_mid (by kernel_rfl) 32 _ rfl (w.heap.size) (0) rfl (cs (limb (el m X))).toList _ (fun V hV => Zag (hV.box HA.out nA)) under rfl (info _)) hS ?_
 simp only [Zaa, Zs, Zz]
 have HS1 : Hid (∀ w, Calls Tryz.prog 148 #[.int .u64 (1 : Int)] w fun e w' => e = .returned (wv 1) ∧ Below w.heap.size w w') := fun w => ZbP 1 (by decide) w
 unfold wv at HS1
 refine rd1 2 (fun K hK => ?_)
 go_simp
 refine (HS1.out _).mono ?_
 rintro e w1 ⟨rfl, hbc⟩
 refine hK.out _ _ (hS.call hbc) (fun hS => ?_)
 clear hK K
 clear hbc
 have HC := hideP (ZkD (hS.ring HR0.out nP) HMF.out X)
 unfold wv at HC
 refine rd1 3 (fun K hK => ?_)
 go_simp
 refine HC.out.mono ?_
 rintro e w1 ⟨rfl, hbc⟩
 refine hK.out _ _ (hS.call hbc) (fun hS => ?_)
 clear hK K
 clear hbc
 refine rd1 4 (fun K hK => ?_)
 refine Za7 (by kernel_rfl) ?_
 refine Zan 32 (.tmp 4) (.tmp 10) rfl rfl (R0) 0 (cs (limb (X % m))) rfl rfl (hS.there _) (info _) (one _) ?_
 have g1 := hS.put ((limb (X % m)))
 have hS9 := hS.store ((limb (X % m)))
 clear hS
 generalize World.setCells _ (R0) 0 (cs (limb (X % m))).toList = w2 at g1 hS9 ⊢
 refine hK.out _ _ hS9 (fun hS => ?_)
 clear hK K hS9
 refine wpAnyH_done (by kernel_rfl) ?_ _
 (try simp only [Zas])
 refine HK1.out _ _ ?_
 refine Za4 (fun _ _ h => h) rfl rfl rfl (by decide) (by show 11 < 12; decide) rfl under rfl (info _) (one _) (Zag g1) (Zar g1 _) ?_
 intro wS hBut
 exact ⟨rfl, HBW.out.trans ((hS.below.mono nR).trans (hBut.below.mono nR))⟩
theorem ZkE {p m : Nat} {w : World} (hgood : Good w p m) (X Y : Nat) : Calls Tryz.prog 276 #[.pointer (some ⟨p, 0, none⟩), wv (el m X), wv (el m Y)] w fun e w' => e = .returned (wv (el m (X * Y))) ∧ Below w.heap.size w w' := by
 have hp := hgood.lt
 obtain ⟨f, hMF, hr⟩ := hgood.ex
 have HIS := hideP (fun w (hr : RingAt w p m f (el m 1) (el m R)) => ZaS hr hMF)
 have HMF := hideP hMF
 have HR := hideP hr
 clear hr hMF hgood
 unfold wv
 unfold cs
 go_enter Tryz.func276, Tryz.ntmps276
 refine Zae (fun K0 HK0 => ?_)
 go_wp2_with fail
 refine HK0.out _ _ ?_
 clear HK0 K0
 refine Zaj (fun W0 hW0 => ?_)
 have hA : W0.heap[w.heap.size]? = some (.cells (cs (limb (el m X))) 32 (0, 0)) := by
  rw [hW0]
  exact ((Zah _ _ (by simp <;> omega)).trans ((Zah _ _ (by simp <;> omega)).trans (Zaf _ _)))
 have hB : W0.heap[w.heap.size + 1]? = some (.cells (cs (limb (el m Y))) 32 (0, 0)) := by
  rw [hW0]
  exact ((Zah _ _ (by simp <;> omega)).trans (Zat _ _ _))
 have hD : W0.heap[w.heap.size + 1 + 1]? = some (.cells (cs (fun _ => 0)) 32 (0, 0)) := by
  rw [hW0]
  exact ZaG _ _ _ _ 
 have HBW : Hid (Below w.heap.size w W0) := by
  show Below _ _ _
  rw [hW0]
  repeat first | exact Below.refl _ _ | (refine Below.alloc ?_ (by simp <;> omega) _)
 clear hW0
 have HR0 := hideP (HR.out.belowN hp HBW.out)
 have HA := hideP hA
 have HB := hideP hB
 have HD := hideP hD
 clear HR hA hB hD
 have nP : p ≠ w.heap.size + 1 + 1 := by omega
 have nA : w.heap.size ≠ w.heap.size + 1 + 1 := by omega
 have nB : w.heap.size + 1 ≠ w.heap.size + 1 + 1 := by omega
 have nR : w.heap.size ≤ w.heap.size + 1 + 1 := by omega
 generalize hRR : w.heap.size + 1 + 1 = R0 at *
 refine Zae (fun K1 HK1 => ?_)
 refine Zae (fun K2 HK2 => ?_)
 go_wp2_with (go_at_call 281; refine (HIS.out _ HR0.out).mono ?_; rintro e w' ⟨rfl, rfl⟩)
 refine HK2.out _ _ ?_
 clear HK2 K2
 refine wp_cond_true rfl ?_
 obtain ⟨qa0, qa1, qa2, qa3⟩ := cells HA.out
 obtain ⟨qb0, qb1, qb2, qb3⟩ := cells HB.out
 have HC := hideP (Zda HR0.out HMF.out X Y)
 unfold wv cs at HC
 go_wp2_with fail
 rename_i hKB
 refine HC.out.mono ?_
 rintro e w1 ⟨rfl, hbc⟩
 refine hKB _ _ ?_
 have hS1 := (KP.start HD.out).call hbc
 refine wpList_store_mid rfl 32 (.tmp 6) (.tmp 12) rfl R0 0 (cs (limb (el m (X * Y)))) rfl rfl (hS1.there _) (info _) (one _) ?_
 refine wpList_nil ?_
 simp only [Zas]
 have g1 := hS1.put (limb (el m (X * Y)))
 have hS := hS1.store (limb (el m (X * Y)))
 generalize World.setCells w1 R0 0 (cs (limb (el m (X * Y)))).toList = w2 at g1 hS ⊢
 refine HK1.out _ _ ?_
 refine Za4 (fun _ _ h => h) rfl rfl rfl (by decide) (by show 13 < 14; decide) rfl under rfl (info _) (one _) (Zag g1) (Zar g1 _) ?_
 intro wS hBut
 exact ⟨rfl, HBW.out.trans ((hS.below.mono nR).trans (hBut.below.mono nR))⟩
theorem add_el {p m f o r : Nat} {w : World} (hr : RingAt w p m f o r) (h : MF m f) (X Y : Nat) :
  Calls Tryz.prog 219 #[.pointer (some ⟨p, 0, none⟩), wv (el m X), wv (el m Y)] w fun e w' => e = .returned (wv (el m (X + Y))) ∧ Below w.heap.size w w' := by
 have := Zfj hr h (el m X) (el m Y) (ZbO h X) (ZbO h Y)
 rw [ZlF] at this
 exact this
theorem ZkF {p m : Nat} {w : World} (hgood : Good w p m) (X Y : Nat) : Calls Tryz.prog 273 #[.pointer (some ⟨p, 0, none⟩), wv (el m X), wv (el m Y)] w fun e w' => e = .returned (wv (el m (X + Y))) ∧ Below w.heap.size w w' := by
 have hp := hgood.lt
 obtain ⟨f, hMF, hr⟩ := hgood.ex
 have HIS := hideP (fun w (hr : RingAt w p m f (el m 1) (el m R)) => ZaS hr hMF)
 have HMF := hideP hMF
 have HR := hideP hr
 clear hr hMF hgood
 unfold wv
 unfold cs
 go_enter Tryz.func273, Tryz.ntmps273
 refine Zae (fun K0 HK0 => ?_)
 go_wp2_with fail
 refine HK0.out _ _ ?_
 clear HK0 K0
 refine Zaj (fun W0 hW0 => ?_)
 have hA : W0.heap[w.heap.size]? = some (.cells (cs (limb (el m X))) 32 (0, 0)) := by
  rw [hW0]
  exact ((Zah _ _ (by simp <;> omega)).trans ((Zah _ _ (by simp <;> omega)).trans (Zaf _ _)))
 have hB : W0.heap[w.heap.size + 1]? = some (.cells (cs (limb (el m Y))) 32 (0, 0)) := by
  rw [hW0]
  exact ((Zah _ _ (by simp <;> omega)).trans (Zat _ _ _))
 have hD : W0.heap[w.heap.size + 1 + 1]? = some (.cells (cs (fun _ => 0)) 32 (0, 0)) := by
  rw [hW0]
  exact ZaG _ _ _ _ 
 have HBW : Hid (Below w.heap.size w W0) := by
  show Below _ _ _
  rw [hW0]
  repeat first | exact Below.refl _ _ | (refine Below.alloc ?_ (by simp <;> omega) _)
 clear hW0
 have HR0 := hideP (HR.out.belowN hp HBW.out)
 have HA := hideP hA
 have HB := hideP hB
 have HD := hideP hD
 clear HR hA hB hD
 have nP : p ≠ w.heap.size + 1 + 1 := by omega
 have nA : w.heap.size ≠ w.heap.size + 1 + 1 := by omega
 have nB : w.heap.size + 1 ≠ w.heap.size + 1 + 1 := by omega
 have nR : w.heap.size ≤ w.heap.size + 1 + 1 := by omega
 generalize hRR : w.heap.size + 1 + 1 = R0 at *
 refine Zae (fun K1 HK1 => ?_)
 refine Zae (fun K2 HK2 => ?_)
 go_wp2_with (go_at_call 281; refine (HIS.out _ HR0.out).mono ?_; rintro e w' ⟨rfl, rfl⟩)
 refine HK2.out _ _ ?_
 clear HK2 K2
 refine wp_cond_true rfl ?_
 obtain ⟨qa0, qa1, qa2, qa3⟩ := cells HA.out
 obtain ⟨qb0, qb1, qb2, qb3⟩ := cells HB.out
 have HC := hideP (add_el HR0.out HMF.out X Y)
 unfold wv cs at HC
 go_wp2_with fail
 rename_i hKB
 refine HC.out.mono ?_
 rintro e w1 ⟨rfl, hbc⟩
 refine hKB _ _ ?_
 have hS1 := (KP.start HD.out).call hbc
 refine wpList_store_mid rfl 32 (.tmp 6) (.tmp 12) rfl R0 0 (cs (limb (el m (X + Y)))) rfl rfl (hS1.there _) (info _) (one _) ?_
 refine wpList_nil ?_
 simp only [Zas]
 have g1 := hS1.put (limb (el m (X + Y)))
 have hS := hS1.store (limb (el m (X + Y)))
 generalize World.setCells w1 R0 0 (cs (limb (el m (X + Y)))).toList = w2 at g1 hS ⊢
 refine HK1.out _ _ ?_
 refine Za4 (fun _ _ h => h) rfl rfl rfl (by decide) (by show 13 < 14; decide) rfl under rfl (info _) (one _) (Zag g1) (Zar g1 _) ?_
 intro wS hBut
 exact ⟨rfl, HBW.out.trans ((hS.below.mono nR).trans (hBut.below.mono nR))⟩
end Go.Proofs.YtcbdbnfgnonacaaGreat.W4
namespace Go.Proofs.YtcbdbnfgnonacaaGreat
open Go.RowKit Go.Shelf
def Zm7 (B : Nat) (Kp : World → World → Prop) (I : Nat → World → Prop) (Ix : Code → World → Prop) (k : Nat) (W W2 : World) : Exit → Act → World → Prop
 | .normal, _, W3 => KeepsFrom B W2 W3 ∧ Kp W W3 ∧ I (k + 1) W3
 | .ret, _, W3 => KeepsFrom B W2 W3 ∧ Ix .ret W3
 | .exit id, _, W3 => KeepsFrom B W2 W3 ∧ Ix (.exit id) W3
 | .goto t, _, W3 => KeepsFrom B W2 W3 ∧ Ix (.goto t) W3
 | .panic _, _, _ => False
 | .outgrown, _, _ => False
def Gives (m : Nat) (P : Program) (gf : Nat) (lb : Array Value) (vals : Nat → Array Value) (N : Nat) (Kp : World → World → Prop) (w : World) : Prop :=
 ∀ (l : Nat) (J : Nat → World → Prop) (Jx : World → Prop) (W : World), Below w.heap.size w W → (∀ k V V', J k V → Below V.heap.size V V' → J k V') → (∀ V V', Jx V → Below V.heap.size V V' → Jx V') →
  (∀ k V, k < N → J k V → YieldAt Fence.wide (m - 1) P l (vals k) V fun e V' => (e = .returned (.bool true) ∧ J (k + 1) V' ∧ Kp V V') ∨ (e = .returned (.bool false) ∧ Jx V')) →
  J 0 W → CallsIn Fence.wide m P gf (#[.func (.yield l) #[] #[]] ++ lb) W fun e W' => (∃ v, e = .returned v) ∧ (J N W' ∨ Jx W')
theorem Zb8 {W W' : World} (hb : Below W.heap.size W W') {k : Nat} {o : Obj} (h : W.heap[k]? = some o) : W'.heap[k]? = some o := (hb.block k (Zab h)).trans h
theorem ZfS {P : Program} {n : Nat} {g : Operand} {ps : Array Tmp} {assign body : Code} {Q : Exit → Act → World → Prop} {a : Act} {w : World} (h1 : 1 ≤ n) {gf : Nat} {lb : Array Value} (hg : a.eval g = .func (.func gf) #[] lb)
  (eg : ∀ args w, (callFunc gf args).run P w = .ok (.enter gf args) w) (vals : Nat → Array Value) (N : Nat) (hps : ∀ k, (vals k).size = ps.size) (Kp : World → World → Prop) (hgive : Gives (n - 1) P gf lb vals N Kp w)
  (I : Nat → World → Prop) (Ix : Code → World → Prop) (hI : ∀ k V V', I k V → Below V.heap.size V V' → I k V') (hIx : ∀ c V V', Ix c V → Below V.heap.size V V' → Ix c V')
  (hIp : ∀ k V l o o', I k V → w.heap.size ≤ l → V.heap[l]? = some o → o.isCells = false → I k (V.putObj l o')) (hIxp : ∀ c V l o o', Ix c V → w.heap.size ≤ l → V.heap[l]? = some o → o.isCells = false → Ix c (V.putObj l o'))
  (hKp : ∀ V V' l o o', Kp V V' → w.heap.size ≤ l → V'.heap[l]? = some o → o.isCells = false → Kp V (V'.putObj l o')) (h0 : I 0 w)
  (hround : ∀ (l k : Nat) (W : World), k < N → I k W → w.heap.size ≤ l → (∃ r, W.heap[l]? = some (.loop r)) →
   assign.wpIn (Fence.wide.inRound l) (n - 1 - 1) P (Exit.then (fun a1 W1 => KeepsFrom w.heap.size W W1 ∧ ∀ r, body.wpIn (Fence.wide.inRound l) (n - 1 - 1) P (Zm7 w.heap.size Kp I Ix k W (W1.putObj l (.loop r))) a1 (W1.putObj l (.loop r))) (fun _ _ _ => False))
    { tmps := (ps.zip (vals k)).foldl (fun t (p, v) => t.setIfInBounds p v) a.tmps, defers := [] } W)
  (hdone : ∀ (D : Nat) (W : World), w.heap.size ≤ D → I N W → W.heap[D]? = some (.deferred (some [])) → Q .normal { a with defers := { target := .collected D, args := #[] } :: a.defers } W)
  (hstop : ∀ (D : Nat) (c : Code) (W : World), w.heap.size ≤ D → Ix c W → W.heap[D]? = some (.deferred (some [])) → c.wpIn Fence.wide n P Q { a with defers := { target := .collected D, args := #[] } :: a.defers } W) :
  (Code.rangeFunc g ps assign body).wpIn Fence.wide n P Q a w := by
 refine wpIn_rangeFunc fun fn hfn => ?_
 let rc : LoopState → Option Code → Loop := fun st pe => { state := st, pending := pe, fn, tmps := a.tmps, params := ps, assign, body, defers := w.heap.size }
 have hen : (Instr.enterLoop fn a.tmps ps assign body Fence.wide.round).run P w = .ok (w.heap.size + 1, [{ target := .collected w.heap.size, args := #[] }]) ((w.alloc (.deferred (some []))).alloc (.loop (rc .ready none))) := run_enterLoop_outer (P := P) (w := w) fn a.tmps ps assign body
 generalize hW1 : (w.alloc (.deferred (some []))).alloc (.loop (rc .ready none)) = W1 at hen
 have hb1 : Below w.heap.size w W1 := by
  rw [← hW1]; exact ((Below.refl _ w).alloc (Nat.le_refl _) _).alloc (by simp) _
 have hL : W1.heap[w.heap.size + 1]? = some (.loop (rc .ready none)) := by
  rw [← hW1]
  have := Zaf (w.alloc (.deferred (some []))) (.loop (rc .ready none))
  rwa [World.size_alloc] at this
 have hD : W1.heap[w.heap.size]? = some (.deferred (some [])) := by
  rw [← hW1]; exact (Zah _ _ (by simp)).trans (Zaf _ _)
 have hI1 : I 0 W1 := hI 0 w W1 h0 hb1
 clear hW1
 refine ⟨w.heap.size + 1, _, W1, { target := .fn (.func gf) lb, args := #[.func (.yield (w.heap.size + 1)) #[] #[]] }, W1, gf, #[.func (.yield (w.heap.size + 1)) #[] #[]] ++ lb, W1, hen, ?_, fun _ _ => trivial, ?_, fun _ => h1, ?_⟩
 ·
  simp only [resolve, hg]
  simp [go_sem]
 ·
  simp [invoke, go_sem, eg]
 ·
  refine (hgive (w.heap.size + 1) (fun k V => I k V ∧ V.heap[w.heap.size + 1]? = some (.loop (rc .ready none)) ∧ V.heap[w.heap.size]? = some (.deferred (some [])))
   (fun V => ∃ c, Ix c V ∧ V.heap[w.heap.size + 1]? = some (.loop (rc .done (some c))) ∧ V.heap[w.heap.size]? = some (.deferred (some []))) W1 hb1
   (fun k V V' h hb => ⟨hI k V V' h.1 hb, Zb8 hb h.2.1, Zb8 hb h.2.2⟩) (fun V V' h hb => by
    obtain ⟨c, h1, h2, h3⟩ := h
    exact ⟨c, hIx c V V' h1 hb, Zb8 hb h2, Zb8 hb h3⟩) ?_ ⟨hI1, hL, hD⟩).mono ?_
  ·
   rintro k V hk ⟨hi, hl, hd⟩
   refine ⟨fn, _, assign, body, run_yield (P := P) hl (hps k), roundIn_of_wpIn hfn (wpIn_mono (hround (w.heap.size + 1) k V hk hi (by omega) ⟨_, hl⟩) ?_)⟩
   intro e a1 V1 hp
   cases e with
   | normal =>
    obtain ⟨hkf, hbody⟩ := hp
    have hl1 := hkf.same _ _ (by omega) hl rfl
    have hd1 := hkf.same _ _ (Nat.le_refl _) hd rfl
    refine ⟨_, run_beginRound hl1 rfl, ?_⟩
    have hl2 : (V1.putObj (w.heap.size + 1) (.loop { rc .ready none with state := .busy })).heap[w.heap.size + 1]? = some (.loop { rc .ready none with state := .busy }) := World.putObj_heap_same (Zab hl1)
    have hd2 : (V1.putObj (w.heap.size + 1) (.loop { rc .ready none with state := .busy })).heap[w.heap.size]? = some (.deferred (some [])) := (World.putObj_heap_other (by omega)).trans hd1
    refine wpIn_mono (hbody _) ?_
    have fin : ∀ (j : Option Code) (V3 : World), KeepsFrom w.heap.size (V1.putObj (w.heap.size + 1) (.loop { rc .ready none with state := .busy })) V3 →
      ∃ o : Obj, V3.heap[w.heap.size + 1]? = some o ∧ o.isCells = false ∧ (Instr.endRound (w.heap.size + 1) j).run P V3 = .ok (.bool j.isNone) (V3.putObj (w.heap.size + 1) (.loop (rc (if j.isNone then .ready else .done) j))) ∧
       (V3.putObj (w.heap.size + 1) (.loop (rc (if j.isNone then .ready else .done) j))).heap[w.heap.size + 1]? = some (.loop (rc (if j.isNone then .ready else .done) j)) ∧ (V3.putObj (w.heap.size + 1) (.loop (rc (if j.isNone then .ready else .done) j))).heap[w.heap.size]? = some (.deferred (some [])) := fun j V3 hk3 => by
     have hl3 := hk3.same _ _ (by omega) hl2 rfl
     exact ⟨_, hl3, rfl, run_endRound (P := P) j hl3, World.putObj_heap_same (Zab hl3), (World.putObj_heap_other (by omega)).trans (hk3.same _ _ (Nat.le_refl _) hd2 rfl)⟩
    intro e3 a3 V3 hq
    cases e3 with
    | normal =>
     obtain ⟨hk3, hkp, hi3⟩ := hq
     obtain ⟨o, ho, hc, hr, hl4, hd4⟩ := fin none V3 hk3
     exact ⟨_, _, hr, Or.inl ⟨rfl, ⟨hIp _ _ _ _ _ hi3 (by omega) ho hc, hl4, hd4⟩, hKp _ _ _ _ _ hkp (by omega) ho hc⟩⟩
    | ret =>
     obtain ⟨hk3, hi3⟩ := hq
     obtain ⟨o, ho, hc, hr, hl4, hd4⟩ := fin (some .ret) V3 hk3
     exact ⟨_, _, hr, Or.inr ⟨rfl, .ret, hIxp _ _ _ _ _ hi3 (by omega) ho hc, hl4, hd4⟩⟩
    | exit id =>
     obtain ⟨hk3, hi3⟩ := hq
     obtain ⟨o, ho, hc, hr, hl4, hd4⟩ := fin (some (.exit id)) V3 hk3
     exact ⟨_, _, hr, Or.inr ⟨rfl, .exit id, hIxp _ _ _ _ _ hi3 (by omega) ho hc, hl4, hd4⟩⟩
    | goto t =>
     obtain ⟨hk3, hi3⟩ := hq
     obtain ⟨o, ho, hc, hr, hl4, hd4⟩ := fin (some (.goto t)) V3 hk3
     exact ⟨_, _, hr, Or.inr ⟨rfl, .goto t, hIxp _ _ _ _ _ hi3 (by omega) ho hc, hl4, hd4⟩⟩
    | panic ch => exact hq.elim
    | outgrown => exact hq.elim
   | ret => exact hp.elim
   | exit id => exact hp.elim
   | goto t => exact hp.elim
   | panic ch => exact hp.elim
   | outgrown => exact hp.elim
  ·
   rintro e V ⟨⟨v, rfl⟩, (⟨hi, hl, hd⟩ | ⟨c, hi, hl, hd⟩)⟩
   ·
    exact ⟨none, _, run_endLoop (P := P) hl (by intro h; cases h), hdone _ _ (Nat.le_refl _) (hIp _ _ _ _ _ hi (by omega) hl rfl) ((World.putObj_heap_other (by omega)).trans hd)⟩
   ·
    exact ⟨some c, _, run_endLoop (P := P) hl (by intro h; cases h), hstop _ c _ (Nat.le_refl _) (hIxp _ _ _ _ _ hi (by omega) hl rfl) ((World.putObj_heap_other (by omega)).trans hd)⟩
attribute [local go_sem] Oper.semAt_some
def RowU (Bn g n c : Nat) (e : Nat → Nat) (W : World) : Prop :=
 W.cell? ⟨Bn, 0, none⟩ = some (.slice (some ⟨g, 0, none⟩) n c) ∧ ∀ j, j < n → W.cell? ⟨g, j, none⟩ = some (.int .u64 (e j))
def KpU (Bn g n c : Nat) (e : Nat → Nat) (W W' : World) : Prop := RowU Bn g n c e W → RowU Bn g n c e W'
theorem KpU.trans {Bn g n c : Nat} {e : Nat → Nat} {A B C : World} (h : KpU Bn g n c e A B) (k : KpU Bn g n c e B C) : KpU Bn g n c e A C := fun hr => k (h hr)
theorem KpU.of_same {Bn g n c : Nat} {e : Nat → Nat} {W W' : World} (h1 : W'.heap[Bn]? = W.heap[Bn]?) (h2 : W'.heap[g]? = W.heap[g]?) : KpU Bn g n c e W W' := by
 rintro ⟨hb, hr⟩
 refine ⟨(World.cell?_of_block (w := W) (a := ⟨Bn, 0, none⟩) h1).trans hb, fun j hj => ?_⟩
 exact (World.cell?_of_block (w := W) (a := ⟨g, j, none⟩) h2).trans (hr j hj)
theorem ZiV (m : Nat) (hm : 1 ≤ m) (l Bn g n c : Nat) (e : Nat → Nat) (hn : n ≤ 9223372036854775807) (J : Nat → World → Prop) (Jx : World → Prop)
  (hY : ∀ (k : Nat) (W : World), k < n → J k W → YieldAt Fence.wide (m - 1) Tryz.prog l #[.int .i64 ((n - 1 - k : Nat) : Int), .int .u64 (e (n - 1 - k))] W fun e1 W' =>
   (e1 = .returned (.bool true) ∧ J (k + 1) W' ∧ KpU Bn g n c e W W') ∨ (e1 = .returned (.bool false) ∧ Jx W'))
  (W : World) (hr : RowU Bn g n c e W) (h0 : J 0 W) :
  CallsIn Fence.wide m Tryz.prog 255 #[.func (.yield l) #[] #[], .pointer (some ⟨Bn, 0, none⟩)] W fun e1 W' => (∃ v, e1 = .returned v) ∧ (J n W' ∨ Jx W') := by
 have HR := hideP hr
 have HY := hideP hY
 have hBn := hr.1
 have e0 : IntKind.i64.wrap ((n : Int) - 1) = (n : Int) - 1 := by rw [IntKind.wrap_i64]; omega
 have HNN := hideP hn
 clear hY hr hn
 refine callsIn_of_wp Tryz.func255 rfl trivial ?_ rfl
 simp only [Tryz.ntmps255, List.size_toArray, List.length_cons, List.length_nil, Nat.reduceAdd, Nat.reduceSub, Array.replicate_succ, Array.replicate_zero, List.push_toArray, List.append_toArray, List.nil_append, List.cons_append]
 gi_wp2
 clear hBn
 gi_loopw [3] (fun i wr => ∃ k : Nat, k ≤ n ∧ i = .int .i64 ((n : Int) - 1 - (k : Int)) ∧ J k wr ∧ Hid (RowU Bn g n c e wr)) (fun i _ => (intOf i + 1).toNat)
 case atStart => exact ⟨0, Nat.zero_le _, by simp, h0, HR⟩
 case round =>
  obtain ⟨k, hk, rfl, hJ, hR⟩ := hrel
  by_cases hlt : k < n
  ·
   have hBn := hR.out.1
   have c0 := hR.out.2 (n - 1 - k) (by omega)
   have hj : (n : Int) - 1 - (k : Int) = ((n - 1 - k : Nat) : Int) := by omega
   obtain ⟨fn, tmps, assign, body, hy, hRd⟩ := HY.out k wr hlt hJ
   have g1 : ((n - 1 - k : Nat) : Int) ≥ 0 := by omega
   have g1' : (0 : Int) ≤ ((n - 1 - k : Nat) : Int) := by omega
   have g2 : ((n - 1 - k : Nat) : Int) < (n : Int) := by omega
   have e1 : IntKind.i64.wrap (((n - 1 - k : Nat) : Int) - 1) = ((n - 1 - k : Nat) : Int) - 1 := by have := HNN.out; rw [IntKind.wrap_i64]; omega
   have HK := hideP hlt
   have HE : Hid (((n - 1 - k : Nat) : Int) - 1 = (n : Int) - 1 - ((k + 1 : Nat) : Int)) := (by omega : ((n - 1 - k : Nat) : Int) - 1 = (n : Int) - 1 - ((k + 1 : Nat) : Int))
   rw [hj]
   clear hJ hk hlt hj
   generalize n - 1 - k = j at *
   generalize e j = ej at *
   gi_wp2
   refine hRd.mono ?_
   rintro e3 W3 (⟨rfl, hJ3, hk3⟩ | ⟨rfl, hJx3⟩)
   ·
    have HR3 := hideP (hk3 hR.out)
    have HJ3 := hideP hJ3
    clear hJ3 hk3 hRd c0 hBn
    gi_wp2
    exact ⟨⟨k + 1, HK.out, by rw [HE.out], HJ3.out, HR3⟩, by simp [intOf] <;> omega⟩
   ·
    gi_wp2
    refine bodyPost_ret (results_none rfl _ _ _) rfl ?_
    exact ⟨⟨_, rfl⟩, .inr hJx3⟩
  ·
   have hkl : k = n := by omega
   subst hkl
   have HJ := hideP hJ
   have hj : (k : Int) - 1 - (k : Int) = -1 := by omega
   rw [hj]
   clear hJ
   gi_wp2
   go_end0
   exact ⟨⟨_, rfl⟩, .inl HJ.out⟩
theorem ZiW (m : Nat) (l Bn c : Nat) (ao : Option Addr) (W : World) (hBn : W.cell? ⟨Bn, 0, none⟩ = some (.slice ao 0 c)) :
  CallsIn Fence.wide m Tryz.prog 255 #[.func (.yield l) #[] #[], .pointer (some ⟨Bn, 0, none⟩)] W fun e W' => (∃ v, e = .returned v) ∧ W' = W := by
 refine callsIn_of_wp Tryz.func255 rfl trivial ?_ rfl
 simp only [Tryz.ntmps255, List.size_toArray, List.length_cons, List.length_nil, Nat.reduceAdd, Nat.reduceSub, Array.replicate_succ, Array.replicate_zero, List.push_toArray, List.append_toArray, List.nil_append, List.cons_append]
 gi_wp2
 gi_loopw [3] (fun i wr => i = .int .i64 (-1) ∧ wr = W) (fun _ _ => 0)
 case atStart => exact ⟨rfl, rfl⟩
 case round =>
  obtain ⟨rfl, rfl⟩ := hrel
  gi_wp2
  go_end0
  exact ⟨⟨_, rfl⟩, rfl⟩
theorem Zm8 (m : Nat) (ao : Option Addr) (n c : Nat) (w : World) :
  CallsIn Fence.wide m Tryz.prog 252 #[.slice ao n c] w fun e w' => e = .returned (.func (.func 255) #[] #[.pointer (some ⟨w.heap.size, 0, none⟩)]) ∧ w' = w.alloc (.cells #[.slice ao n c] 37) := by
 refine callsIn_of_wp Tryz.func252 rfl trivial ?_ rfl
 simp only [Tryz.ntmps252, List.size_toArray, List.length_cons, List.length_nil, Nat.reduceAdd, Nat.reduceSub, Array.replicate_succ, Array.replicate_zero, List.push_toArray, List.append_toArray, List.nil_append, List.cons_append]
 gi_wp2
 go_ret
 exact ⟨rfl, rfl⟩
theorem ZhJ (m : Nat) (hm : 1 ≤ m) (Bn g n c : Nat) (e : Nat → Nat) (hn : n ≤ 9223372036854775807) (w : World) (hr : RowU Bn g n c e w) (hg : g < w.heap.size) :
  Gives m Tryz.prog 255 #[.pointer (some ⟨Bn, 0, none⟩)] (fun k => #[.int .i64 ((n - 1 - k : Nat) : Int), .int .u64 (e (n - 1 - k))]) n (KpU Bn g n c e) w := by
 intro l J Jx W hW _ _ hY h0
 have hB : Bn < w.heap.size := World.block_lt_of_cell? w _ hr.1
 exact ZiV m hm l Bn g n c e hn J Jx hY W (KpU.of_same (hW.block _ hB) (hW.block _ hg) hr) h0
theorem Zes (m : Nat) (Bn c : Nat) (ao : Option Addr) (Kp : World → World → Prop) (vals : Nat → Array Value) (w : World) (hBn : w.cell? ⟨Bn, 0, none⟩ = some (.slice ao 0 c)) :
  Gives m Tryz.prog 255 #[.pointer (some ⟨Bn, 0, none⟩)] vals 0 Kp w := by
 intro l J Jx W hW _ _ hY h0
 have hBn' := (hW.cell (p := ⟨Bn, 0, none⟩) (World.block_lt_of_cell? w _ hBn)).trans hBn
 refine (ZiW m l Bn c ao W hBn').mono ?_
 rintro e W' ⟨hv, rfl⟩
 exact ⟨hv, .inl h0⟩
end Go.Proofs.YtcbdbnfgnonacaaGreat
