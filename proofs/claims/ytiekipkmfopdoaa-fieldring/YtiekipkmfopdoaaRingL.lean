/-
  Sums and products are commutative, associative and distributive.
-/
import Derived.Test.YtiekipkmfopdoaaFloat3
import Derived.Test.YtiekipkmfopdoaaEqw4
import Derived.Test.YtiekipkmfopdoaaMay
namespace Go.Proofs.Ytiekipkmfopdoaa.W4
open Go.RowKit Go.Shelf

set_option maxRecDepth 100000 in
theorem exec_eqR {ev : Operand → Value} {d : Option Nat} {x y : Operand} {A B : Array Value} {b : Bool} {ty' : Nat} {pos aft g} (hx : ev x = .agg A) (hy : ev y = .agg B) (W : World) (h : (Op.equalIn 10000 24 (.agg A) (.agg B)).run Try.prog W = .ok b W) :
    (execOp ev { dst := d, op := Op.binOp BinOp.eql 24 x y 24, type := ty', pos := pos, after := aft, guard := g }).run Try.prog W = .ok (.value (.bool b)) W := by
  unfold execOp
  simp only [hx, hy]
  have hg : (eqGuard BinOp.eql 24 x y (.agg A) (.agg B)).run Try.prog W = .ok () W := by
    unfold eqGuard
    simp [go_sem]
  simp [go_sem, hg]
  rw [h]
  rfl

theorem eq_els {M f U V : Nat} (h : MF M f) (e : el M U = el M V) (W : World) : (Op.equalIn 10000 24 (.agg (cs (limb (el M U)))) (.agg (cs (limb (el M V))))).run Try.prog W = .ok true W := by
  rw [e]
  exact eq_same (el_ltR h V) W

theorem el_addsub {M f : Nat} (h : MF M f) (X Y : Nat) : el M (X + Y + (M - Y % M)) = el M X := by
  have hY := Nat.mod_add_div Y M
  have hl := Nat.mod_lt Y h.pos
  have e : X + Y + (M - Y % M) = X + M * (Y / M + 1) := by
    rw [Nat.mul_add, Nat.mul_one]
    omega
  rw [e, el_period]

theorem el_addneg {M f : Nat} (h : MF M f) (X : Nat) : el M (X + (M - X % M)) = el M 0 := by
  have := el_addsub h 0 X
  rwa [Nat.zero_add] at this

set_option maxHeartbeats 8000000 in
set_option maxRecDepth 100000 in
theorem fieldRing_any (M X Y Z : Nat) (hM : M < R) (hX : X < R) (hY : Y < R) (hZ : Z < R) (w : World) :
    Calls Try.prog 7 #[wv M, wv X, wv Y, wv Z] w fun r w' => r = .returned (.bool true) ∧ Below w.heap.size w w' := by
  have HAW := hideP awake_any
  have HXYZ : Hid (M < R ∧ X < R ∧ Y < R ∧ Z < R) := ⟨hM, hX, hY, hZ⟩
  by_cases hbad : M % 2 = 0 ∨ M < 3
  · have HMB := hideP (fun w => make_bad M hM hbad w)
    have HMY := hideP (fun b w h => may_bad M hbad b w h)
    clear hM hX hY hZ hbad
    rw [wv_lit M, wv_lit X, wv_lit Y, wv_lit Z]
    rw [wv_lit M] at HMB
    go_enter Try.func7, Try.ntmps7
    go_wp2_with fail
    refine at_world_q (fun W0 hW0 => ?_)
    have hb4 : W0.heap[w.heap.size]? = some (.cells (cs (limb M)) 24 (0, 0)) := by
      rw [hW0]
      exact (heap_old _ _ (by simp <;> omega)).trans ((heap_old _ _ (by simp <;> omega)).trans ((heap_old _ _ (by simp)).trans (heap_new _ _)))
    have HBW : Hid (Below w.heap.size w W0) := by
      show Below _ _ _
      rw [hW0]
      repeat first | exact Below.refl _ _ | (refine Below.alloc ?_ (by simp <;> omega) _)
    clear hW0
    refine (HAW.out _).mono ?_
    rintro r w1 ⟨rfl, hb⟩
    have hb41 := (hb.block _ (lt_of_block hb4)).trans hb4
    have HB1 := hideP (HBW.out.trans (hb.mono HBW.out.size))
    obtain ⟨q0, q1, q2, q3⟩ := cells hb41
    have H41 := hideP hb41
    clear hb hb4 hb41 HBW
    go_wp2_with fail
    refine (HMB.out _).mono ?_
    rintro r w2 ⟨rfl, hb⟩
    have H42 := hideP ((hb.block _ (lt_of_block H41.out)).trans H41.out)
    have HB2 := hideP (HB1.out.trans (hb.mono HB1.out.size))
    clear hb q0 q1 q2 q3 H41 HB1
    go_wp2_with fail
    refine (HMY.out _ _ H42.out).mono ?_
    rintro r w3 ⟨rfl, rfl⟩
    go_wp2
    go_ret
    exact ⟨rfl, HB2.out⟩
  · have HMO := hideP (fun w => make_ok M hM (by omega) (by omega) w)
    clear hM hX hY hZ hbad
    rw [wv_lit M, wv_lit X, wv_lit Y, wv_lit Z]
    rw [wv_lit M] at HMO
    go_enter Try.func7, Try.ntmps7
    go_wp2_with fail
    refine at_world_q (fun W0 hW0 => ?_)
    have hb4 : W0.heap[w.heap.size]? = some (.cells (cs (limb M)) 24 (0, 0)) := by
      rw [hW0]
      exact (heap_old _ _ (by simp <;> omega)).trans ((heap_old _ _ (by simp <;> omega)).trans ((heap_old _ _ (by simp)).trans (heap_new _ _)))
    have hb5 : W0.heap[w.heap.size + 1]? = some (.cells (cs (limb X)) 24 (0, 0)) := by
      rw [hW0]
      exact (heap_old _ _ (by simp <;> omega)).trans ((heap_old _ _ (by simp)).trans (heap_new1 _ _ _))
    have hb6 : W0.heap[w.heap.size + 1 + 1]? = some (.cells (cs (limb Y)) 24 (0, 0)) := by
      rw [hW0]
      exact (heap_old _ _ (by simp)).trans (heap_new2 _ _ _ _)
    have hb7 : W0.heap[w.heap.size + 1 + 1 + 1]? = some (.cells (cs (limb Z)) 24 (0, 0)) := by
      rw [hW0]
      exact heap_new3 _ _ _ _ _
    have HBW : Hid (Below w.heap.size w W0) := by
      show Below _ _ _
      rw [hW0]
      repeat first | exact Below.refl _ _ | (refine Below.alloc ?_ (by simp <;> omega) _)
    clear hW0
    refine (HAW.out _).mono ?_
    rintro r w1 ⟨rfl, hb⟩
    have hb41 := (hb.block _ (lt_of_block hb4)).trans hb4
    have H51 := hideP ((hb.block _ (lt_of_block hb5)).trans hb5)
    have H61 := hideP ((hb.block _ (lt_of_block hb6)).trans hb6)
    have H71 := hideP ((hb.block _ (lt_of_block hb7)).trans hb7)
    have HB1 := hideP (HBW.out.trans (hb.mono HBW.out.size))
    obtain ⟨q0, q1, q2, q3⟩ := cells hb41
    have H41 := hideP hb41
    clear hb hb4 hb5 hb6 hb7 hb41 HBW
    go_wp2_with fail
    refine (HMO.out _).mono ?_
    rintro r W0 ⟨p, rfl, hp, hG, hb⟩
    have H4 := hideP ((hb.block _ (lt_of_block H41.out)).trans H41.out)
    have H5 := hideP ((hb.block _ (lt_of_block H51.out)).trans H51.out)
    have H6 := hideP ((hb.block _ (lt_of_block H61.out)).trans H61.out)
    have H7 := hideP ((hb.block _ (lt_of_block H71.out)).trans H71.out)
    have HBW := hideP (HB1.out.trans (hb.mono HB1.out.size))
    have HG := hideP hG
    clear hb q0 q1 q2 q3 H41 H51 H61 H71 HB1 hG hp HMO HAW
    obtain ⟨f0, hMF, _⟩ := HG.out.ex
    have HMF := hideP hMF
    clear hMF
    go_wp2_with fail
    refine wp_region_heldS (S := fun V => Below W0.heap.size W0 V) (by kernel_rfl) ((Below.refl _ _).drew) (fun hS => ?_)
    refine wpAnyH_takeL (i := 0) (v := ?_) rfl (by kernel_rfl) (by kernel_rfl) (by kernel_rfl) (fun _ _ _ h => h) (Or.inl ⟨by kernel_rfl, ?_⟩) hS ?_
    rotate_left
    · intro V hV
      go_simp
      (try with_reducible rfl)
    simp only [put_list, List.set_cons_succ, List.set_cons_zero]
    refine wpAnyH_takeL (i := 1) (v := .agg (cs (limb X))) rfl (by kernel_rfl) (by kernel_rfl) (by kernel_rfl) (fun _ _ _ h => h) (yieldsIf_load_mid (by kernel_rfl) 24 _ rfl (w.heap.size + 1) (0) rfl (cs (limb X)).toList _ (fun V hV => rangeOf ((hV.block _ (lt_of_block H5.out)).trans H5.out)) under rfl (info _)) hS ?_
    simp only [put_list, List.set_cons_succ, List.set_cons_zero]
    refine wpAnyH_takeL (i := 3) (v := ?_) rfl (by kernel_rfl) (by kernel_rfl) (by kernel_rfl) (fun _ _ _ h => h) (Or.inl ⟨by kernel_rfl, ?_⟩) hS ?_
    rotate_left
    · intro V hV
      go_simp
      (try with_reducible rfl)
    simp only [put_list, List.set_cons_succ, List.set_cons_zero]
    refine wpAnyH_takeL (i := 4) (v := .agg (cs (limb Y))) rfl (by kernel_rfl) (by kernel_rfl) (by kernel_rfl) (fun _ _ _ h => h) (yieldsIf_load_mid (by kernel_rfl) 24 _ rfl (w.heap.size + 1 + 1) (0) rfl (cs (limb Y)).toList _ (fun V hV => rangeOf ((hV.block _ (lt_of_block H6.out)).trans H6.out)) under rfl (info _)) hS ?_
    simp only [put_list, List.set_cons_succ, List.set_cons_zero]
    refine wpAnyH_takeL (i := 6) (v := ?_) rfl (by kernel_rfl) (by kernel_rfl) (by kernel_rfl) (fun _ _ _ h => h) (Or.inl ⟨by kernel_rfl, ?_⟩) hS ?_
    rotate_left
    · intro V hV
      go_simp
      (try with_reducible rfl)
    simp only [put_list, List.set_cons_succ, List.set_cons_zero]
    refine wpAnyH_takeL (i := 7) (v := .agg (cs (limb Z))) rfl (by kernel_rfl) (by kernel_rfl) (by kernel_rfl) (fun _ _ _ h => h) (yieldsIf_load_mid (by kernel_rfl) 24 _ rfl (w.heap.size + 1 + 1 + 1) (0) rfl (cs (limb Z)).toList _ (fun V hV => rangeOf ((hV.block _ (lt_of_block H7.out)).trans H7.out)) under rfl (info _)) hS ?_
    simp only [put_list, List.set_cons_succ, List.set_cons_zero]
    refine region3 (r0 := 3) 3 (fun k => match k with | 0 => 2 | 1 => 5 | _ => 8) (fun k => match k with | 0 => 28 | 1 => 31 | _ => 34) (fun k => match k with | 0 => .agg (cs (limb (el M X))) | 1 => .agg (cs (limb (el M Y))) | _ => .agg (cs (limb (el M Z)))) (fun i p q r => #[true, true, decide (1 ≤ i), true, true, decide (2 ≤ i), true, true, decide (3 ≤ i), p, q, r, false, false, false] : Nat → Bool → Bool → Bool → Array Bool) (cs (fun _ => 0)) 24 9 10 11 11 12 13 (by kernel_rfl) (by decide) (by decide) (by kernel_rfl) hS ?_ ?_ ?_ ?_ ?_
    · intro i hi T w2 K hbw hT hK
      match i, hi with
      | 0, _ =>
        have t0 : T[26]? = some (.pointer (some ⟨p, 0, none⟩)) := hT 26 (by decide) (by decide) (by decide)
        have t1 : T[27]? = some (.agg (cs (limb X))) := hT 27 (by decide) (by decide) (by decide)
        refine wpOp_stepT (i := 2) rfl (fun K' hK' => ?_)
        have HK' := hideP hK'
        have HK9 := hideP hK
        clear hK hK' hT
        go_simp
        refine (in_any (HG.out.below hbw) X HXYZ.out.2.1).mono ?_
        rintro e w3 ⟨rfl, hb⟩
        exact HK'.out _ _ (HK9.out w3 hb)
      | 1, _ =>
        have t0 : T[29]? = some (.pointer (some ⟨p, 0, none⟩)) := hT 29 (by decide) (by decide) (by decide)
        have t1 : T[30]? = some (.agg (cs (limb Y))) := hT 30 (by decide) (by decide) (by decide)
        refine wpOp_stepT (i := 5) rfl (fun K' hK' => ?_)
        have HK' := hideP hK'
        have HK9 := hideP hK
        clear hK hK' hT
        go_simp
        refine (in_any (HG.out.below hbw) Y HXYZ.out.2.2.1).mono ?_
        rintro e w3 ⟨rfl, hb⟩
        exact HK'.out _ _ (HK9.out w3 hb)
      | 2, _ =>
        have t0 : T[32]? = some (.pointer (some ⟨p, 0, none⟩)) := hT 32 (by decide) (by decide) (by decide)
        have t1 : T[33]? = some (.agg (cs (limb Z))) := hT 33 (by decide) (by decide) (by decide)
        refine wpOp_stepT (i := 8) rfl (fun K' hK' => ?_)
        have HK' := hideP hK'
        have HK9 := hideP hK
        clear hK hK' hT
        go_simp
        refine (in_any (HG.out.below hbw) Z HXYZ.out.2.2.2).mono ?_
        rintro e w3 ⟨rfl, hb⟩
        exact HK'.out _ _ (HK9.out w3 hb)
      | k' + 3, h => exact absurd h (by omega)
    · intro T w2 K hK
      refine wpOp_stepT rfl (fun K' hK' => ?_)
      have HK' := hideP hK'
      have HK9 := hideP hK
      clear hK hK'
      go_simp
      exact HK'.out _ _ HK9.out
    · intro T w2 K hK
      refine wpOp_stepT rfl (fun K' hK' => ?_)
      have HK' := hideP hK'
      have HK9 := hideP hK
      clear hK hK'
      go_simp
      exact HK'.out _ _ HK9.out
    · intro T w2 K hK
      refine wpOp_stepT rfl (fun K' hK' => ?_)
      have HK' := hideP hK'
      have HK9 := hideP hK
      clear hK hK'
      go_simp
      exact HK'.out _ _ HK9.out
    intro w2 b1 b2 b3 hS l1 l2 l3 h1 h2 h3 n12 n13 n23
    simp only [TC, List.set_cons_succ, List.set_cons_zero]
    refine wpAnyH_ready (rs := [12]) (by kernel_rfl) (by simp) (AllReadyH.cons rfl (fun K hK => ?_) AllReadyH.nil)
    refine ite_wp (by kernel_rfl) ?_
    refine wp_store_midN 24 (.tmp 11) (.tmp 28) rfl rfl b1 0 (cs (limb (el M X))) rfl rfl (there_cs h1 _) (info _) (one _) ?_
    have g1 := blk_sets (cs (limb (el M X))).toList 0 h1
    rw [putAll_cs] at g1
    have hB1 := But.sets (cs (limb (el M X))).toList 0 (But.refl b1 w2)
    replace h2 := (hB1.same b2 (n12.symm)).trans h2
    replace h3 := (hB1.same b3 (n13.symm)).trans h3
    have hSB := hS.trans (hB1.below.mono l1)
    clear h1 hB1
    generalize w2.setCells b1 0 (cs (limb (el M X))).toList = w3 at g1 h2 h3 hSB ⊢
    refine hK.out _ _ hSB (fun hS => ?_)
    clear hK K hSB
    refine wpAnyH_ready (rs := [13]) (by kernel_rfl) (by simp) (AllReadyH.cons rfl (fun K hK => ?_) AllReadyH.nil)
    refine ite_wp (by kernel_rfl) ?_
    refine wp_store_midN 24 (.tmp 12) (.tmp 31) rfl rfl b2 0 (cs (limb (el M Y))) rfl rfl (there_cs h2 _) (info _) (one _) ?_
    have g2 := blk_sets (cs (limb (el M Y))).toList 0 h2
    rw [putAll_cs] at g2
    have hB1 := But.sets (cs (limb (el M Y))).toList 0 (But.refl b2 w3)
    replace g1 := (hB1.same b1 (n12)).trans g1
    replace h3 := (hB1.same b3 (n23.symm)).trans h3
    have hSB := hS.trans (hB1.below.mono l2)
    clear h2 hB1
    generalize w3.setCells b2 0 (cs (limb (el M Y))).toList = w4 at g2 g1 h3 hSB ⊢
    refine hK.out _ _ hSB (fun hS => ?_)
    clear hK K hSB
    refine wpAnyH_ready (rs := [14]) (by kernel_rfl) (by simp) (AllReadyH.cons rfl (fun K hK => ?_) AllReadyH.nil)
    refine ite_wp (by kernel_rfl) ?_
    refine wp_store_midN 24 (.tmp 13) (.tmp 34) rfl rfl b3 0 (cs (limb (el M Z))) rfl rfl (there_cs h3 _) (info _) (one _) ?_
    have g3 := blk_sets (cs (limb (el M Z))).toList 0 h3
    rw [putAll_cs] at g3
    have hB1 := But.sets (cs (limb (el M Z))).toList 0 (But.refl b3 w4)
    replace g1 := (hB1.same b1 (n13)).trans g1
    replace g2 := (hB1.same b2 (n23)).trans g2
    have hSB := hS.trans (hB1.below.mono l3)
    clear h3 hB1
    generalize w4.setCells b3 0 (cs (limb (el M Z))).toList = W1 at g3 g1 g2 hSB ⊢
    refine hK.out _ _ hSB (fun hS => ?_)
    clear hK K hSB
    refine wpAnyH_done (by kernel_rfl) ?_ _
    (try simp only [put_none])
    have HG1 := hideP (HG.out.below hS)
    have HB1 := hideP (HBW.out.trans (hS.mono HBW.out.size))
    have H4x := hideP ((hS.block _ (lt_of_block H4.out)).trans H4.out)
    have HXx := hideP g1
    have HYx := hideP g2
    have HZx := hideP g3
    clear hS g1 g2 g3 l1 l2 l3 n12 n13 n23 HG HBW H4 H5 H6 H7
    have HI0 : Hid (∀ w p, Good w p M → Calls Try.prog 32 #[.pointer (some ⟨p, 0, none⟩), .agg #[.int .u64 (0 : Int), .int .u64 (0 : Int), .int .u64 (0 : Int), .int .u64 (0 : Int)]] w fun e w' => e = .returned (.agg (cs (limb (el M 0)))) ∧ Below w.heap.size w w') := fun w p hg => by
      have := in_any hg 0 (by decide)
      rw [lit4 (by decide)] at this
      exact this
    have HI1 : Hid (∀ w p, Good w p M → Calls Try.prog 32 #[.pointer (some ⟨p, 0, none⟩), .agg #[.int .u64 (1 : Int), .int .u64 (0 : Int), .int .u64 (0 : Int), .int .u64 (0 : Int)]] w fun e w' => e = .returned (.agg (cs (limb (el M 1)))) ∧ Below w.heap.size w w') := fun w p hg => by
      have := in_any hg 1 (by decide)
      rw [lit4 (by decide)] at this
      exact this
    have hXM : X % M < M := Nat.mod_lt _ HMF.out.pos
    have HXR : Hid (X % M < R) := Nat.lt_trans hXM HMF.out.lt
    have HLS : Hid (∀ w, Calls Try.prog 65 #[.agg (cs (limb (X % M))), .agg (cs (limb M))] w fun e w' => e = .returned (.bool true) ∧ Below w.heap.size w w') := fun w => by
      have := less_any (X % M) M HXR.out HMF.out.lt w
      rw [decide_eq_true hXM] at this
      exact this
    clear hXM
    go_wp2_with fail
    as_aux_lemma =>
      refine wp_region_heldS (S := fun V => Below W1.heap.size W1 V) (by kernel_rfl) ((Below.refl _ _).drew) (fun hS => ?_)
      refine wpAnyH_takeL (i := 0) (v := ?_) rfl (by kernel_rfl) (by kernel_rfl) (by kernel_rfl) (fun _ _ _ h => h) (Or.inl ⟨by kernel_rfl, ?_⟩) hS ?_
      rotate_left
      · intro V hV
        go_simp
        (try with_reducible rfl)
      simp only [put_list, List.set_cons_succ, List.set_cons_zero]
      refine wpAnyH_takeL (i := 1) (v := .agg (cs (limb (el M X)))) rfl (by kernel_rfl) (by kernel_rfl) (by kernel_rfl) (fun _ _ _ h => h) (yieldsIf_load_mid (by kernel_rfl) 24 _ rfl (b1) (0) rfl (cs (limb (el M X))).toList _ (fun V hV => rangeOf ((hV.block _ (lt_of_block HXx.out)).trans HXx.out)) under rfl (info _)) hS ?_
      simp only [put_list, List.set_cons_succ, List.set_cons_zero]
      refine wpAnyH_takeL (i := 2) (v := .agg (cs (limb (el M Y)))) rfl (by kernel_rfl) (by kernel_rfl) (by kernel_rfl) (fun _ _ _ h => h) (yieldsIf_load_mid (by kernel_rfl) 24 _ rfl (b2) (0) rfl (cs (limb (el M Y))).toList _ (fun V hV => rangeOf ((hV.block _ (lt_of_block HYx.out)).trans HYx.out)) under rfl (info _)) hS ?_
      simp only [put_list, List.set_cons_succ, List.set_cons_zero]
      refine wpAnyH_takeL (i := 4) (v := ?_) rfl (by kernel_rfl) (by kernel_rfl) (by kernel_rfl) (fun _ _ _ h => h) (Or.inl ⟨by kernel_rfl, ?_⟩) hS ?_
      rotate_left
      · intro V hV
        go_simp
        (try with_reducible rfl)
      simp only [put_list, List.set_cons_succ, List.set_cons_zero]
      refine wpAnyH_takeL (i := 5) (v := .agg (cs (limb (el M Y)))) rfl (by kernel_rfl) (by kernel_rfl) (by kernel_rfl) (fun _ _ _ h => h) (yieldsIf_load_mid (by kernel_rfl) 24 _ rfl (b2) (0) rfl (cs (limb (el M Y))).toList _ (fun V hV => rangeOf ((hV.block _ (lt_of_block HYx.out)).trans HYx.out)) under rfl (info _)) hS ?_
      simp only [put_list, List.set_cons_succ, List.set_cons_zero]
      refine wpAnyH_takeL (i := 6) (v := .agg (cs (limb (el M X)))) rfl (by kernel_rfl) (by kernel_rfl) (by kernel_rfl) (fun _ _ _ h => h) (yieldsIf_load_mid (by kernel_rfl) 24 _ rfl (b1) (0) rfl (cs (limb (el M X))).toList _ (fun V hV => rangeOf ((hV.block _ (lt_of_block HXx.out)).trans HXx.out)) under rfl (info _)) hS ?_
      simp only [put_list, List.set_cons_succ, List.set_cons_zero]
      refine wpAnyH_ready (rs := [3]) (by kernel_rfl) (by simp) (AllReadyH.cons rfl (fun K hK => ?_) AllReadyH.nil)
      go_simp
      refine (addM_any (HG1.out.below hS) X Y).mono ?_
      rintro r y1 ⟨rfl, hbc⟩
      refine hK.out _ _ (hS.trans (hbc.mono hS.size)) (fun hS2 => ?_)
      clear hbc hS
      have hS := hS2
      clear hS2
      clear hK K
      as_aux_lemma =>
        refine wpAnyH_ready (rs := [7]) (by kernel_rfl) (by simp) (AllReadyH.cons rfl (fun K hK => ?_) AllReadyH.nil)
        go_simp
        refine (addM_any (HG1.out.below hS) Y X).mono ?_
        rintro r y2 ⟨rfl, hbc⟩
        refine hK.out _ _ (hS.trans (hbc.mono hS.size)) (fun hS2 => ?_)
        clear hbc hS
        have hS := hS2
        clear hS2
        clear hK K
        refine wpAnyH_takeL (i := 8) (v := .bool true) rfl (by kernel_rfl) (by kernel_rfl) (by kernel_rfl) (fun _ _ _ h => h) (Or.inl ⟨by kernel_rfl, ?_⟩) hS ?_
        · intro V hV
          exact exec_eqR rfl rfl V (eq_els (U := (X + Y)) (V := (Y + X)) HMF.out (congrArg (el M) (by grind)) V)
        simp only [put_list, List.set_cons_succ, List.set_cons_zero]
        refine wpAnyH_takeL (i := 9) (v := ?_) rfl (by kernel_rfl) (by kernel_rfl) (by kernel_rfl) (fun _ _ _ h => h) (Or.inl ⟨by kernel_rfl, ?_⟩) hS ?_
        rotate_left
        · intro V hV
          go_simp
          (try with_reducible rfl)
        simp only [put_list, List.set_cons_succ, List.set_cons_zero]
        refine wpAnyH_takeL (i := 10) (v := ?_) rfl (by kernel_rfl) (by kernel_rfl) (by kernel_rfl) (fun _ _ _ h => h) (Or.inl ⟨by kernel_rfl, ?_⟩) hS ?_
        rotate_left
        · intro V hV
          go_simp
          (try with_reducible rfl)
        simp only [put_list, List.set_cons_succ, List.set_cons_zero]
        refine wpAnyH_takeL (i := 11) (v := ?_) rfl (by kernel_rfl) (by kernel_rfl) (by kernel_rfl) (fun _ _ _ h => h) (Or.inl ⟨by kernel_rfl, ?_⟩) hS ?_
        rotate_left
        · intro V hV
          go_simp
          (try with_reducible rfl)
        simp only [put_list, List.set_cons_succ, List.set_cons_zero]
        refine wpAnyH_takeL (i := 12) (v := .agg (cs (limb (el M X)))) rfl (by kernel_rfl) (by kernel_rfl) (by kernel_rfl) (fun _ _ _ h => h) (yieldsIf_load_mid (by kernel_rfl) 24 _ rfl (b1) (0) rfl (cs (limb (el M X))).toList _ (fun V hV => rangeOf ((hV.block _ (lt_of_block HXx.out)).trans HXx.out)) under rfl (info _)) hS ?_
        simp only [put_list, List.set_cons_succ, List.set_cons_zero]
        refine wpAnyH_takeL (i := 13) (v := .agg (cs (limb (el M Y)))) rfl (by kernel_rfl) (by kernel_rfl) (by kernel_rfl) (fun _ _ _ h => h) (yieldsIf_load_mid (by kernel_rfl) 24 _ rfl (b2) (0) rfl (cs (limb (el M Y))).toList _ (fun V hV => rangeOf ((hV.block _ (lt_of_block HYx.out)).trans HYx.out)) under rfl (info _)) hS ?_
        simp only [put_list, List.set_cons_succ, List.set_cons_zero]
        refine wpAnyH_takeL (i := 15) (v := .agg (cs (limb (el M Z)))) rfl (by kernel_rfl) (by kernel_rfl) (by kernel_rfl) (fun _ _ _ h => h) (yieldsIf_load_mid (by kernel_rfl) 24 _ rfl (b3) (0) rfl (cs (limb (el M Z))).toList _ (fun V hV => rangeOf ((hV.block _ (lt_of_block HZx.out)).trans HZx.out)) under rfl (info _)) hS ?_
        simp only [put_list, List.set_cons_succ, List.set_cons_zero]
        as_aux_lemma =>
          refine wpAnyH_takeL (i := 17) (v := ?_) rfl (by kernel_rfl) (by kernel_rfl) (by kernel_rfl) (fun _ _ _ h => h) (Or.inl ⟨by kernel_rfl, ?_⟩) hS ?_
          rotate_left
          · intro V hV
            go_simp
            (try with_reducible rfl)
          simp only [put_list, List.set_cons_succ, List.set_cons_zero]
          refine wpAnyH_takeL (i := 18) (v := .agg (cs (limb (el M X)))) rfl (by kernel_rfl) (by kernel_rfl) (by kernel_rfl) (fun _ _ _ h => h) (yieldsIf_load_mid (by kernel_rfl) 24 _ rfl (b1) (0) rfl (cs (limb (el M X))).toList _ (fun V hV => rangeOf ((hV.block _ (lt_of_block HXx.out)).trans HXx.out)) under rfl (info _)) hS ?_
          simp only [put_list, List.set_cons_succ, List.set_cons_zero]
          refine wpAnyH_takeL (i := 19) (v := ?_) rfl (by kernel_rfl) (by kernel_rfl) (by kernel_rfl) (fun _ _ _ h => h) (Or.inl ⟨by kernel_rfl, ?_⟩) hS ?_
          rotate_left
          · intro V hV
            go_simp
            (try with_reducible rfl)
          simp only [put_list, List.set_cons_succ, List.set_cons_zero]
          refine wpAnyH_takeL (i := 20) (v := .agg (cs (limb (el M Y)))) rfl (by kernel_rfl) (by kernel_rfl) (by kernel_rfl) (fun _ _ _ h => h) (yieldsIf_load_mid (by kernel_rfl) 24 _ rfl (b2) (0) rfl (cs (limb (el M Y))).toList _ (fun V hV => rangeOf ((hV.block _ (lt_of_block HYx.out)).trans HYx.out)) under rfl (info _)) hS ?_
          simp only [put_list, List.set_cons_succ, List.set_cons_zero]
          refine wpAnyH_takeL (i := 21) (v := .agg (cs (limb (el M Z)))) rfl (by kernel_rfl) (by kernel_rfl) (by kernel_rfl) (fun _ _ _ h => h) (yieldsIf_load_mid (by kernel_rfl) 24 _ rfl (b3) (0) rfl (cs (limb (el M Z))).toList _ (fun V hV => rangeOf ((hV.block _ (lt_of_block HZx.out)).trans HZx.out)) under rfl (info _)) hS ?_
          simp only [put_list, List.set_cons_succ, List.set_cons_zero]
          refine wpAnyH_ready (rs := [14]) (by kernel_rfl) (by simp) (AllReadyH.cons rfl (fun K hK => ?_) AllReadyH.nil)
          go_simp
          refine (addM_any (HG1.out.below hS) X Y).mono ?_
          rintro r y3 ⟨rfl, hbc⟩
          refine hK.out _ _ (hS.trans (hbc.mono hS.size)) (fun hS2 => ?_)
          clear hbc hS
          have hS := hS2
          clear hS2
          clear hK K
          refine wpAnyH_ready (rs := [16]) (by kernel_rfl) (by simp) (AllReadyH.cons rfl (fun K hK => ?_) AllReadyH.nil)
          go_simp
          refine (addM_any (HG1.out.below hS) (X + Y) Z).mono ?_
          rintro r y4 ⟨rfl, hbc⟩
          refine hK.out _ _ (hS.trans (hbc.mono hS.size)) (fun hS2 => ?_)
          clear hbc hS
          have hS := hS2
          clear hS2
          clear hK K
          refine wpAnyH_ready (rs := [22]) (by kernel_rfl) (by simp) (AllReadyH.cons rfl (fun K hK => ?_) AllReadyH.nil)
          go_simp
          refine (addM_any (HG1.out.below hS) Y Z).mono ?_
          rintro r y5 ⟨rfl, hbc⟩
          refine hK.out _ _ (hS.trans (hbc.mono hS.size)) (fun hS2 => ?_)
          clear hbc hS
          have hS := hS2
          clear hS2
          clear hK K
          as_aux_lemma =>
            refine wpAnyH_ready (rs := [23]) (by kernel_rfl) (by simp) (AllReadyH.cons rfl (fun K hK => ?_) AllReadyH.nil)
            go_simp
            refine (addM_any (HG1.out.below hS) X (Y + Z)).mono ?_
            rintro r y6 ⟨rfl, hbc⟩
            refine hK.out _ _ (hS.trans (hbc.mono hS.size)) (fun hS2 => ?_)
            clear hbc hS
            have hS := hS2
            clear hS2
            clear hK K
            refine wpAnyH_takeL (i := 24) (v := .bool true) rfl (by kernel_rfl) (by kernel_rfl) (by kernel_rfl) (fun _ _ _ h => h) (Or.inl ⟨by kernel_rfl, ?_⟩) hS ?_
            · intro V hV
              exact exec_eqR rfl rfl V (eq_els (U := ((X + Y) + Z)) (V := (X + (Y + Z))) HMF.out (congrArg (el M) (by grind)) V)
            simp only [put_list, List.set_cons_succ, List.set_cons_zero]
            refine wpAnyH_takeL (i := 25) (v := ?_) rfl (by kernel_rfl) (by kernel_rfl) (by kernel_rfl) (fun _ _ _ h => h) (Or.inl ⟨by kernel_rfl, ?_⟩) hS ?_
            rotate_left
            · intro V hV
              go_simp
              (try with_reducible rfl)
            simp only [put_list, List.set_cons_succ, List.set_cons_zero]
            refine wpAnyH_takeL (i := 26) (v := ?_) rfl (by kernel_rfl) (by kernel_rfl) (by kernel_rfl) (fun _ _ _ h => h) (Or.inl ⟨by kernel_rfl, ?_⟩) hS ?_
            rotate_left
            · intro V hV
              go_simp
              (try with_reducible rfl)
            simp only [put_list, List.set_cons_succ, List.set_cons_zero]
            refine wpAnyH_takeL (i := 27) (v := ?_) rfl (by kernel_rfl) (by kernel_rfl) (by kernel_rfl) (fun _ _ _ h => h) (Or.inl ⟨by kernel_rfl, ?_⟩) hS ?_
            rotate_left
            · intro V hV
              go_simp
              (try with_reducible rfl)
            simp only [put_list, List.set_cons_succ, List.set_cons_zero]
            refine wpAnyH_takeL (i := 28) (v := .agg (cs (limb (el M X)))) rfl (by kernel_rfl) (by kernel_rfl) (by kernel_rfl) (fun _ _ _ h => h) (yieldsIf_load_mid (by kernel_rfl) 24 _ rfl (b1) (0) rfl (cs (limb (el M X))).toList _ (fun V hV => rangeOf ((hV.block _ (lt_of_block HXx.out)).trans HXx.out)) under rfl (info _)) hS ?_
            simp only [put_list, List.set_cons_succ, List.set_cons_zero]
            refine wpAnyH_takeL (i := 29) (v := .agg (cs (limb (el M Y)))) rfl (by kernel_rfl) (by kernel_rfl) (by kernel_rfl) (fun _ _ _ h => h) (yieldsIf_load_mid (by kernel_rfl) 24 _ rfl (b2) (0) rfl (cs (limb (el M Y))).toList _ (fun V hV => rangeOf ((hV.block _ (lt_of_block HYx.out)).trans HYx.out)) under rfl (info _)) hS ?_
            simp only [put_list, List.set_cons_succ, List.set_cons_zero]
            refine wpAnyH_takeL (i := 31) (v := ?_) rfl (by kernel_rfl) (by kernel_rfl) (by kernel_rfl) (fun _ _ _ h => h) (Or.inl ⟨by kernel_rfl, ?_⟩) hS ?_
            rotate_left
            · intro V hV
              go_simp
              (try with_reducible rfl)
            simp only [put_list, List.set_cons_succ, List.set_cons_zero]
            as_aux_lemma =>
              refine wpAnyH_takeL (i := 32) (v := .agg (cs (limb (el M Y)))) rfl (by kernel_rfl) (by kernel_rfl) (by kernel_rfl) (fun _ _ _ h => h) (yieldsIf_load_mid (by kernel_rfl) 24 _ rfl (b2) (0) rfl (cs (limb (el M Y))).toList _ (fun V hV => rangeOf ((hV.block _ (lt_of_block HYx.out)).trans HYx.out)) under rfl (info _)) hS ?_
              simp only [put_list, List.set_cons_succ, List.set_cons_zero]
              refine wpAnyH_takeL (i := 33) (v := .agg (cs (limb (el M X)))) rfl (by kernel_rfl) (by kernel_rfl) (by kernel_rfl) (fun _ _ _ h => h) (yieldsIf_load_mid (by kernel_rfl) 24 _ rfl (b1) (0) rfl (cs (limb (el M X))).toList _ (fun V hV => rangeOf ((hV.block _ (lt_of_block HXx.out)).trans HXx.out)) under rfl (info _)) hS ?_
              simp only [put_list, List.set_cons_succ, List.set_cons_zero]
              refine wpAnyH_ready (rs := [30]) (by kernel_rfl) (by simp) (AllReadyH.cons rfl (fun K hK => ?_) AllReadyH.nil)
              go_simp
              refine (mulM_any (HG1.out.below hS) X Y).mono ?_
              rintro r y7 ⟨rfl, hbc⟩
              refine hK.out _ _ (hS.trans (hbc.mono hS.size)) (fun hS2 => ?_)
              clear hbc hS
              have hS := hS2
              clear hS2
              clear hK K
              refine wpAnyH_ready (rs := [34]) (by kernel_rfl) (by simp) (AllReadyH.cons rfl (fun K hK => ?_) AllReadyH.nil)
              go_simp
              refine (mulM_any (HG1.out.below hS) Y X).mono ?_
              rintro r y8 ⟨rfl, hbc⟩
              refine hK.out _ _ (hS.trans (hbc.mono hS.size)) (fun hS2 => ?_)
              clear hbc hS
              have hS := hS2
              clear hS2
              clear hK K
              refine wpAnyH_takeL (i := 35) (v := .bool true) rfl (by kernel_rfl) (by kernel_rfl) (by kernel_rfl) (fun _ _ _ h => h) (Or.inl ⟨by kernel_rfl, ?_⟩) hS ?_
              · intro V hV
                exact exec_eqR rfl rfl V (eq_els (U := (X * Y)) (V := (Y * X)) HMF.out (congrArg (el M) (by grind)) V)
              simp only [put_list, List.set_cons_succ, List.set_cons_zero]
              refine wpAnyH_takeL (i := 36) (v := ?_) rfl (by kernel_rfl) (by kernel_rfl) (by kernel_rfl) (fun _ _ _ h => h) (Or.inl ⟨by kernel_rfl, ?_⟩) hS ?_
              rotate_left
              · intro V hV
                go_simp
                (try with_reducible rfl)
              simp only [put_list, List.set_cons_succ, List.set_cons_zero]
              refine wpAnyH_takeL (i := 37) (v := ?_) rfl (by kernel_rfl) (by kernel_rfl) (by kernel_rfl) (fun _ _ _ h => h) (Or.inl ⟨by kernel_rfl, ?_⟩) hS ?_
              rotate_left
              · intro V hV
                go_simp
                (try with_reducible rfl)
              simp only [put_list, List.set_cons_succ, List.set_cons_zero]
              refine wpAnyH_takeL (i := 38) (v := ?_) rfl (by kernel_rfl) (by kernel_rfl) (by kernel_rfl) (fun _ _ _ h => h) (Or.inl ⟨by kernel_rfl, ?_⟩) hS ?_
              rotate_left
              · intro V hV
                go_simp
                (try with_reducible rfl)
              simp only [put_list, List.set_cons_succ, List.set_cons_zero]
              as_aux_lemma =>
                refine wpAnyH_takeL (i := 39) (v := ?_) rfl (by kernel_rfl) (by kernel_rfl) (by kernel_rfl) (fun _ _ _ h => h) (Or.inl ⟨by kernel_rfl, ?_⟩) hS ?_
                rotate_left
                · intro V hV
                  go_simp
                  (try with_reducible rfl)
                simp only [put_list, List.set_cons_succ, List.set_cons_zero]
                refine wpAnyH_takeL (i := 40) (v := .agg (cs (limb (el M X)))) rfl (by kernel_rfl) (by kernel_rfl) (by kernel_rfl) (fun _ _ _ h => h) (yieldsIf_load_mid (by kernel_rfl) 24 _ rfl (b1) (0) rfl (cs (limb (el M X))).toList _ (fun V hV => rangeOf ((hV.block _ (lt_of_block HXx.out)).trans HXx.out)) under rfl (info _)) hS ?_
                simp only [put_list, List.set_cons_succ, List.set_cons_zero]
                refine wpAnyH_takeL (i := 41) (v := .agg (cs (limb (el M Y)))) rfl (by kernel_rfl) (by kernel_rfl) (by kernel_rfl) (fun _ _ _ h => h) (yieldsIf_load_mid (by kernel_rfl) 24 _ rfl (b2) (0) rfl (cs (limb (el M Y))).toList _ (fun V hV => rangeOf ((hV.block _ (lt_of_block HYx.out)).trans HYx.out)) under rfl (info _)) hS ?_
                simp only [put_list, List.set_cons_succ, List.set_cons_zero]
                refine wpAnyH_takeL (i := 43) (v := .agg (cs (limb (el M Z)))) rfl (by kernel_rfl) (by kernel_rfl) (by kernel_rfl) (fun _ _ _ h => h) (yieldsIf_load_mid (by kernel_rfl) 24 _ rfl (b3) (0) rfl (cs (limb (el M Z))).toList _ (fun V hV => rangeOf ((hV.block _ (lt_of_block HZx.out)).trans HZx.out)) under rfl (info _)) hS ?_
                simp only [put_list, List.set_cons_succ, List.set_cons_zero]
                refine wpAnyH_takeL (i := 45) (v := ?_) rfl (by kernel_rfl) (by kernel_rfl) (by kernel_rfl) (fun _ _ _ h => h) (Or.inl ⟨by kernel_rfl, ?_⟩) hS ?_
                rotate_left
                · intro V hV
                  go_simp
                  (try with_reducible rfl)
                simp only [put_list, List.set_cons_succ, List.set_cons_zero]
                refine wpAnyH_takeL (i := 46) (v := .agg (cs (limb (el M X)))) rfl (by kernel_rfl) (by kernel_rfl) (by kernel_rfl) (fun _ _ _ h => h) (yieldsIf_load_mid (by kernel_rfl) 24 _ rfl (b1) (0) rfl (cs (limb (el M X))).toList _ (fun V hV => rangeOf ((hV.block _ (lt_of_block HXx.out)).trans HXx.out)) under rfl (info _)) hS ?_
                simp only [put_list, List.set_cons_succ, List.set_cons_zero]
                refine wpAnyH_takeL (i := 47) (v := ?_) rfl (by kernel_rfl) (by kernel_rfl) (by kernel_rfl) (fun _ _ _ h => h) (Or.inl ⟨by kernel_rfl, ?_⟩) hS ?_
                rotate_left
                · intro V hV
                  go_simp
                  (try with_reducible rfl)
                simp only [put_list, List.set_cons_succ, List.set_cons_zero]
                refine wpAnyH_takeL (i := 48) (v := .agg (cs (limb (el M Y)))) rfl (by kernel_rfl) (by kernel_rfl) (by kernel_rfl) (fun _ _ _ h => h) (yieldsIf_load_mid (by kernel_rfl) 24 _ rfl (b2) (0) rfl (cs (limb (el M Y))).toList _ (fun V hV => rangeOf ((hV.block _ (lt_of_block HYx.out)).trans HYx.out)) under rfl (info _)) hS ?_
                simp only [put_list, List.set_cons_succ, List.set_cons_zero]
                as_aux_lemma =>
                  refine wpAnyH_takeL (i := 49) (v := .agg (cs (limb (el M Z)))) rfl (by kernel_rfl) (by kernel_rfl) (by kernel_rfl) (fun _ _ _ h => h) (yieldsIf_load_mid (by kernel_rfl) 24 _ rfl (b3) (0) rfl (cs (limb (el M Z))).toList _ (fun V hV => rangeOf ((hV.block _ (lt_of_block HZx.out)).trans HZx.out)) under rfl (info _)) hS ?_
                  simp only [put_list, List.set_cons_succ, List.set_cons_zero]
                  refine wpAnyH_ready (rs := [42]) (by kernel_rfl) (by simp) (AllReadyH.cons rfl (fun K hK => ?_) AllReadyH.nil)
                  go_simp
                  refine (mulM_any (HG1.out.below hS) X Y).mono ?_
                  rintro r y9 ⟨rfl, hbc⟩
                  refine hK.out _ _ (hS.trans (hbc.mono hS.size)) (fun hS2 => ?_)
                  clear hbc hS
                  have hS := hS2
                  clear hS2
                  clear hK K
                  refine wpAnyH_ready (rs := [44]) (by kernel_rfl) (by simp) (AllReadyH.cons rfl (fun K hK => ?_) AllReadyH.nil)
                  go_simp
                  refine (mulM_any (HG1.out.below hS) (X * Y) Z).mono ?_
                  rintro r y10 ⟨rfl, hbc⟩
                  refine hK.out _ _ (hS.trans (hbc.mono hS.size)) (fun hS2 => ?_)
                  clear hbc hS
                  have hS := hS2
                  clear hS2
                  clear hK K
                  refine wpAnyH_ready (rs := [50]) (by kernel_rfl) (by simp) (AllReadyH.cons rfl (fun K hK => ?_) AllReadyH.nil)
                  go_simp
                  refine (mulM_any (HG1.out.below hS) Y Z).mono ?_
                  rintro r y11 ⟨rfl, hbc⟩
                  refine hK.out _ _ (hS.trans (hbc.mono hS.size)) (fun hS2 => ?_)
                  clear hbc hS
                  have hS := hS2
                  clear hS2
                  clear hK K
                  refine wpAnyH_ready (rs := [51]) (by kernel_rfl) (by simp) (AllReadyH.cons rfl (fun K hK => ?_) AllReadyH.nil)
                  go_simp
                  refine (mulM_any (HG1.out.below hS) X (Y * Z)).mono ?_
                  rintro r y12 ⟨rfl, hbc⟩
                  refine hK.out _ _ (hS.trans (hbc.mono hS.size)) (fun hS2 => ?_)
                  clear hbc hS
                  have hS := hS2
                  clear hS2
                  clear hK K
                  refine wpAnyH_takeL (i := 52) (v := .bool true) rfl (by kernel_rfl) (by kernel_rfl) (by kernel_rfl) (fun _ _ _ h => h) (Or.inl ⟨by kernel_rfl, ?_⟩) hS ?_
                  · intro V hV
                    exact exec_eqR rfl rfl V (eq_els (U := ((X * Y) * Z)) (V := (X * (Y * Z))) HMF.out (congrArg (el M) (by grind)) V)
                  simp only [put_list, List.set_cons_succ, List.set_cons_zero]
                  refine wpAnyH_takeL (i := 53) (v := ?_) rfl (by kernel_rfl) (by kernel_rfl) (by kernel_rfl) (fun _ _ _ h => h) (Or.inl ⟨by kernel_rfl, ?_⟩) hS ?_
                  rotate_left
                  · intro V hV
                    go_simp
                    (try with_reducible rfl)
                  simp only [put_list, List.set_cons_succ, List.set_cons_zero]
                  refine wpAnyH_takeL (i := 54) (v := ?_) rfl (by kernel_rfl) (by kernel_rfl) (by kernel_rfl) (fun _ _ _ h => h) (Or.inl ⟨by kernel_rfl, ?_⟩) hS ?_
                  rotate_left
                  · intro V hV
                    go_simp
                    (try with_reducible rfl)
                  simp only [put_list, List.set_cons_succ, List.set_cons_zero]
                  as_aux_lemma =>
                    refine wpAnyH_takeL (i := 55) (v := ?_) rfl (by kernel_rfl) (by kernel_rfl) (by kernel_rfl) (fun _ _ _ h => h) (Or.inl ⟨by kernel_rfl, ?_⟩) hS ?_
                    rotate_left
                    · intro V hV
                      go_simp
                      (try with_reducible rfl)
                    simp only [put_list, List.set_cons_succ, List.set_cons_zero]
                    refine wpAnyH_takeL (i := 56) (v := .agg (cs (limb (el M X)))) rfl (by kernel_rfl) (by kernel_rfl) (by kernel_rfl) (fun _ _ _ h => h) (yieldsIf_load_mid (by kernel_rfl) 24 _ rfl (b1) (0) rfl (cs (limb (el M X))).toList _ (fun V hV => rangeOf ((hV.block _ (lt_of_block HXx.out)).trans HXx.out)) under rfl (info _)) hS ?_
                    simp only [put_list, List.set_cons_succ, List.set_cons_zero]
                    refine wpAnyH_takeL (i := 57) (v := ?_) rfl (by kernel_rfl) (by kernel_rfl) (by kernel_rfl) (fun _ _ _ h => h) (Or.inl ⟨by kernel_rfl, ?_⟩) hS ?_
                    rotate_left
                    · intro V hV
                      go_simp
                      (try with_reducible rfl)
                    simp only [put_list, List.set_cons_succ, List.set_cons_zero]
                    refine wpAnyH_takeL (i := 58) (v := .agg (cs (limb (el M Y)))) rfl (by kernel_rfl) (by kernel_rfl) (by kernel_rfl) (fun _ _ _ h => h) (yieldsIf_load_mid (by kernel_rfl) 24 _ rfl (b2) (0) rfl (cs (limb (el M Y))).toList _ (fun V hV => rangeOf ((hV.block _ (lt_of_block HYx.out)).trans HYx.out)) under rfl (info _)) hS ?_
                    simp only [put_list, List.set_cons_succ, List.set_cons_zero]
                    refine wpAnyH_takeL (i := 59) (v := .agg (cs (limb (el M Z)))) rfl (by kernel_rfl) (by kernel_rfl) (by kernel_rfl) (fun _ _ _ h => h) (yieldsIf_load_mid (by kernel_rfl) 24 _ rfl (b3) (0) rfl (cs (limb (el M Z))).toList _ (fun V hV => rangeOf ((hV.block _ (lt_of_block HZx.out)).trans HZx.out)) under rfl (info _)) hS ?_
                    simp only [put_list, List.set_cons_succ, List.set_cons_zero]
                    refine wpAnyH_takeL (i := 62) (v := ?_) rfl (by kernel_rfl) (by kernel_rfl) (by kernel_rfl) (fun _ _ _ h => h) (Or.inl ⟨by kernel_rfl, ?_⟩) hS ?_
                    rotate_left
                    · intro V hV
                      go_simp
                      (try with_reducible rfl)
                    simp only [put_list, List.set_cons_succ, List.set_cons_zero]
                    refine wpAnyH_takeL (i := 63) (v := ?_) rfl (by kernel_rfl) (by kernel_rfl) (by kernel_rfl) (fun _ _ _ h => h) (Or.inl ⟨by kernel_rfl, ?_⟩) hS ?_
                    rotate_left
                    · intro V hV
                      go_simp
                      (try with_reducible rfl)
                    simp only [put_list, List.set_cons_succ, List.set_cons_zero]
                    refine wpAnyH_takeL (i := 64) (v := .agg (cs (limb (el M X)))) rfl (by kernel_rfl) (by kernel_rfl) (by kernel_rfl) (fun _ _ _ h => h) (yieldsIf_load_mid (by kernel_rfl) 24 _ rfl (b1) (0) rfl (cs (limb (el M X))).toList _ (fun V hV => rangeOf ((hV.block _ (lt_of_block HXx.out)).trans HXx.out)) under rfl (info _)) hS ?_
                    simp only [put_list, List.set_cons_succ, List.set_cons_zero]
                    as_aux_lemma =>
                      refine wpAnyH_takeL (i := 65) (v := .agg (cs (limb (el M Y)))) rfl (by kernel_rfl) (by kernel_rfl) (by kernel_rfl) (fun _ _ _ h => h) (yieldsIf_load_mid (by kernel_rfl) 24 _ rfl (b2) (0) rfl (cs (limb (el M Y))).toList _ (fun V hV => rangeOf ((hV.block _ (lt_of_block HYx.out)).trans HYx.out)) under rfl (info _)) hS ?_
                      simp only [put_list, List.set_cons_succ, List.set_cons_zero]
                      refine wpAnyH_takeL (i := 67) (v := ?_) rfl (by kernel_rfl) (by kernel_rfl) (by kernel_rfl) (fun _ _ _ h => h) (Or.inl ⟨by kernel_rfl, ?_⟩) hS ?_
                      rotate_left
                      · intro V hV
                        go_simp
                        (try with_reducible rfl)
                      simp only [put_list, List.set_cons_succ, List.set_cons_zero]
                      refine wpAnyH_takeL (i := 68) (v := .agg (cs (limb (el M X)))) rfl (by kernel_rfl) (by kernel_rfl) (by kernel_rfl) (fun _ _ _ h => h) (yieldsIf_load_mid (by kernel_rfl) 24 _ rfl (b1) (0) rfl (cs (limb (el M X))).toList _ (fun V hV => rangeOf ((hV.block _ (lt_of_block HXx.out)).trans HXx.out)) under rfl (info _)) hS ?_
                      simp only [put_list, List.set_cons_succ, List.set_cons_zero]
                      refine wpAnyH_takeL (i := 69) (v := .agg (cs (limb (el M Z)))) rfl (by kernel_rfl) (by kernel_rfl) (by kernel_rfl) (fun _ _ _ h => h) (yieldsIf_load_mid (by kernel_rfl) 24 _ rfl (b3) (0) rfl (cs (limb (el M Z))).toList _ (fun V hV => rangeOf ((hV.block _ (lt_of_block HZx.out)).trans HZx.out)) under rfl (info _)) hS ?_
                      simp only [put_list, List.set_cons_succ, List.set_cons_zero]
                      refine wpAnyH_ready (rs := [60]) (by kernel_rfl) (by simp) (AllReadyH.cons rfl (fun K hK => ?_) AllReadyH.nil)
                      go_simp
                      refine (addM_any (HG1.out.below hS) Y Z).mono ?_
                      rintro r y13 ⟨rfl, hbc⟩
                      refine hK.out _ _ (hS.trans (hbc.mono hS.size)) (fun hS2 => ?_)
                      clear hbc hS
                      have hS := hS2
                      clear hS2
                      clear hK K
                      refine wpAnyH_ready (rs := [61]) (by kernel_rfl) (by simp) (AllReadyH.cons rfl (fun K hK => ?_) AllReadyH.nil)
                      go_simp
                      refine (mulM_any (HG1.out.below hS) X (Y + Z)).mono ?_
                      rintro r y14 ⟨rfl, hbc⟩
                      refine hK.out _ _ (hS.trans (hbc.mono hS.size)) (fun hS2 => ?_)
                      clear hbc hS
                      have hS := hS2
                      clear hS2
                      clear hK K
                      refine wpAnyH_ready (rs := [66]) (by kernel_rfl) (by simp) (AllReadyH.cons rfl (fun K hK => ?_) AllReadyH.nil)
                      go_simp
                      refine (mulM_any (HG1.out.below hS) X Y).mono ?_
                      rintro r y15 ⟨rfl, hbc⟩
                      refine hK.out _ _ (hS.trans (hbc.mono hS.size)) (fun hS2 => ?_)
                      clear hbc hS
                      have hS := hS2
                      clear hS2
                      clear hK K
                      refine wpAnyH_ready (rs := [70]) (by kernel_rfl) (by simp) (AllReadyH.cons rfl (fun K hK => ?_) AllReadyH.nil)
                      go_simp
                      refine (mulM_any (HG1.out.below hS) X Z).mono ?_
                      rintro r y16 ⟨rfl, hbc⟩
                      refine hK.out _ _ (hS.trans (hbc.mono hS.size)) (fun hS2 => ?_)
                      clear hbc hS
                      have hS := hS2
                      clear hS2
                      clear hK K
                      as_aux_lemma =>
                        refine wpAnyH_ready (rs := [71]) (by kernel_rfl) (by simp) (AllReadyH.cons rfl (fun K hK => ?_) AllReadyH.nil)
                        go_simp
                        refine (addM_any (HG1.out.below hS) (X * Y) (X * Z)).mono ?_
                        rintro r y17 ⟨rfl, hbc⟩
                        refine hK.out _ _ (hS.trans (hbc.mono hS.size)) (fun hS2 => ?_)
                        clear hbc hS
                        have hS := hS2
                        clear hS2
                        clear hK K
                        refine wpAnyH_takeL (i := 72) (v := .bool true) rfl (by kernel_rfl) (by kernel_rfl) (by kernel_rfl) (fun _ _ _ h => h) (Or.inl ⟨by kernel_rfl, ?_⟩) hS ?_
                        · intro V hV
                          exact exec_eqR rfl rfl V (eq_els (U := (X * (Y + Z))) (V := ((X * Y) + (X * Z))) HMF.out (congrArg (el M) (by grind)) V)
                        simp only [put_list, List.set_cons_succ, List.set_cons_zero]
                        refine wpAnyH_takeL (i := 73) (v := ?_) rfl (by kernel_rfl) (by kernel_rfl) (by kernel_rfl) (fun _ _ _ h => h) (Or.inl ⟨by kernel_rfl, ?_⟩) hS ?_
                        rotate_left
                        · intro V hV
                          go_simp
                          (try with_reducible rfl)
                        simp only [put_list, List.set_cons_succ, List.set_cons_zero]
                        refine wpAnyH_takeL (i := 74) (v := ?_) rfl (by kernel_rfl) (by kernel_rfl) (by kernel_rfl) (fun _ _ _ h => h) (Or.inl ⟨by kernel_rfl, ?_⟩) hS ?_
                        rotate_left
                        · intro V hV
                          go_simp
                          (try with_reducible rfl)
                        simp only [put_list, List.set_cons_succ, List.set_cons_zero]
                        refine wpAnyH_takeL (i := 75) (v := ?_) rfl (by kernel_rfl) (by kernel_rfl) (by kernel_rfl) (fun _ _ _ h => h) (Or.inl ⟨by kernel_rfl, ?_⟩) hS ?_
                        rotate_left
                        · intro V hV
                          go_simp
                          (try with_reducible rfl)
                        simp only [put_list, List.set_cons_succ, List.set_cons_zero]
                        refine wpAnyH_takeL (i := 76) (v := ?_) rfl (by kernel_rfl) (by kernel_rfl) (by kernel_rfl) (fun _ _ _ h => h) (Or.inl ⟨by kernel_rfl, ?_⟩) hS ?_
                        rotate_left
                        · intro V hV
                          go_simp
                          (try with_reducible rfl)
                        simp only [put_list, List.set_cons_succ, List.set_cons_zero]
                        refine wpAnyH_takeL (i := 77) (v := .agg (cs (limb (el M X)))) rfl (by kernel_rfl) (by kernel_rfl) (by kernel_rfl) (fun _ _ _ h => h) (yieldsIf_load_mid (by kernel_rfl) 24 _ rfl (b1) (0) rfl (cs (limb (el M X))).toList _ (fun V hV => rangeOf ((hV.block _ (lt_of_block HXx.out)).trans HXx.out)) under rfl (info _)) hS ?_
                        simp only [put_list, List.set_cons_succ, List.set_cons_zero]
                        refine wpAnyH_takeL (i := 78) (v := .agg (cs (limb (el M Y)))) rfl (by kernel_rfl) (by kernel_rfl) (by kernel_rfl) (fun _ _ _ h => h) (yieldsIf_load_mid (by kernel_rfl) 24 _ rfl (b2) (0) rfl (cs (limb (el M Y))).toList _ (fun V hV => rangeOf ((hV.block _ (lt_of_block HYx.out)).trans HYx.out)) under rfl (info _)) hS ?_
                        simp only [put_list, List.set_cons_succ, List.set_cons_zero]
                        as_aux_lemma =>
                          refine wpAnyH_takeL (i := 80) (v := .agg (cs (limb (el M Y)))) rfl (by kernel_rfl) (by kernel_rfl) (by kernel_rfl) (fun _ _ _ h => h) (yieldsIf_load_mid (by kernel_rfl) 24 _ rfl (b2) (0) rfl (cs (limb (el M Y))).toList _ (fun V hV => rangeOf ((hV.block _ (lt_of_block HYx.out)).trans HYx.out)) under rfl (info _)) hS ?_
                          simp only [put_list, List.set_cons_succ, List.set_cons_zero]
                          refine wpAnyH_takeL (i := 82) (v := .agg (cs (limb (el M X)))) rfl (by kernel_rfl) (by kernel_rfl) (by kernel_rfl) (fun _ _ _ h => h) (yieldsIf_load_mid (by kernel_rfl) 24 _ rfl (b1) (0) rfl (cs (limb (el M X))).toList _ (fun V hV => rangeOf ((hV.block _ (lt_of_block HXx.out)).trans HXx.out)) under rfl (info _)) hS ?_
                          simp only [put_list, List.set_cons_succ, List.set_cons_zero]
                          refine wpAnyH_ready (rs := [79]) (by kernel_rfl) (by simp) (AllReadyH.cons rfl (fun K hK => ?_) AllReadyH.nil)
                          go_simp
                          refine (addM_any (HG1.out.below hS) X Y).mono ?_
                          rintro r y18 ⟨rfl, hbc⟩
                          refine hK.out _ _ (hS.trans (hbc.mono hS.size)) (fun hS2 => ?_)
                          clear hbc hS
                          have hS := hS2
                          clear hS2
                          clear hK K
                          refine wpAnyH_ready (rs := [81]) (by kernel_rfl) (by simp) (AllReadyH.cons rfl (fun K hK => ?_) AllReadyH.nil)
                          go_simp
                          refine (subM_any (HG1.out.below hS) (X + Y) Y).mono ?_
                          rintro r y19 ⟨rfl, hbc⟩
                          refine hK.out _ _ (hS.trans (hbc.mono hS.size)) (fun hS2 => ?_)
                          clear hbc hS
                          have hS := hS2
                          clear hS2
                          clear hK K
                          refine wpAnyH_takeL (i := 83) (v := .bool true) rfl (by kernel_rfl) (by kernel_rfl) (by kernel_rfl) (fun _ _ _ h => h) (Or.inl ⟨by kernel_rfl, ?_⟩) hS ?_
                          · intro V hV
                            exact exec_eqR rfl rfl V (eq_els (U := ((X + Y) + (M - Y % M))) (V := X) HMF.out (el_addsub HMF.out X Y) V)
                          simp only [put_list, List.set_cons_succ, List.set_cons_zero]
                          refine wpAnyH_takeL (i := 84) (v := ?_) rfl (by kernel_rfl) (by kernel_rfl) (by kernel_rfl) (fun _ _ _ h => h) (Or.inl ⟨by kernel_rfl, ?_⟩) hS ?_
                          rotate_left
                          · intro V hV
                            go_simp
                            (try with_reducible rfl)
                          simp only [put_list, List.set_cons_succ, List.set_cons_zero]
                          refine wpAnyH_takeL (i := 85) (v := ?_) rfl (by kernel_rfl) (by kernel_rfl) (by kernel_rfl) (fun _ _ _ h => h) (Or.inl ⟨by kernel_rfl, ?_⟩) hS ?_
                          rotate_left
                          · intro V hV
                            go_simp
                            (try with_reducible rfl)
                          simp only [put_list, List.set_cons_succ, List.set_cons_zero]
                          refine wpAnyH_takeL (i := 86) (v := ?_) rfl (by kernel_rfl) (by kernel_rfl) (by kernel_rfl) (fun _ _ _ h => h) (Or.inl ⟨by kernel_rfl, ?_⟩) hS ?_
                          rotate_left
                          · intro V hV
                            go_simp
                            (try with_reducible rfl)
                          simp only [put_list, List.set_cons_succ, List.set_cons_zero]
                          as_aux_lemma =>
                            refine wpAnyH_takeL (i := 87) (v := .agg (cs (limb (el M X)))) rfl (by kernel_rfl) (by kernel_rfl) (by kernel_rfl) (fun _ _ _ h => h) (yieldsIf_load_mid (by kernel_rfl) 24 _ rfl (b1) (0) rfl (cs (limb (el M X))).toList _ (fun V hV => rangeOf ((hV.block _ (lt_of_block HXx.out)).trans HXx.out)) under rfl (info _)) hS ?_
                            simp only [put_list, List.set_cons_succ, List.set_cons_zero]
                            refine wpAnyH_takeL (i := 88) (v := ?_) rfl (by kernel_rfl) (by kernel_rfl) (by kernel_rfl) (fun _ _ _ h => h) (Or.inl ⟨by kernel_rfl, ?_⟩) hS ?_
                            rotate_left
                            · intro V hV
                              go_simp
                              (try with_reducible rfl)
                            simp only [put_list, List.set_cons_succ, List.set_cons_zero]
                            refine wpAnyH_takeL (i := 89) (v := .agg (cs (limb (el M X)))) rfl (by kernel_rfl) (by kernel_rfl) (by kernel_rfl) (fun _ _ _ h => h) (yieldsIf_load_mid (by kernel_rfl) 24 _ rfl (b1) (0) rfl (cs (limb (el M X))).toList _ (fun V hV => rangeOf ((hV.block _ (lt_of_block HXx.out)).trans HXx.out)) under rfl (info _)) hS ?_
                            simp only [put_list, List.set_cons_succ, List.set_cons_zero]
                            refine wpAnyH_takeL (i := 92) (v := ?_) rfl (by kernel_rfl) (by kernel_rfl) (by kernel_rfl) (fun _ _ _ h => h) (Or.inl ⟨by kernel_rfl, ?_⟩) hS ?_
                            rotate_left
                            · intro V hV
                              go_simp
                              (try with_reducible rfl)
                            simp only [put_list, List.set_cons_succ, List.set_cons_zero]
                            refine wpAnyH_takeL (i := 93) (v := ?_) rfl (by kernel_rfl) (by kernel_rfl) (by kernel_rfl) (fun _ _ _ h => h) (Or.inl ⟨by kernel_rfl, ?_⟩) hS ?_
                            rotate_left
                            · intro V hV
                              go_simp
                              (try with_reducible rfl)
                            simp only [put_list, List.set_cons_succ, List.set_cons_zero]
                            refine wpAnyH_ready (rs := [90]) (by kernel_rfl) (by simp) (AllReadyH.cons rfl (fun K hK => ?_) AllReadyH.nil)
                            go_simp
                            refine (neg_any (HG1.out.below hS) X).mono ?_
                            rintro r y20 ⟨rfl, hbc⟩
                            refine hK.out _ _ (hS.trans (hbc.mono hS.size)) (fun hS2 => ?_)
                            clear hbc hS
                            have hS := hS2
                            clear hS2
                            clear hK K
                            refine wpAnyH_ready (rs := [91]) (by kernel_rfl) (by simp) (AllReadyH.cons rfl (fun K hK => ?_) AllReadyH.nil)
                            go_simp
                            refine (addM_any (HG1.out.below hS) X (M - X % M)).mono ?_
                            rintro r y21 ⟨rfl, hbc⟩
                            refine hK.out _ _ (hS.trans (hbc.mono hS.size)) (fun hS2 => ?_)
                            clear hbc hS
                            have hS := hS2
                            clear hS2
                            clear hK K
                            refine wpAnyH_ready (rs := [94]) (by kernel_rfl) (by simp) (AllReadyH.cons rfl (fun K hK => ?_) AllReadyH.nil)
                            go_simp
                            refine (HI0.out _ _ (HG1.out.below hS)).mono ?_
                            rintro r y22 ⟨rfl, hbc⟩
                            refine hK.out _ _ (hS.trans (hbc.mono hS.size)) (fun hS2 => ?_)
                            clear hbc hS
                            have hS := hS2
                            clear hS2
                            clear hK K
                            as_aux_lemma =>
                              refine wpAnyH_takeL (i := 95) (v := .bool true) rfl (by kernel_rfl) (by kernel_rfl) (by kernel_rfl) (fun _ _ _ h => h) (Or.inl ⟨by kernel_rfl, ?_⟩) hS ?_
                              · intro V hV
                                exact exec_eqR rfl rfl V (eq_els (U := (X + (M - X % M))) (V := 0) HMF.out (el_addneg HMF.out X) V)
                              simp only [put_list, List.set_cons_succ, List.set_cons_zero]
                              refine wpAnyH_takeL (i := 96) (v := ?_) rfl (by kernel_rfl) (by kernel_rfl) (by kernel_rfl) (fun _ _ _ h => h) (Or.inl ⟨by kernel_rfl, ?_⟩) hS ?_
                              rotate_left
                              · intro V hV
                                go_simp
                                (try with_reducible rfl)
                              simp only [put_list, List.set_cons_succ, List.set_cons_zero]
                              refine wpAnyH_takeL (i := 97) (v := ?_) rfl (by kernel_rfl) (by kernel_rfl) (by kernel_rfl) (fun _ _ _ h => h) (Or.inl ⟨by kernel_rfl, ?_⟩) hS ?_
                              rotate_left
                              · intro V hV
                                go_simp
                                (try with_reducible rfl)
                              simp only [put_list, List.set_cons_succ, List.set_cons_zero]
                              refine wpAnyH_takeL (i := 98) (v := ?_) rfl (by kernel_rfl) (by kernel_rfl) (by kernel_rfl) (fun _ _ _ h => h) (Or.inl ⟨by kernel_rfl, ?_⟩) hS ?_
                              rotate_left
                              · intro V hV
                                go_simp
                                (try with_reducible rfl)
                              simp only [put_list, List.set_cons_succ, List.set_cons_zero]
                              refine wpAnyH_takeL (i := 99) (v := .agg (cs (limb (el M X)))) rfl (by kernel_rfl) (by kernel_rfl) (by kernel_rfl) (fun _ _ _ h => h) (yieldsIf_load_mid (by kernel_rfl) 24 _ rfl (b1) (0) rfl (cs (limb (el M X))).toList _ (fun V hV => rangeOf ((hV.block _ (lt_of_block HXx.out)).trans HXx.out)) under rfl (info _)) hS ?_
                              simp only [put_list, List.set_cons_succ, List.set_cons_zero]
                              refine wpAnyH_takeL (i := 100) (v := ?_) rfl (by kernel_rfl) (by kernel_rfl) (by kernel_rfl) (fun _ _ _ h => h) (Or.inl ⟨by kernel_rfl, ?_⟩) hS ?_
                              rotate_left
                              · intro V hV
                                go_simp
                                (try with_reducible rfl)
                              simp only [put_list, List.set_cons_succ, List.set_cons_zero]
                              refine wpAnyH_takeL (i := 101) (v := ?_) rfl (by kernel_rfl) (by kernel_rfl) (by kernel_rfl) (fun _ _ _ h => h) (Or.inl ⟨by kernel_rfl, ?_⟩) hS ?_
                              rotate_left
                              · intro V hV
                                go_simp
                                (try with_reducible rfl)
                              simp only [put_list, List.set_cons_succ, List.set_cons_zero]
                              refine wpAnyH_takeL (i := 104) (v := .agg (cs (limb (el M X)))) rfl (by kernel_rfl) (by kernel_rfl) (by kernel_rfl) (fun _ _ _ h => h) (yieldsIf_load_mid (by kernel_rfl) 24 _ rfl (b1) (0) rfl (cs (limb (el M X))).toList _ (fun V hV => rangeOf ((hV.block _ (lt_of_block HXx.out)).trans HXx.out)) under rfl (info _)) hS ?_
                              simp only [put_list, List.set_cons_succ, List.set_cons_zero]
                              as_aux_lemma =>
                                refine wpAnyH_ready (rs := [102]) (by kernel_rfl) (by simp) (AllReadyH.cons rfl (fun K hK => ?_) AllReadyH.nil)
                                go_simp
                                refine (HI1.out _ _ (HG1.out.below hS)).mono ?_
                                rintro r y23 ⟨rfl, hbc⟩
                                refine hK.out _ _ (hS.trans (hbc.mono hS.size)) (fun hS2 => ?_)
                                clear hbc hS
                                have hS := hS2
                                clear hS2
                                clear hK K
                                refine wpAnyH_ready (rs := [103]) (by kernel_rfl) (by simp) (AllReadyH.cons rfl (fun K hK => ?_) AllReadyH.nil)
                                go_simp
                                refine (mulM_any (HG1.out.below hS) X 1).mono ?_
                                rintro r y24 ⟨rfl, hbc⟩
                                refine hK.out _ _ (hS.trans (hbc.mono hS.size)) (fun hS2 => ?_)
                                clear hbc hS
                                have hS := hS2
                                clear hS2
                                clear hK K
                                refine wpAnyH_takeL (i := 105) (v := .bool true) rfl (by kernel_rfl) (by kernel_rfl) (by kernel_rfl) (fun _ _ _ h => h) (Or.inl ⟨by kernel_rfl, ?_⟩) hS ?_
                                · intro V hV
                                  exact exec_eqR rfl rfl V (eq_els (U := (X * 1)) (V := X) HMF.out (congrArg (el M) (Nat.mul_one X)) V)
                                simp only [put_list, List.set_cons_succ, List.set_cons_zero]
                                refine wpAnyH_takeL (i := 106) (v := ?_) rfl (by kernel_rfl) (by kernel_rfl) (by kernel_rfl) (fun _ _ _ h => h) (Or.inl ⟨by kernel_rfl, ?_⟩) hS ?_
                                rotate_left
                                · intro V hV
                                  go_simp
                                  (try with_reducible rfl)
                                simp only [put_list, List.set_cons_succ, List.set_cons_zero]
                                refine wpAnyH_takeL (i := 107) (v := ?_) rfl (by kernel_rfl) (by kernel_rfl) (by kernel_rfl) (fun _ _ _ h => h) (Or.inl ⟨by kernel_rfl, ?_⟩) hS ?_
                                rotate_left
                                · intro V hV
                                  go_simp
                                  (try with_reducible rfl)
                                simp only [put_list, List.set_cons_succ, List.set_cons_zero]
                                refine wpAnyH_takeL (i := 108) (v := ?_) rfl (by kernel_rfl) (by kernel_rfl) (by kernel_rfl) (fun _ _ _ h => h) (Or.inl ⟨by kernel_rfl, ?_⟩) hS ?_
                                rotate_left
                                · intro V hV
                                  go_simp
                                  (try with_reducible rfl)
                                simp only [put_list, List.set_cons_succ, List.set_cons_zero]
                                refine wpAnyH_takeL (i := 109) (v := ?_) rfl (by kernel_rfl) (by kernel_rfl) (by kernel_rfl) (fun _ _ _ h => h) (Or.inl ⟨by kernel_rfl, ?_⟩) hS ?_
                                rotate_left
                                · intro V hV
                                  go_simp
                                  (try with_reducible rfl)
                                simp only [put_list, List.set_cons_succ, List.set_cons_zero]
                                refine wpAnyH_takeL (i := 110) (v := .agg (cs (limb (el M X)))) rfl (by kernel_rfl) (by kernel_rfl) (by kernel_rfl) (fun _ _ _ h => h) (yieldsIf_load_mid (by kernel_rfl) 24 _ rfl (b1) (0) rfl (cs (limb (el M X))).toList _ (fun V hV => rangeOf ((hV.block _ (lt_of_block HXx.out)).trans HXx.out)) under rfl (info _)) hS ?_
                                simp only [put_list, List.set_cons_succ, List.set_cons_zero]
                                as_aux_lemma =>
                                  refine wpAnyH_takeL (i := 113) (v := .agg (cs (limb (el M X)))) rfl (by kernel_rfl) (by kernel_rfl) (by kernel_rfl) (fun _ _ _ h => h) (yieldsIf_load_mid (by kernel_rfl) 24 _ rfl (b1) (0) rfl (cs (limb (el M X))).toList _ (fun V hV => rangeOf ((hV.block _ (lt_of_block HXx.out)).trans HXx.out)) under rfl (info _)) hS ?_
                                  simp only [put_list, List.set_cons_succ, List.set_cons_zero]
                                  refine wpAnyH_ready (rs := [111]) (by kernel_rfl) (by simp) (AllReadyH.cons rfl (fun K hK => ?_) AllReadyH.nil)
                                  go_simp
                                  refine (out_any (HG1.out.below hS) X).mono ?_
                                  rintro r y25 ⟨rfl, hbc⟩
                                  refine hK.out _ _ (hS.trans (hbc.mono hS.size)) (fun hS2 => ?_)
                                  clear hbc hS
                                  have hS := hS2
                                  clear hS2
                                  clear hK K
                                  refine wpAnyH_ready (rs := [112]) (by kernel_rfl) (by simp) (AllReadyH.cons rfl (fun K hK => ?_) AllReadyH.nil)
                                  go_simp
                                  refine (in_any (HG1.out.below hS) (X % M) HXR.out).mono ?_
                                  rintro r y26 ⟨rfl, hbc⟩
                                  refine hK.out _ _ (hS.trans (hbc.mono hS.size)) (fun hS2 => ?_)
                                  clear hbc hS
                                  have hS := hS2
                                  clear hS2
                                  clear hK K
                                  refine wpAnyH_takeL (i := 114) (v := .bool true) rfl (by kernel_rfl) (by kernel_rfl) (by kernel_rfl) (fun _ _ _ h => h) (Or.inl ⟨by kernel_rfl, ?_⟩) hS ?_
                                  · intro V hV
                                    exact exec_eqR rfl rfl V (eq_els (U := (X % M)) (V := X) HMF.out (el_mod M X) V)
                                  simp only [put_list, List.set_cons_succ, List.set_cons_zero]
                                  refine wpAnyH_takeL (i := 115) (v := ?_) rfl (by kernel_rfl) (by kernel_rfl) (by kernel_rfl) (fun _ _ _ h => h) (Or.inl ⟨by kernel_rfl, ?_⟩) hS ?_
                                  rotate_left
                                  · intro V hV
                                    go_simp
                                    (try with_reducible rfl)
                                  simp only [put_list, List.set_cons_succ, List.set_cons_zero]
                                  refine wpAnyH_takeL (i := 116) (v := ?_) rfl (by kernel_rfl) (by kernel_rfl) (by kernel_rfl) (fun _ _ _ h => h) (Or.inl ⟨by kernel_rfl, ?_⟩) hS ?_
                                  rotate_left
                                  · intro V hV
                                    go_simp
                                    (try with_reducible rfl)
                                  simp only [put_list, List.set_cons_succ, List.set_cons_zero]
                                  refine wpAnyH_takeL (i := 117) (v := ?_) rfl (by kernel_rfl) (by kernel_rfl) (by kernel_rfl) (fun _ _ _ h => h) (Or.inl ⟨by kernel_rfl, ?_⟩) hS ?_
                                  rotate_left
                                  · intro V hV
                                    go_simp
                                    (try with_reducible rfl)
                                  simp only [put_list, List.set_cons_succ, List.set_cons_zero]
                                  refine wpAnyH_takeL (i := 118) (v := .agg (cs (limb (el M X)))) rfl (by kernel_rfl) (by kernel_rfl) (by kernel_rfl) (fun _ _ _ h => h) (yieldsIf_load_mid (by kernel_rfl) 24 _ rfl (b1) (0) rfl (cs (limb (el M X))).toList _ (fun V hV => rangeOf ((hV.block _ (lt_of_block HXx.out)).trans HXx.out)) under rfl (info _)) hS ?_
                                  simp only [put_list, List.set_cons_succ, List.set_cons_zero]
                                  as_aux_lemma =>
                                    refine wpAnyH_takeL (i := 120) (v := .agg (cs (limb M))) rfl (by kernel_rfl) (by kernel_rfl) (by kernel_rfl) (fun _ _ _ h => h) (yieldsIf_load_mid (by kernel_rfl) 24 _ rfl (w.heap.size) (0) rfl (cs (limb M)).toList _ (fun V hV => rangeOf ((hV.block _ (lt_of_block H4x.out)).trans H4x.out)) under rfl (info _)) hS ?_
                                    simp only [put_list, List.set_cons_succ, List.set_cons_zero]
                                    refine wpAnyH_ready (rs := [119]) (by kernel_rfl) (by simp) (AllReadyH.cons rfl (fun K hK => ?_) AllReadyH.nil)
                                    go_simp
                                    refine (out_any (HG1.out.below hS) X).mono ?_
                                    rintro r y27 ⟨rfl, hbc⟩
                                    refine hK.out _ _ (hS.trans (hbc.mono hS.size)) (fun hS2 => ?_)
                                    clear hbc hS
                                    have hS := hS2
                                    clear hS2
                                    clear hK K
                                    refine wpAnyH_ready (rs := [121]) (by kernel_rfl) (by simp) (AllReadyH.cons rfl (fun K hK => ?_) AllReadyH.nil)
                                    go_simp
                                    refine (HLS.out _).mono ?_
                                    rintro r y28 ⟨rfl, hbc⟩
                                    refine hK.out _ _ (hS.trans (hbc.mono hS.size)) (fun hS2 => ?_)
                                    clear hbc hS
                                    have hS := hS2
                                    clear hS2
                                    clear hK K
                                    refine wpAnyH_takeL (i := 122) (v := ?_) rfl (by kernel_rfl) (by kernel_rfl) (by kernel_rfl) (fun _ _ _ h => h) (Or.inl ⟨by kernel_rfl, ?_⟩) hS ?_
                                    rotate_left
                                    · intro V hV
                                      go_simp
                                      (try with_reducible rfl)
                                    simp only [put_list, List.set_cons_succ, List.set_cons_zero]
                                    refine wpAnyH_ready (rs := [123]) (by kernel_rfl) (by simp) (AllReadyH.cons rfl (fun K hK => ?_) AllReadyH.nil)
                                    go_simp
                                    refine hK.out _ _ hS (fun hS => ?_)
                                    clear hK K
                                    refine wpAnyH_done (by kernel_rfl) ?_ _
                                    (try simp only [put_none])
                                    have HF := hideP (HB1.out.trans (hS.mono HB1.out.size))
                                    clear hS
                                    go_wp2
                                    go_ret
                                    exact ⟨rfl, HF.out⟩

end Go.Proofs.Ytiekipkmfopdoaa.W4
