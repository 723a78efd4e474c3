/-
  A power to a sum of exponents is the product of the powers.
-/
import Derived.Test.YtiekipkmfopdoaaMay
namespace Go.Proofs.Ytiekipkmfopdoaa.W4
open Go.RowKit Go.Shelf

set_option maxRecDepth 100000 in
theorem exec_eql {ev : Operand → Value} {d : Option Nat} {x y : Operand} {A B : Array Value} {b : Bool} {ty' : Nat} {pos aft g} (hx : ev x = .agg A) (hy : ev y = .agg B) (W : World) (h : (Op.equalIn 10000 24 (.agg A) (.agg B)).run Try.prog W = .ok b W) :
    (execOp ev { dst := d, op := Op.binOp BinOp.eql 24 x y 24, type := ty', pos := pos, after := aft, guard := g }).run Try.prog W = .ok (.value (.bool b)) W := by
  unfold execOp
  simp only [hx, hy]
  have hg : (eqGuard BinOp.eql 24 x y (.agg A) (.agg B)).run Try.prog W = .ok () W := by
    unfold eqGuard
    simp [go_sem]
  simp [go_sem, hg]
  rw [h]
  rfl

theorem eq_refl_wv {X : Nat} (hX : X < R) (W : World) : (Op.equalIn 10000 24 (.agg (cs (limb X))) (.agg (cs (limb X)))).run Try.prog W = .ok true W := by
  have := eq_wv hX hX W
  rw [decide_eq_true rfl] at this
  exact this

theorem US.single {w : World} {g x : Nat} (hx : x < 18446744073709551616) (hc : w.heap[g]? = some (.cells #[.int .u64 x] 23 (0, 0))) : US w (.slice (some ⟨g, 0, none⟩) 1 1) 1 (fun _ => x) :=
  ⟨fun _ => hx, by decide, _, _, rfl, Or.inr ⟨g, rfl, lt_of_block hc, fun j hj => by
    have : j = 0 := by omega
    subst this
    exact blk_cell hc rfl⟩⟩

theorem US.two {w : World} {g x y : Nat} (hx : x < 18446744073709551616) (hy : y < 18446744073709551616) (hc : w.heap[g]? = some (.cells #[.int .u64 x, .int .u64 y] 23 (0, 0))) : US w (.slice (some ⟨g, 0, none⟩) 2 2) 2 (fun j => if j = 0 then x else y) :=
  ⟨fun j => by split <;> assumption, by decide, _, _, rfl, Or.inr ⟨g, rfl, lt_of_block hc, fun j hj => by
    match j, hj with
    | 0, _ => exact blk_cell hc rfl
    | 1, _ => exact blk_cell hc rfl
    | k + 2, h => exact absurd h (by omega)⟩⟩

theorem US.nil {w : World} : US w (.slice none 0 0) 0 (fun _ => 0) :=
  ⟨fun _ => by decide, by decide, _, _, rfl, Or.inl rfl⟩

set_option maxHeartbeats 8000000 in
set_option maxRecDepth 100000 in
theorem fieldPowers_any (M A e f : Nat) (hM : M < R) (hA : A < R) (he : e < 18446744073709551616) (hf : f < 18446744073709551616) (w : World) :
    Calls Try.prog 9 #[wv M, wv A, .int .u64 e, .int .u64 f] w fun r w' => r = .returned (.bool true) ∧ Below w.heap.size w w' := by
  have HAW := hideP awake_any
  have HM := hideP hM
  have HA := hideP hA
  by_cases hbad : M % 2 = 0 ∨ M < 3
  · have HMB := hideP (fun w => make_bad M hM hbad w)
    have HMY := hideP (fun b w h => may_bad M hbad b w h)
    clear hM hA he hf hbad
    rw [wv_lit M, wv_lit A]
    rw [wv_lit M] at HMB
    go_enter Try.func9, Try.ntmps9
    go_wp2_with fail
    refine at_world_q (fun W0 hW0 => ?_)
    have hb4 : W0.heap[w.heap.size]? = some (.cells (cs (limb M)) 24 (0, 0)) := by
      rw [hW0]
      exact (heap_old _ _ (by simp)).trans (heap_new _ _)
    have HBW : Hid (Below w.heap.size w W0) := by
      show Below _ _ _
      rw [hW0]
      repeat first | exact Below.refl _ _ | (refine Below.alloc ?_ (by simp <;> omega) _)
    clear hW0
    refine (HAW.out _).mono ?_
    rintro r w1 ⟨rfl, hb⟩
    have hb41 := (hb.block _ (lt_of_block hb4)).trans hb4
    have HB1 := hideP (HBW.out.trans (hb.mono HBW.out.size))
    obtain ⟨q0, q1, q2, q3⟩ := cells hb41
    have H41 := hideP hb41
    clear hb hb4 hb41 HBW
    go_wp2_with fail
    refine (HMB.out _).mono ?_
    rintro r w2 ⟨rfl, hb⟩
    have H42 := hideP ((hb.block _ (lt_of_block H41.out)).trans H41.out)
    have HB2 := hideP (HB1.out.trans (hb.mono HB1.out.size))
    clear hb q0 q1 q2 q3 H41 HB1
    go_wp2_with fail
    refine (HMY.out _ _ H42.out).mono ?_
    rintro r w3 ⟨rfl, rfl⟩
    go_wp2
    go_ret
    exact ⟨rfl, HB2.out⟩
  · have HMO := hideP (fun w => make_ok M hM (by omega) (by omega) w)
    have HIN : Hid (∀ w p, Good w p M → Calls Try.prog 32 #[.pointer (some ⟨p, 0, none⟩), wv A] w fun e w' => e = .returned (wv (el M A)) ∧ Below w.heap.size w w') := fun w p hg => in_any hg A HA.out
    have ewS : IntKind.u64.wrap ((e : Int) + (f : Int)) = (((e + f) % 18446744073709551616 : Nat) : Int) := by rw [IntKind.wrap_u64]; omega
    have hcS : (e + f) % 18446744073709551616 + 18446744073709551616 * ((e + f) / 18446744073709551616) = e + f := Nat.mod_add_div _ _
    have HE := hideP (And.intro he hf)
    have hlo : (e + f) % 18446744073709551616 < 18446744073709551616 := Nat.mod_lt _ (by decide)
    have hca : (e + f) / 18446744073709551616 = if (e + f) % 18446744073709551616 < e then 1 else 0 := by
      split <;> omega
    generalize hlow : (e + f) % 18446744073709551616 = low at *
    generalize hcar : (e + f) / 18446744073709551616 = car at *
    have HS : Hid (low + 18446744073709551616 * car = e + f ∧ low < 18446744073709551616) := ⟨hcS, hlo⟩
    have HCAR : Hid (car < 18446744073709551616) := by
      show car < 18446744073709551616
      rw [hca]
      split <;> decide
    clear hM hA he hf hbad hcS hlo hlow hcar
    rw [wv_lit M, wv_lit A]
    rw [wv_lit M] at HMO
    rw [wv_lit A, wv_lit (el M A)] at HIN
    go_enter Try.func9, Try.ntmps9
    go_wp2_with fail
    refine at_world_q (fun W0 hW0 => ?_)
    have hb4 : W0.heap[w.heap.size]? = some (.cells (cs (limb M)) 24 (0, 0)) := by
      rw [hW0]
      exact (heap_old _ _ (by simp)).trans (heap_new _ _)
    have hb5 : W0.heap[w.heap.size + 1]? = some (.cells (cs (limb A)) 24 (0, 0)) := by
      rw [hW0]
      exact heap_new1 _ _ _
    have HBW : Hid (Below w.heap.size w W0) := by
      show Below _ _ _
      rw [hW0]
      repeat first | exact Below.refl _ _ | (refine Below.alloc ?_ (by simp <;> omega) _)
    clear hW0
    refine (HAW.out _).mono ?_
    rintro r w1 ⟨rfl, hb⟩
    have hb41 := (hb.block _ (lt_of_block hb4)).trans hb4
    have H51 := hideP ((hb.block _ (lt_of_block hb5)).trans hb5)
    have HB1 := hideP (HBW.out.trans (hb.mono HBW.out.size))
    obtain ⟨q0, q1, q2, q3⟩ := cells hb41
    clear hb hb4 hb5 hb41 HBW
    go_wp2_with fail
    refine (HMO.out _).mono ?_
    rintro r w2 ⟨p, rfl, hp, hG, hb⟩
    have H52 := hideP ((hb.block _ (lt_of_block H51.out)).trans H51.out)
    have HB2 := hideP (HB1.out.trans (hb.mono HB1.out.size))
    have HG2 := hideP hG
    obtain ⟨r0, r1, r2, r3⟩ := cells H52.out
    clear hb q0 q1 q2 q3 H51 HB1 hG hp
    go_wp2_with fail
    refine (HIN.out _ _ HG2.out).mono ?_
    rintro r w3 ⟨rfl, hb⟩
    have HB3 := hideP (HB2.out.trans (hb.mono HB2.out.size))
    have HG3 := hideP (HG2.out.below hb)
    clear hb r0 r1 r2 r3 H52 HB2 HG2 HIN HMO HAW
    rename_i Q' KA hKA KB hKB
    have HKA := hideP hKA
    clear hKA
    go_wp2_with fail
    refine HKA.out _ _ ?_
    refine wp_seqH (fun K7 HK7 => ?_)
    go_wp2_with fail
    refine HK7.out _ _ ?_
    refine wp_seqH (fun K1 HK1 => ?_)
    have HALL : Hid (∀ (x36 x37 x38 : Value) (W1 : World), W1.heap[w3.heap.size]? = some (.cells (cs (limb (el M A))) 24 (0, 0)) → W1.heap[w3.heap.size + 1]? = some (.cells #[.int .u64 low, .int .u64 car] 23 (0, 0)) → Below w3.heap.size w3 W1 →
        K1 { tmps := #[.agg #[.int .u64 (limb M 0), .int .u64 (limb M 1), .int .u64 (limb M 2), .int .u64 (limb M 3)], .agg #[.int .u64 (limb A 0), .int .u64 (limb A 1), .int .u64 (limb A 2), .int .u64 (limb A 3)], .int .u64 e, .int .u64 f, .pointer (some ⟨w.heap.size, 0, none⟩), .pointer (some ⟨w.heap.size + 1, 0, none⟩), undef, undef, .bool false, .pointer (some ⟨p, 0, none⟩), .int .i64 0, .pointer (some ⟨w3.heap.size, 0, none⟩), .slice (some ⟨w3.heap.size + 1, 0, none⟩) 2 2, .bool true, .bool false, .tuple #[.pointer (some ⟨p, 0, none⟩), .int .i64 0], .agg #[.int .u64 (limb M 0), .int .u64 (limb M 1), .int .u64 (limb M 2), .int .u64 (limb M 3)], .tuple #[.pointer (some ⟨p, 0, none⟩), .int .i64 0], .pointer (some ⟨p, 0, none⟩), .int .i64 0, .int .i64 0, .bool false, undef, undef, undef, .pointer (some ⟨p, 0, none⟩), .agg #[.int .u64 (limb A 0), .int .u64 (limb A 1), .int .u64 (limb A 2), .int .u64 (limb A 3)], .agg #[.int .u64 (limb (el M A) 0), .int .u64 (limb (el M A) 1), .int .u64 (limb (el M A) 2), .int .u64 (limb (el M A) 3)], .int .u64 e, .int .u64 f, .int .u64 low, .slice (some ⟨w3.heap.size + 1, 0, none⟩) 2 2, .int .u64 e, .int .u64 f, .int .u64 low, .int .u64 e, x36, x37, x38, undef, undef, undef, undef, undef, undef, undef, undef, undef, undef, undef, undef, undef, undef, undef, undef, undef, undef, undef, undef, undef, undef, undef, undef, undef, undef, undef, undef, undef, undef, undef, undef, undef, undef], defers := [] } W1) := by
      intro x36 x37 x38 W1 hX1 hR1 hbW
      have HGW := hideP (HG3.out.below hbW)
      have HBW := hideP (HB3.out.trans (hbW.mono HB3.out.size))
      have HX1 := hideP hX1
      have HR1 := hideP hR1
      generalize w3.heap.size = bx at *
      clear hbW hX1 hR1 HB3 HG3
      obtain ⟨f0, hMF, _⟩ := HGW.out.ex
      have HMF := hideP hMF
      clear hMF
      refine HK1.out _ _ ?_
      refine wp_seqH (fun K9 HK9 => ?_)
      clear HK1 HK7 HKA
      refine wp_region_heldS (S := fun V => Below W1.heap.size W1 V) (by kernel_rfl) ((Below.refl _ _).drew) (fun hS => ?_)
      refine wpAnyH_takeL (i := 0) (v := ?_) rfl (by kernel_rfl) (by kernel_rfl) (by kernel_rfl) (fun _ _ _ h => h) (Or.inl ⟨by kernel_rfl, ?_⟩) hS ?_
      rotate_left
      · intro V hV
        go_simp
        (try with_reducible rfl)
      simp only [put_list, List.set_cons_succ, List.set_cons_zero]
      refine wpAnyH_takeL (i := 1) (v := ?_) rfl (by kernel_rfl) (by kernel_rfl) (by kernel_rfl) (fun _ _ _ h => h) (Or.inl ⟨by kernel_rfl, ?_⟩) hS ?_
      rotate_left
      · intro V hV
        go_simp
        (try with_reducible rfl)
      simp only [put_list, List.set_cons_succ, List.set_cons_zero]
      refine wpAnyH_takeL (i := 2) (v := .agg (cs (limb (el M A)))) rfl (by kernel_rfl) (by kernel_rfl) (by kernel_rfl) (fun _ _ _ h => h) (yieldsIf_load_mid (by kernel_rfl) 24 _ rfl (bx) (0) rfl (cs (limb (el M A))).toList _ (fun V hV => rangeOf ((hV.block _ (lt_of_block HX1.out)).trans HX1.out)) under rfl (info _)) hS ?_
      simp only [put_list, List.set_cons_succ, List.set_cons_zero]
      refine wpAnyH_takeL (i := 3) (v := ?_) rfl (by kernel_rfl) (by kernel_rfl) (by kernel_rfl) (fun _ _ _ h => h) (Or.inl ⟨by kernel_rfl, ?_⟩) hS ?_
      rotate_left
      · intro V hV
        go_simp
        (try with_reducible rfl)
      simp only [put_list, List.set_cons_succ, List.set_cons_zero]
      refine wpAnyH_takeL (i := 6) (v := ?_) rfl (by kernel_rfl) (by kernel_rfl) (by kernel_rfl) (fun _ _ _ h => h) (Or.inl ⟨by kernel_rfl, ?_⟩) hS ?_
      rotate_left
      · intro V hV
        go_simp
        (try with_reducible rfl)
      simp only [put_list, List.set_cons_succ, List.set_cons_zero]
      refine wpAnyH_takeL (i := 7) (v := .agg (cs (limb (el M A)))) rfl (by kernel_rfl) (by kernel_rfl) (by kernel_rfl) (fun _ _ _ h => h) (yieldsIf_load_mid (by kernel_rfl) 24 _ rfl (bx) (0) rfl (cs (limb (el M A))).toList _ (fun V hV => rangeOf ((hV.block _ (lt_of_block HX1.out)).trans HX1.out)) under rfl (info _)) hS ?_
      simp only [put_list, List.set_cons_succ, List.set_cons_zero]
      refine wpAnyH_takeL (i := 8) (v := ?_) rfl (by kernel_rfl) (by kernel_rfl) (by kernel_rfl) (fun _ _ _ h => h) (Or.inl ⟨by kernel_rfl, ?_⟩) hS ?_
      rotate_left
      · intro V hV
        go_simp
        (try with_reducible rfl)
      simp only [put_list, List.set_cons_succ, List.set_cons_zero]
      refine wpAnyH_takeL (i := 12) (v := ?_) rfl (by kernel_rfl) (by kernel_rfl) (by kernel_rfl) (fun _ _ _ h => h) (Or.inl ⟨by kernel_rfl, ?_⟩) hS ?_
      rotate_left
      · intro V hV
        go_simp
        (try with_reducible rfl)
      simp only [put_list, List.set_cons_succ, List.set_cons_zero]
      refine wpAnyH_takeL (i := 13) (v := .agg (cs (limb (el M A)))) rfl (by kernel_rfl) (by kernel_rfl) (by kernel_rfl) (fun _ _ _ h => h) (yieldsIf_load_mid (by kernel_rfl) 24 _ rfl (bx) (0) rfl (cs (limb (el M A))).toList _ (fun V hV => rangeOf ((hV.block _ (lt_of_block HX1.out)).trans HX1.out)) under rfl (info _)) hS ?_
      simp only [put_list, List.set_cons_succ, List.set_cons_zero]
      refine wpAnyH_takeL (i := 14) (v := ?_) rfl (by kernel_rfl) (by kernel_rfl) (by kernel_rfl) (fun _ _ _ h => h) (Or.inl ⟨by kernel_rfl, ?_⟩) hS ?_
      rotate_left
      · intro V hV
        go_simp
        (try with_reducible rfl)
      simp only [put_list, List.set_cons_succ, List.set_cons_zero]
      refine wpAnyH_ready (rs := [4, 9]) (by kernel_rfl) (by simp) (AllReadyH.cons rfl (fun K hK => ?_) (AllReadyH.cons rfl (fun K hK => ?_) AllReadyH.nil))
      · go_simp
        refine hK.out _ _ (hS.alloc hS.size _) (fun hS2 => ?_)
        clear hK K
        refine at_worldH (fun z1 hw2 => ?_)
        have h4 : z1.heap[W1.heap.size]? = some (.cells #[.int .u64 e] 23 (0, 0)) := by rw [hw2]; exact heap_new _ _
        rw [← hw2] at hS2
        have hbx : Below W1.heap.size W1 z1 := by rw [hw2]; first | exact (Below.refl _ _).alloc (Nat.le_refl _) _ | exact ((Below.refl _ _).alloc (Nat.le_refl _) _).drew
        clear hw2 hS
        have hS := hS2
        clear hS2
        clear hbx
        refine wpAnyH_ready (rs := [5, 9]) (by kernel_rfl) (by simp) (AllReadyH.cons rfl (fun K hK => ?_) (AllReadyH.cons rfl (fun K hK => ?_) AllReadyH.nil))
        · go_simp
          have HEX := hideP (exp_any (HGW.out.below hS) A (.slice (some ⟨W1.heap.size, 0, none⟩) 1 1) 1 (fun _ => e) (US.single HE.out.1 h4))
          rw [show A ^ val (fun _ => e) 1 = A ^ e by simp [val]] at HEX
          unfold wv at HEX
          refine (HEX.out).mono ?_
          rintro r z2 ⟨rfl, hbc⟩
          refine hK.out _ _ (hS.trans (hbc.mono hS.size)) (fun hS2 => ?_)
          clear hK K hbc hS
          have hS := hS2
          clear hS2
          refine wpAnyH_ready (rs := [9]) (by kernel_rfl) (by simp) (AllReadyH.cons rfl (fun K hK => ?_) AllReadyH.nil)
          go_simp
          refine hK.out _ _ (hS.alloc hS.size _) (fun hS2 => ?_)
          clear hK K
          refine at_worldH (fun z3 hw2 => ?_)
          have h9 : z3.heap[z2.heap.size]? = some (.cells #[.int .u64 f] 23 (0, 0)) := by rw [hw2]; exact heap_new _ _
          rw [← hw2] at hS2
          have hbx : Below z2.heap.size z2 z3 := by rw [hw2]; first | exact (Below.refl _ _).alloc (Nat.le_refl _) _ | exact ((Below.refl _ _).alloc (Nat.le_refl _) _).drew
          clear hw2 hS
          have hS := hS2
          clear hS2
          clear hbx
          refine wpAnyH_ready (rs := [10]) (by kernel_rfl) (by simp) (AllReadyH.cons rfl (fun K hK => ?_) AllReadyH.nil)
          go_simp
          have HF := hideP (exp_any (HGW.out.below hS) A (.slice (some ⟨z2.heap.size, 0, none⟩) 1 1) 1 (fun _ => f) (US.single HE.out.2 h9))
          rw [show A ^ val (fun _ => f) 1 = A ^ f by simp [val]] at HF
          unfold wv at HF
          refine (HF.out).mono ?_
          rintro r y1 ⟨rfl, hbc⟩
          refine hK.out _ _ (hS.trans (hbc.mono hS.size)) (fun hS2 => ?_)
          clear hK K hbc hS
          have hS := hS2
          clear hS2
          refine wpAnyH_ready (rs := [11]) (by kernel_rfl) (by simp) (AllReadyH.cons rfl (fun K hK => ?_) AllReadyH.nil)
          go_simp
          have HMU := hideP (mulM_any (HGW.out.below hS) (A ^ e) (A ^ f))
          rw [← Nat.pow_add] at HMU
          unfold wv at HMU
          refine (HMU.out).mono ?_
          rintro r y2 ⟨rfl, hbc⟩
          refine hK.out _ _ (hS.trans (hbc.mono hS.size)) (fun hS2 => ?_)
          clear hK K hbc hS
          have hS := hS2
          clear hS2
          refine wpAnyH_ready (rs := [15]) (by kernel_rfl) (by simp) (AllReadyH.cons rfl (fun K hK => ?_) AllReadyH.nil)
          go_simp
          have HSU := hideP (exp_any (HGW.out.below hS) A (.slice (some ⟨bx + 1, 0, none⟩) 2 2) 2 (fun j => if j = 0 then low else car) (US.two HS.out.2 HCAR.out ((hS.block _ (lt_of_block HR1.out)).trans HR1.out)))
          rw [show A ^ val (fun j => if j = 0 then low else car) 2 = A ^ (e + f) by rw [← HS.out.1]; simp [val, Nat.mul_comm]] at HSU
          unfold wv at HSU
          refine (HSU.out).mono ?_
          rintro r y3 ⟨rfl, hbc⟩
          refine hK.out _ _ (hS.trans (hbc.mono hS.size)) (fun hS2 => ?_)
          clear hK K hbc hS
          have hS := hS2
          clear hS2
          refine wpAnyH_takeL (i := 16) (v := .bool true) rfl (by kernel_rfl) (by kernel_rfl) (by kernel_rfl) (fun _ _ _ h => h) (Or.inl ⟨by kernel_rfl, ?_⟩) hS ?_
          · intro V hV
            exact exec_eql rfl rfl V (eq_refl_wv (X := el M (A ^ (e + f))) (el_ltR HMF.out _) V)
          simp only [put_list, List.set_cons_succ, List.set_cons_zero]
          refine wpAnyH_takeL (i := 17) (v := ?_) rfl (by kernel_rfl) (by kernel_rfl) (by kernel_rfl) (fun _ _ _ h => h) (Or.inl ⟨by kernel_rfl, ?_⟩) hS ?_
          rotate_left
          · intro V hV
            go_simp
            (try with_reducible rfl)
          simp only [put_list, List.set_cons_succ, List.set_cons_zero]
          refine wpAnyH_takeL (i := 18) (v := ?_) rfl (by kernel_rfl) (by kernel_rfl) (by kernel_rfl) (fun _ _ _ h => h) (Or.inl ⟨by kernel_rfl, ?_⟩) hS ?_
          rotate_left
          · intro V hV
            go_simp
            (try with_reducible rfl)
          simp only [put_list, List.set_cons_succ, List.set_cons_zero]
          refine wpAnyH_takeL (i := 19) (v := .agg (cs (limb (el M A)))) rfl (by kernel_rfl) (by kernel_rfl) (by kernel_rfl) (fun _ _ _ h => h) (yieldsIf_load_mid (by kernel_rfl) 24 _ rfl (bx) (0) rfl (cs (limb (el M A))).toList _ (fun V hV => rangeOf ((hV.block _ (lt_of_block HX1.out)).trans HX1.out)) under rfl (info _)) hS ?_
          simp only [put_list, List.set_cons_succ, List.set_cons_zero]
          refine wpAnyH_takeL (i := 21) (v := ?_) rfl (by kernel_rfl) (by kernel_rfl) (by kernel_rfl) (fun _ _ _ h => h) (Or.inl ⟨by kernel_rfl, ?_⟩) hS ?_
          rotate_left
          · intro V hV
            go_simp
            (try with_reducible rfl)
          simp only [put_list, List.set_cons_succ, List.set_cons_zero]
          refine wpAnyH_takeL (i := 22) (v := ?_) rfl (by kernel_rfl) (by kernel_rfl) (by kernel_rfl) (fun _ _ _ h => h) (Or.inl ⟨by kernel_rfl, ?_⟩) hS ?_
          rotate_left
          · intro V hV
            go_simp
            (try with_reducible rfl)
          simp only [put_list, List.set_cons_succ, List.set_cons_zero]
          refine wpAnyH_ready (rs := [20]) (by kernel_rfl) (by simp) (AllReadyH.cons rfl (fun K hK => ?_) AllReadyH.nil)
          go_simp
          have HNI := hideP (exp_any (HGW.out.below hS) A (.slice none 0 0) 0 (fun _ => 0) US.nil)
          rw [show A ^ val (fun _ => 0) 0 = 1 by simp [val]] at HNI
          unfold wv at HNI
          refine (HNI.out).mono ?_
          rintro r y4 ⟨rfl, hbc⟩
          refine hK.out _ _ (hS.trans (hbc.mono hS.size)) (fun hS2 => ?_)
          clear hK K hbc hS
          have hS := hS2
          clear hS2
          have HI1 : Hid (∀ w p, Good w p M → Calls Try.prog 32 #[.pointer (some ⟨p, 0, none⟩), .agg #[.int .u64 (1 : Int), .int .u64 (0 : Int), .int .u64 (0 : Int), .int .u64 (0 : Int)]] w fun e w' => e = .returned (.agg (cs (limb (el M 1)))) ∧ Below w.heap.size w w') := fun w p hg => by
            have := in_any hg 1 (by decide)
            rw [lit4 (by decide)] at this
            exact this
          refine wpAnyH_ready (rs := [23]) (by kernel_rfl) (by simp) (AllReadyH.cons rfl (fun K hK => ?_) AllReadyH.nil)
          go_simp
          refine (HI1.out _ _ (HGW.out.below hS)).mono ?_
          rintro r y5 ⟨rfl, hbc⟩
          refine hK.out _ _ (hS.trans (hbc.mono hS.size)) (fun hS2 => ?_)
          clear hK K hbc hS
          have hS := hS2
          clear hS2
          refine wpAnyH_takeL (i := 24) (v := .bool true) rfl (by kernel_rfl) (by kernel_rfl) (by kernel_rfl) (fun _ _ _ h => h) (Or.inl ⟨by kernel_rfl, ?_⟩) hS ?_
          · intro V hV
            exact exec_eql rfl rfl V (eq_refl_wv (X := el M 1) (el_ltR HMF.out _) V)
          simp only [put_list, List.set_cons_succ, List.set_cons_zero]
          refine wpAnyH_takeL (i := 25) (v := ?_) rfl (by kernel_rfl) (by kernel_rfl) (by kernel_rfl) (fun _ _ _ h => h) (Or.inl ⟨by kernel_rfl, ?_⟩) hS ?_
          rotate_left
          · intro V hV
            go_simp
            (try with_reducible rfl)
          simp only [put_list, List.set_cons_succ, List.set_cons_zero]
          refine wpAnyH_takeL (i := 26) (v := ?_) rfl (by kernel_rfl) (by kernel_rfl) (by kernel_rfl) (fun _ _ _ h => h) (Or.inl ⟨by kernel_rfl, ?_⟩) hS ?_
          rotate_left
          · intro V hV
            go_simp
            (try with_reducible rfl)
          simp only [put_list, List.set_cons_succ, List.set_cons_zero]
          refine wpAnyH_takeL (i := 27) (v := ?_) rfl (by kernel_rfl) (by kernel_rfl) (by kernel_rfl) (fun _ _ _ h => h) (Or.inl ⟨by kernel_rfl, ?_⟩) hS ?_
          rotate_left
          · intro V hV
            go_simp
            (try with_reducible rfl)
          simp only [put_list, List.set_cons_succ, List.set_cons_zero]
          refine wpAnyH_takeL (i := 28) (v := .agg (cs (limb (el M A)))) rfl (by kernel_rfl) (by kernel_rfl) (by kernel_rfl) (fun _ _ _ h => h) (yieldsIf_load_mid (by kernel_rfl) 24 _ rfl (bx) (0) rfl (cs (limb (el M A))).toList _ (fun V hV => rangeOf ((hV.block _ (lt_of_block HX1.out)).trans HX1.out)) under rfl (info _)) hS ?_
          simp only [put_list, List.set_cons_succ, List.set_cons_zero]
          refine wpAnyH_takeL (i := 31) (v := .agg (cs (limb (el M A)))) rfl (by kernel_rfl) (by kernel_rfl) (by kernel_rfl) (fun _ _ _ h => h) (yieldsIf_load_mid (by kernel_rfl) 24 _ rfl (bx) (0) rfl (cs (limb (el M A))).toList _ (fun V hV => rangeOf ((hV.block _ (lt_of_block HX1.out)).trans HX1.out)) under rfl (info _)) hS ?_
          simp only [put_list, List.set_cons_succ, List.set_cons_zero]
          refine wpAnyH_ready (rs := [29]) (by kernel_rfl) (by simp) (AllReadyH.cons rfl (fun K hK => ?_) AllReadyH.nil)
          go_simp
          refine hK.out _ _ (hS.alloc hS.size _) (fun hS2 => ?_)
          clear hK K
          refine at_worldH (fun y6 hw2 => ?_)
          have h29 : y6.heap[y5.heap.size]? = some (.cells #[.int .u64 ((1 : Nat) : Int)] 23 (0, 0)) := by rw [hw2]; exact heap_new _ _
          rw [← hw2] at hS2
          have hbx : Below y5.heap.size y5 y6 := by rw [hw2]; first | exact (Below.refl _ _).alloc (Nat.le_refl _) _ | exact ((Below.refl _ _).alloc (Nat.le_refl _) _).drew
          clear hw2 hS
          have hS := hS2
          clear hS2
          clear hbx
          refine wpAnyH_ready (rs := [30]) (by kernel_rfl) (by simp) (AllReadyH.cons rfl (fun K hK => ?_) AllReadyH.nil)
          go_simp
          have HO1 := hideP (exp_any (HGW.out.below hS) A (.slice (some ⟨y5.heap.size, 0, none⟩) 1 1) 1 (fun _ => 1) (US.single (by decide) h29))
          rw [show A ^ val (fun _ => 1) 1 = A by simp [val]] at HO1
          unfold wv at HO1
          refine (HO1.out).mono ?_
          rintro r y7 ⟨rfl, hbc⟩
          refine hK.out _ _ (hS.trans (hbc.mono hS.size)) (fun hS2 => ?_)
          clear hK K hbc hS
          have hS := hS2
          clear hS2
          refine wpAnyH_takeL (i := 32) (v := .bool true) rfl (by kernel_rfl) (by kernel_rfl) (by kernel_rfl) (fun _ _ _ h => h) (Or.inl ⟨by kernel_rfl, ?_⟩) hS ?_
          · intro V hV
            exact exec_eql rfl rfl V (eq_refl_wv (X := el M A) (el_ltR HMF.out _) V)
          simp only [put_list, List.set_cons_succ, List.set_cons_zero]
          refine wpAnyH_takeL (i := 33) (v := ?_) rfl (by kernel_rfl) (by kernel_rfl) (by kernel_rfl) (fun _ _ _ h => h) (Or.inl ⟨by kernel_rfl, ?_⟩) hS ?_
          rotate_left
          · intro V hV
            go_simp
            (try with_reducible rfl)
          simp only [put_list, List.set_cons_succ, List.set_cons_zero]
          refine wpAnyH_ready (rs := [34]) (by kernel_rfl) (by simp) (AllReadyH.cons rfl (fun K hK => ?_) AllReadyH.nil)
          go_simp
          refine hK.out _ _ hS (fun hS => ?_)
          clear hK K
          refine wpAnyH_done (by kernel_rfl) ?_ _
          (try simp only [put_none])
          refine HK9.out _ _ ?_
          have HFIN := hideP (HBW.out.trans (hS.mono HBW.out.size))
          clear hS
          go_wp2
          go_ret
          exact ⟨rfl, HFIN.out⟩
        · go_simp
          refine hK.out _ _ (hS.alloc hS.size _) (fun hS2 => ?_)
          clear hK K
          refine at_worldH (fun z2 hw2 => ?_)
          have h9 : z2.heap[z1.heap.size]? = some (.cells #[.int .u64 f] 23 (0, 0)) := by rw [hw2]; exact heap_new _ _
          rw [← hw2] at hS2
          have hbx : Below z1.heap.size z1 z2 := by rw [hw2]; first | exact (Below.refl _ _).alloc (Nat.le_refl _) _ | exact ((Below.refl _ _).alloc (Nat.le_refl _) _).drew
          clear hw2 hS
          have hS := hS2
          clear hS2
          have h4b := (hbx.block _ (lt_of_block h4)).trans h4
          clear hbx h4
          refine wpAnyH_ready (rs := [5]) (by kernel_rfl) (by simp) (AllReadyH.cons rfl (fun K hK => ?_) AllReadyH.nil)
          go_simp
          have HEX := hideP (exp_any (HGW.out.below hS) A (.slice (some ⟨W1.heap.size, 0, none⟩) 1 1) 1 (fun _ => e) (US.single HE.out.1 h4b))
          rw [show A ^ val (fun _ => e) 1 = A ^ e by simp [val]] at HEX
          unfold wv at HEX
          refine (HEX.out).mono ?_
          rintro r z3 ⟨rfl, hbc⟩
          have h9b := (hbc.block _ (lt_of_block h9)).trans h9
          refine hK.out _ _ (hS.trans (hbc.mono hS.size)) (fun hS2 => ?_)
          clear hK K hbc hS
          have hS := hS2
          clear hS2
          refine wpAnyH_ready (rs := [10]) (by kernel_rfl) (by simp) (AllReadyH.cons rfl (fun K hK => ?_) AllReadyH.nil)
          go_simp
          have HF := hideP (exp_any (HGW.out.below hS) A (.slice (some ⟨z1.heap.size, 0, none⟩) 1 1) 1 (fun _ => f) (US.single HE.out.2 h9b))
          rw [show A ^ val (fun _ => f) 1 = A ^ f by simp [val]] at HF
          unfold wv at HF
          refine (HF.out).mono ?_
          rintro r y1 ⟨rfl, hbc⟩
          refine hK.out _ _ (hS.trans (hbc.mono hS.size)) (fun hS2 => ?_)
          clear hK K hbc hS
          have hS := hS2
          clear hS2
          refine wpAnyH_ready (rs := [11]) (by kernel_rfl) (by simp) (AllReadyH.cons rfl (fun K hK => ?_) AllReadyH.nil)
          go_simp
          have HMU := hideP (mulM_any (HGW.out.below hS) (A ^ e) (A ^ f))
          rw [← Nat.pow_add] at HMU
          unfold wv at HMU
          refine (HMU.out).mono ?_
          rintro r y2 ⟨rfl, hbc⟩
          refine hK.out _ _ (hS.trans (hbc.mono hS.size)) (fun hS2 => ?_)
          clear hK K hbc hS
          have hS := hS2
          clear hS2
          refine wpAnyH_ready (rs := [15]) (by kernel_rfl) (by simp) (AllReadyH.cons rfl (fun K hK => ?_) AllReadyH.nil)
          go_simp
          have HSU := hideP (exp_any (HGW.out.below hS) A (.slice (some ⟨bx + 1, 0, none⟩) 2 2) 2 (fun j => if j = 0 then low else car) (US.two HS.out.2 HCAR.out ((hS.block _ (lt_of_block HR1.out)).trans HR1.out)))
          rw [show A ^ val (fun j => if j = 0 then low else car) 2 = A ^ (e + f) by rw [← HS.out.1]; simp [val, Nat.mul_comm]] at HSU
          unfold wv at HSU
          refine (HSU.out).mono ?_
          rintro r y3 ⟨rfl, hbc⟩
          refine hK.out _ _ (hS.trans (hbc.mono hS.size)) (fun hS2 => ?_)
          clear hK K hbc hS
          have hS := hS2
          clear hS2
          refine wpAnyH_takeL (i := 16) (v := .bool true) rfl (by kernel_rfl) (by kernel_rfl) (by kernel_rfl) (fun _ _ _ h => h) (Or.inl ⟨by kernel_rfl, ?_⟩) hS ?_
          · intro V hV
            exact exec_eql rfl rfl V (eq_refl_wv (X := el M (A ^ (e + f))) (el_ltR HMF.out _) V)
          simp only [put_list, List.set_cons_succ, List.set_cons_zero]
          refine wpAnyH_takeL (i := 17) (v := ?_) rfl (by kernel_rfl) (by kernel_rfl) (by kernel_rfl) (fun _ _ _ h => h) (Or.inl ⟨by kernel_rfl, ?_⟩) hS ?_
          rotate_left
          · intro V hV
            go_simp
            (try with_reducible rfl)
          simp only [put_list, List.set_cons_succ, List.set_cons_zero]
          refine wpAnyH_takeL (i := 18) (v := ?_) rfl (by kernel_rfl) (by kernel_rfl) (by kernel_rfl) (fun _ _ _ h => h) (Or.inl ⟨by kernel_rfl, ?_⟩) hS ?_
          rotate_left
          · intro V hV
            go_simp
            (try with_reducible rfl)
          simp only [put_list, List.set_cons_succ, List.set_cons_zero]
          refine wpAnyH_takeL (i := 19) (v := .agg (cs (limb (el M A)))) rfl (by kernel_rfl) (by kernel_rfl) (by kernel_rfl) (fun _ _ _ h => h) (yieldsIf_load_mid (by kernel_rfl) 24 _ rfl (bx) (0) rfl (cs (limb (el M A))).toList _ (fun V hV => rangeOf ((hV.block _ (lt_of_block HX1.out)).trans HX1.out)) under rfl (info _)) hS ?_
          simp only [put_list, List.set_cons_succ, List.set_cons_zero]
          refine wpAnyH_takeL (i := 21) (v := ?_) rfl (by kernel_rfl) (by kernel_rfl) (by kernel_rfl) (fun _ _ _ h => h) (Or.inl ⟨by kernel_rfl, ?_⟩) hS ?_
          rotate_left
          · intro V hV
            go_simp
            (try with_reducible rfl)
          simp only [put_list, List.set_cons_succ, List.set_cons_zero]
          refine wpAnyH_takeL (i := 22) (v := ?_) rfl (by kernel_rfl) (by kernel_rfl) (by kernel_rfl) (fun _ _ _ h => h) (Or.inl ⟨by kernel_rfl, ?_⟩) hS ?_
          rotate_left
          · intro V hV
            go_simp
            (try with_reducible rfl)
          simp only [put_list, List.set_cons_succ, List.set_cons_zero]
          refine wpAnyH_ready (rs := [20]) (by kernel_rfl) (by simp) (AllReadyH.cons rfl (fun K hK => ?_) AllReadyH.nil)
          go_simp
          have HNI := hideP (exp_any (HGW.out.below hS) A (.slice none 0 0) 0 (fun _ => 0) US.nil)
          rw [show A ^ val (fun _ => 0) 0 = 1 by simp [val]] at HNI
          unfold wv at HNI
          refine (HNI.out).mono ?_
          rintro r y4 ⟨rfl, hbc⟩
          refine hK.out _ _ (hS.trans (hbc.mono hS.size)) (fun hS2 => ?_)
          clear hK K hbc hS
          have hS := hS2
          clear hS2
          have HI1 : Hid (∀ w p, Good w p M → Calls Try.prog 32 #[.pointer (some ⟨p, 0, none⟩), .agg #[.int .u64 (1 : Int), .int .u64 (0 : Int), .int .u64 (0 : Int), .int .u64 (0 : Int)]] w fun e w' => e = .returned (.agg (cs (limb (el M 1)))) ∧ Below w.heap.size w w') := fun w p hg => by
            have := in_any hg 1 (by decide)
            rw [lit4 (by decide)] at this
            exact this
          refine wpAnyH_ready (rs := [23]) (by kernel_rfl) (by simp) (AllReadyH.cons rfl (fun K hK => ?_) AllReadyH.nil)
          go_simp
          refine (HI1.out _ _ (HGW.out.below hS)).mono ?_
          rintro r y5 ⟨rfl, hbc⟩
          refine hK.out _ _ (hS.trans (hbc.mono hS.size)) (fun hS2 => ?_)
          clear hK K hbc hS
          have hS := hS2
          clear hS2
          refine wpAnyH_takeL (i := 24) (v := .bool true) rfl (by kernel_rfl) (by kernel_rfl) (by kernel_rfl) (fun _ _ _ h => h) (Or.inl ⟨by kernel_rfl, ?_⟩) hS ?_
          · intro V hV
            exact exec_eql rfl rfl V (eq_refl_wv (X := el M 1) (el_ltR HMF.out _) V)
          simp only [put_list, List.set_cons_succ, List.set_cons_zero]
          refine wpAnyH_takeL (i := 25) (v := ?_) rfl (by kernel_rfl) (by kernel_rfl) (by kernel_rfl) (fun _ _ _ h => h) (Or.inl ⟨by kernel_rfl, ?_⟩) hS ?_
          rotate_left
          · intro V hV
            go_simp
            (try with_reducible rfl)
          simp only [put_list, List.set_cons_succ, List.set_cons_zero]
          refine wpAnyH_takeL (i := 26) (v := ?_) rfl (by kernel_rfl) (by kernel_rfl) (by kernel_rfl) (fun _ _ _ h => h) (Or.inl ⟨by kernel_rfl, ?_⟩) hS ?_
          rotate_left
          · intro V hV
            go_simp
            (try with_reducible rfl)
          simp only [put_list, List.set_cons_succ, List.set_cons_zero]
          refine wpAnyH_takeL (i := 27) (v := ?_) rfl (by kernel_rfl) (by kernel_rfl) (by kernel_rfl) (fun _ _ _ h => h) (Or.inl ⟨by kernel_rfl, ?_⟩) hS ?_
          rotate_left
          · intro V hV
            go_simp
            (try with_reducible rfl)
          simp only [put_list, List.set_cons_succ, List.set_cons_zero]
          refine wpAnyH_takeL (i := 28) (v := .agg (cs (limb (el M A)))) rfl (by kernel_rfl) (by kernel_rfl) (by kernel_rfl) (fun _ _ _ h => h) (yieldsIf_load_mid (by kernel_rfl) 24 _ rfl (bx) (0) rfl (cs (limb (el M A))).toList _ (fun V hV => rangeOf ((hV.block _ (lt_of_block HX1.out)).trans HX1.out)) under rfl (info _)) hS ?_
          simp only [put_list, List.set_cons_succ, List.set_cons_zero]
          refine wpAnyH_takeL (i := 31) (v := .agg (cs (limb (el M A)))) rfl (by kernel_rfl) (by kernel_rfl) (by kernel_rfl) (fun _ _ _ h => h) (yieldsIf_load_mid (by kernel_rfl) 24 _ rfl (bx) (0) rfl (cs (limb (el M A))).toList _ (fun V hV => rangeOf ((hV.block _ (lt_of_block HX1.out)).trans HX1.out)) under rfl (info _)) hS ?_
          simp only [put_list, List.set_cons_succ, List.set_cons_zero]
          refine wpAnyH_ready (rs := [29]) (by kernel_rfl) (by simp) (AllReadyH.cons rfl (fun K hK => ?_) AllReadyH.nil)
          go_simp
          refine hK.out _ _ (hS.alloc hS.size _) (fun hS2 => ?_)
          clear hK K
          refine at_worldH (fun y6 hw2 => ?_)
          have h29 : y6.heap[y5.heap.size]? = some (.cells #[.int .u64 ((1 : Nat) : Int)] 23 (0, 0)) := by rw [hw2]; exact heap_new _ _
          rw [← hw2] at hS2
          have hbx : Below y5.heap.size y5 y6 := by rw [hw2]; first | exact (Below.refl _ _).alloc (Nat.le_refl _) _ | exact ((Below.refl _ _).alloc (Nat.le_refl _) _).drew
          clear hw2 hS
          have hS := hS2
          clear hS2
          clear hbx
          refine wpAnyH_ready (rs := [30]) (by kernel_rfl) (by simp) (AllReadyH.cons rfl (fun K hK => ?_) AllReadyH.nil)
          go_simp
          have HO1 := hideP (exp_any (HGW.out.below hS) A (.slice (some ⟨y5.heap.size, 0, none⟩) 1 1) 1 (fun _ => 1) (US.single (by decide) h29))
          rw [show A ^ val (fun _ => 1) 1 = A by simp [val]] at HO1
          unfold wv at HO1
          refine (HO1.out).mono ?_
          rintro r y7 ⟨rfl, hbc⟩
          refine hK.out _ _ (hS.trans (hbc.mono hS.size)) (fun hS2 => ?_)
          clear hK K hbc hS
          have hS := hS2
          clear hS2
          refine wpAnyH_takeL (i := 32) (v := .bool true) rfl (by kernel_rfl) (by kernel_rfl) (by kernel_rfl) (fun _ _ _ h => h) (Or.inl ⟨by kernel_rfl, ?_⟩) hS ?_
          · intro V hV
            exact exec_eql rfl rfl V (eq_refl_wv (X := el M A) (el_ltR HMF.out _) V)
          simp only [put_list, List.set_cons_succ, List.set_cons_zero]
          refine wpAnyH_takeL (i := 33) (v := ?_) rfl (by kernel_rfl) (by kernel_rfl) (by kernel_rfl) (fun _ _ _ h => h) (Or.inl ⟨by kernel_rfl, ?_⟩) hS ?_
          rotate_left
          · intro V hV
            go_simp
            (try with_reducible rfl)
          simp only [put_list, List.set_cons_succ, List.set_cons_zero]
          refine wpAnyH_ready (rs := [34]) (by kernel_rfl) (by simp) (AllReadyH.cons rfl (fun K hK => ?_) AllReadyH.nil)
          go_simp
          refine hK.out _ _ hS (fun hS => ?_)
          clear hK K
          refine wpAnyH_done (by kernel_rfl) ?_ _
          (try simp only [put_none])
          refine HK9.out _ _ ?_
          have HFIN := hideP (HBW.out.trans (hS.mono HBW.out.size))
          clear hS
          go_wp2
          go_ret
          exact ⟨rfl, HFIN.out⟩
      · go_simp
        refine hK.out _ _ (hS.alloc hS.size _) (fun hS2 => ?_)
        clear hK K
        refine at_worldH (fun z1 hw2 => ?_)
        have h9 : z1.heap[W1.heap.size]? = some (.cells #[.int .u64 f] 23 (0, 0)) := by rw [hw2]; exact heap_new _ _
        rw [← hw2] at hS2
        have hbx : Below W1.heap.size W1 z1 := by rw [hw2]; first | exact (Below.refl _ _).alloc (Nat.le_refl _) _ | exact ((Below.refl _ _).alloc (Nat.le_refl _) _).drew
        clear hw2 hS
        have hS := hS2
        clear hS2
        clear hbx
        refine wpAnyH_ready (rs := [4]) (by kernel_rfl) (by simp) (AllReadyH.cons rfl (fun K hK => ?_) AllReadyH.nil)
        go_simp
        refine hK.out _ _ (hS.alloc hS.size _) (fun hS2 => ?_)
        clear hK K
        refine at_worldH (fun z2 hw2 => ?_)
        have h4 : z2.heap[z1.heap.size]? = some (.cells #[.int .u64 e] 23 (0, 0)) := by rw [hw2]; exact heap_new _ _
        rw [← hw2] at hS2
        have hbx : Below z1.heap.size z1 z2 := by rw [hw2]; first | exact (Below.refl _ _).alloc (Nat.le_refl _) _ | exact ((Below.refl _ _).alloc (Nat.le_refl _) _).drew
        clear hw2 hS
        have hS := hS2
        clear hS2
        have h9c := (hbx.block _ (lt_of_block h9)).trans h9
        clear hbx h9
        refine wpAnyH_ready (rs := [5]) (by kernel_rfl) (by simp) (AllReadyH.cons rfl (fun K hK => ?_) AllReadyH.nil)
        go_simp
        have HEX := hideP (exp_any (HGW.out.below hS) A (.slice (some ⟨z1.heap.size, 0, none⟩) 1 1) 1 (fun _ => e) (US.single HE.out.1 h4))
        rw [show A ^ val (fun _ => e) 1 = A ^ e by simp [val]] at HEX
        unfold wv at HEX
        refine (HEX.out).mono ?_
        rintro r z3 ⟨rfl, hbc⟩
        have h9b := (hbc.block _ (lt_of_block h9c)).trans h9c
        refine hK.out _ _ (hS.trans (hbc.mono hS.size)) (fun hS2 => ?_)
        clear hK K hbc hS
        have hS := hS2
        clear hS2
        refine wpAnyH_ready (rs := [10]) (by kernel_rfl) (by simp) (AllReadyH.cons rfl (fun K hK => ?_) AllReadyH.nil)
        go_simp
        have HF := hideP (exp_any (HGW.out.below hS) A (.slice (some ⟨W1.heap.size, 0, none⟩) 1 1) 1 (fun _ => f) (US.single HE.out.2 h9b))
        rw [show A ^ val (fun _ => f) 1 = A ^ f by simp [val]] at HF
        unfold wv at HF
        refine (HF.out).mono ?_
        rintro r y1 ⟨rfl, hbc⟩
        refine hK.out _ _ (hS.trans (hbc.mono hS.size)) (fun hS2 => ?_)
        clear hK K hbc hS
        have hS := hS2
        clear hS2
        refine wpAnyH_ready (rs := [11]) (by kernel_rfl) (by simp) (AllReadyH.cons rfl (fun K hK => ?_) AllReadyH.nil)
        go_simp
        have HMU := hideP (mulM_any (HGW.out.below hS) (A ^ e) (A ^ f))
        rw [← Nat.pow_add] at HMU
        unfold wv at HMU
        refine (HMU.out).mono ?_
        rintro r y2 ⟨rfl, hbc⟩
        refine hK.out _ _ (hS.trans (hbc.mono hS.size)) (fun hS2 => ?_)
        clear hK K hbc hS
        have hS := hS2
        clear hS2
        refine wpAnyH_ready (rs := [15]) (by kernel_rfl) (by simp) (AllReadyH.cons rfl (fun K hK => ?_) AllReadyH.nil)
        go_simp
        have HSU := hideP (exp_any (HGW.out.below hS) A (.slice (some ⟨bx + 1, 0, none⟩) 2 2) 2 (fun j => if j = 0 then low else car) (US.two HS.out.2 HCAR.out ((hS.block _ (lt_of_block HR1.out)).trans HR1.out)))
        rw [show A ^ val (fun j => if j = 0 then low else car) 2 = A ^ (e + f) by rw [← HS.out.1]; simp [val, Nat.mul_comm]] at HSU
        unfold wv at HSU
        refine (HSU.out).mono ?_
        rintro r y3 ⟨rfl, hbc⟩
        refine hK.out _ _ (hS.trans (hbc.mono hS.size)) (fun hS2 => ?_)
        clear hK K hbc hS
        have hS := hS2
        clear hS2
        refine wpAnyH_takeL (i := 16) (v := .bool true) rfl (by kernel_rfl) (by kernel_rfl) (by kernel_rfl) (fun _ _ _ h => h) (Or.inl ⟨by kernel_rfl, ?_⟩) hS ?_
        · intro V hV
          exact exec_eql rfl rfl V (eq_refl_wv (X := el M (A ^ (e + f))) (el_ltR HMF.out _) V)
        simp only [put_list, List.set_cons_succ, List.set_cons_zero]
        refine wpAnyH_takeL (i := 17) (v := ?_) rfl (by kernel_rfl) (by kernel_rfl) (by kernel_rfl) (fun _ _ _ h => h) (Or.inl ⟨by kernel_rfl, ?_⟩) hS ?_
        rotate_left
        · intro V hV
          go_simp
          (try with_reducible rfl)
        simp only [put_list, List.set_cons_succ, List.set_cons_zero]
        refine wpAnyH_takeL (i := 18) (v := ?_) rfl (by kernel_rfl) (by kernel_rfl) (by kernel_rfl) (fun _ _ _ h => h) (Or.inl ⟨by kernel_rfl, ?_⟩) hS ?_
        rotate_left
        · intro V hV
          go_simp
          (try with_reducible rfl)
        simp only [put_list, List.set_cons_succ, List.set_cons_zero]
        refine wpAnyH_takeL (i := 19) (v := .agg (cs (limb (el M A)))) rfl (by kernel_rfl) (by kernel_rfl) (by kernel_rfl) (fun _ _ _ h => h) (yieldsIf_load_mid (by kernel_rfl) 24 _ rfl (bx) (0) rfl (cs (limb (el M A))).toList _ (fun V hV => rangeOf ((hV.block _ (lt_of_block HX1.out)).trans HX1.out)) under rfl (info _)) hS ?_
        simp only [put_list, List.set_cons_succ, List.set_cons_zero]
        refine wpAnyH_takeL (i := 21) (v := ?_) rfl (by kernel_rfl) (by kernel_rfl) (by kernel_rfl) (fun _ _ _ h => h) (Or.inl ⟨by kernel_rfl, ?_⟩) hS ?_
        rotate_left
        · intro V hV
          go_simp
          (try with_reducible rfl)
        simp only [put_list, List.set_cons_succ, List.set_cons_zero]
        refine wpAnyH_takeL (i := 22) (v := ?_) rfl (by kernel_rfl) (by kernel_rfl) (by kernel_rfl) (fun _ _ _ h => h) (Or.inl ⟨by kernel_rfl, ?_⟩) hS ?_
        rotate_left
        · intro V hV
          go_simp
          (try with_reducible rfl)
        simp only [put_list, List.set_cons_succ, List.set_cons_zero]
        refine wpAnyH_ready (rs := [20]) (by kernel_rfl) (by simp) (AllReadyH.cons rfl (fun K hK => ?_) AllReadyH.nil)
        go_simp
        have HNI := hideP (exp_any (HGW.out.below hS) A (.slice none 0 0) 0 (fun _ => 0) US.nil)
        rw [show A ^ val (fun _ => 0) 0 = 1 by simp [val]] at HNI
        unfold wv at HNI
        refine (HNI.out).mono ?_
        rintro r y4 ⟨rfl, hbc⟩
        refine hK.out _ _ (hS.trans (hbc.mono hS.size)) (fun hS2 => ?_)
        clear hK K hbc hS
        have hS := hS2
        clear hS2
        have HI1 : Hid (∀ w p, Good w p M → Calls Try.prog 32 #[.pointer (some ⟨p, 0, none⟩), .agg #[.int .u64 (1 : Int), .int .u64 (0 : Int), .int .u64 (0 : Int), .int .u64 (0 : Int)]] w fun e w' => e = .returned (.agg (cs (limb (el M 1)))) ∧ Below w.heap.size w w') := fun w p hg => by
          have := in_any hg 1 (by decide)
          rw [lit4 (by decide)] at this
          exact this
        refine wpAnyH_ready (rs := [23]) (by kernel_rfl) (by simp) (AllReadyH.cons rfl (fun K hK => ?_) AllReadyH.nil)
        go_simp
        refine (HI1.out _ _ (HGW.out.below hS)).mono ?_
        rintro r y5 ⟨rfl, hbc⟩
        refine hK.out _ _ (hS.trans (hbc.mono hS.size)) (fun hS2 => ?_)
        clear hK K hbc hS
        have hS := hS2
        clear hS2
        refine wpAnyH_takeL (i := 24) (v := .bool true) rfl (by kernel_rfl) (by kernel_rfl) (by kernel_rfl) (fun _ _ _ h => h) (Or.inl ⟨by kernel_rfl, ?_⟩) hS ?_
        · intro V hV
          exact exec_eql rfl rfl V (eq_refl_wv (X := el M 1) (el_ltR HMF.out _) V)
        simp only [put_list, List.set_cons_succ, List.set_cons_zero]
        refine wpAnyH_takeL (i := 25) (v := ?_) rfl (by kernel_rfl) (by kernel_rfl) (by kernel_rfl) (fun _ _ _ h => h) (Or.inl ⟨by kernel_rfl, ?_⟩) hS ?_
        rotate_left
        · intro V hV
          go_simp
          (try with_reducible rfl)
        simp only [put_list, List.set_cons_succ, List.set_cons_zero]
        refine wpAnyH_takeL (i := 26) (v := ?_) rfl (by kernel_rfl) (by kernel_rfl) (by kernel_rfl) (fun _ _ _ h => h) (Or.inl ⟨by kernel_rfl, ?_⟩) hS ?_
        rotate_left
        · intro V hV
          go_simp
          (try with_reducible rfl)
        simp only [put_list, List.set_cons_succ, List.set_cons_zero]
        refine wpAnyH_takeL (i := 27) (v := ?_) rfl (by kernel_rfl) (by kernel_rfl) (by kernel_rfl) (fun _ _ _ h => h) (Or.inl ⟨by kernel_rfl, ?_⟩) hS ?_
        rotate_left
        · intro V hV
          go_simp
          (try with_reducible rfl)
        simp only [put_list, List.set_cons_succ, List.set_cons_zero]
        refine wpAnyH_takeL (i := 28) (v := .agg (cs (limb (el M A)))) rfl (by kernel_rfl) (by kernel_rfl) (by kernel_rfl) (fun _ _ _ h => h) (yieldsIf_load_mid (by kernel_rfl) 24 _ rfl (bx) (0) rfl (cs (limb (el M A))).toList _ (fun V hV => rangeOf ((hV.block _ (lt_of_block HX1.out)).trans HX1.out)) under rfl (info _)) hS ?_
        simp only [put_list, List.set_cons_succ, List.set_cons_zero]
        refine wpAnyH_takeL (i := 31) (v := .agg (cs (limb (el M A)))) rfl (by kernel_rfl) (by kernel_rfl) (by kernel_rfl) (fun _ _ _ h => h) (yieldsIf_load_mid (by kernel_rfl) 24 _ rfl (bx) (0) rfl (cs (limb (el M A))).toList _ (fun V hV => rangeOf ((hV.block _ (lt_of_block HX1.out)).trans HX1.out)) under rfl (info _)) hS ?_
        simp only [put_list, List.set_cons_succ, List.set_cons_zero]
        refine wpAnyH_ready (rs := [29]) (by kernel_rfl) (by simp) (AllReadyH.cons rfl (fun K hK => ?_) AllReadyH.nil)
        go_simp
        refine hK.out _ _ (hS.alloc hS.size _) (fun hS2 => ?_)
        clear hK K
        refine at_worldH (fun y6 hw2 => ?_)
        have h29 : y6.heap[y5.heap.size]? = some (.cells #[.int .u64 ((1 : Nat) : Int)] 23 (0, 0)) := by rw [hw2]; exact heap_new _ _
        rw [← hw2] at hS2
        have hbx : Below y5.heap.size y5 y6 := by rw [hw2]; first | exact (Below.refl _ _).alloc (Nat.le_refl _) _ | exact ((Below.refl _ _).alloc (Nat.le_refl _) _).drew
        clear hw2 hS
        have hS := hS2
        clear hS2
        clear hbx
        refine wpAnyH_ready (rs := [30]) (by kernel_rfl) (by simp) (AllReadyH.cons rfl (fun K hK => ?_) AllReadyH.nil)
        go_simp
        have HO1 := hideP (exp_any (HGW.out.below hS) A (.slice (some ⟨y5.heap.size, 0, none⟩) 1 1) 1 (fun _ => 1) (US.single (by decide) h29))
        rw [show A ^ val (fun _ => 1) 1 = A by simp [val]] at HO1
        unfold wv at HO1
        refine (HO1.out).mono ?_
        rintro r y7 ⟨rfl, hbc⟩
        refine hK.out _ _ (hS.trans (hbc.mono hS.size)) (fun hS2 => ?_)
        clear hK K hbc hS
        have hS := hS2
        clear hS2
        refine wpAnyH_takeL (i := 32) (v := .bool true) rfl (by kernel_rfl) (by kernel_rfl) (by kernel_rfl) (fun _ _ _ h => h) (Or.inl ⟨by kernel_rfl, ?_⟩) hS ?_
        · intro V hV
          exact exec_eql rfl rfl V (eq_refl_wv (X := el M A) (el_ltR HMF.out _) V)
        simp only [put_list, List.set_cons_succ, List.set_cons_zero]
        refine wpAnyH_takeL (i := 33) (v := ?_) rfl (by kernel_rfl) (by kernel_rfl) (by kernel_rfl) (fun _ _ _ h => h) (Or.inl ⟨by kernel_rfl, ?_⟩) hS ?_
        rotate_left
        · intro V hV
          go_simp
          (try with_reducible rfl)
        simp only [put_list, List.set_cons_succ, List.set_cons_zero]
        refine wpAnyH_ready (rs := [34]) (by kernel_rfl) (by simp) (AllReadyH.cons rfl (fun K hK => ?_) AllReadyH.nil)
        go_simp
        refine hK.out _ _ hS (fun hS => ?_)
        clear hK K
        refine wpAnyH_done (by kernel_rfl) ?_ _
        (try simp only [put_none])
        refine HK9.out _ _ ?_
        have HFIN := hideP (HBW.out.trans (hS.mono HBW.out.size))
        clear hS
        go_wp2
        go_ret
        exact ⟨rfl, HFIN.out⟩
    by_cases hlt : low < e
    · rw [if_pos hlt] at hca
      subst hca
      have hlt' : (low : Int) < e := by omega
      go_wp2_with fail
      refine HALL.out _ _ _ _ ?_ ?_ ?_
      · exact (heap_old _ _ (by simp)).trans (heap_new _ _)
      · exact heap_new1 _ _ _
      · repeat first | exact Below.refl _ _ | (refine Below.alloc ?_ (by simp <;> omega) _)
    · rw [if_neg hlt] at hca
      subst hca
      have hlt' : ¬ (low : Int) < e := by omega
      go_wp2_with fail
      refine HALL.out _ _ _ _ ?_ ?_ ?_
      · exact (heap_old _ _ (by simp)).trans (heap_new _ _)
      · exact heap_new1 _ _ _
      · repeat first | exact Below.refl _ _ | (refine Below.alloc ?_ (by simp <;> omega) _)

end Go.Proofs.Ytiekipkmfopdoaa.W4
