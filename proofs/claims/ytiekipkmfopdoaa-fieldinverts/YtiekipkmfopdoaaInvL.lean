/-
  Modulo each of the curves' primes every number but 0 has an inverse, and every square a root.
-/
import Derived.Test.YtiekipkmfopdoaaInvN4
import Derived.Test.YtiekipkmfopdoaaInvN6
import Derived.Test.YtiekipkmfopdoaaPrm4
import Derived.Test.YtiekipkmfopdoaaEqw4
import Derived.Test.YtiekipkmfopdoaaEqw6
import Derived.Test.YtiekipkmfopdoaaAwake
namespace Go.Proofs.Ytiekipkmfopdoaa
open Go.RowKit Go.Shelf

set_option maxRecDepth 100000 in
theorem exec_eq6 {ev : Operand → Value} {d : Option Nat} {x y : Operand} {A B : Array Value} {b : Bool} {ty' : Nat} {pos aft g} (hx : ev x = .agg A) (hy : ev y = .agg B) (W : World) (h : (Op.equalIn 10000 29 (.agg A) (.agg B)).run Try.prog W = .ok b W) :
    (execOp ev { dst := d, op := Op.binOp BinOp.eql 29 x y 29, type := ty', pos := pos, after := aft, guard := g }).run Try.prog W = .ok (.value (.bool b)) W := by
  unfold execOp
  simp only [hx, hy]
  have hg : (eqGuard BinOp.eql 29 x y (.agg A) (.agg B)).run Try.prog W = .ok () W := by
    unfold eqGuard
    simp [go_sem]
  simp [go_sem, hg]
  rw [h]
  rfl

set_option maxRecDepth 100000 in
theorem exec_eq4 {ev : Operand → Value} {d : Option Nat} {x y : Operand} {A B : Array Value} {b : Bool} {ty' : Nat} {pos aft g} (hx : ev x = .agg A) (hy : ev y = .agg B) (W : World) (h : (Op.equalIn 10000 24 (.agg A) (.agg B)).run Try.prog W = .ok b W) :
    (execOp ev { dst := d, op := Op.binOp BinOp.eql 24 x y 24, type := ty', pos := pos, after := aft, guard := g }).run Try.prog W = .ok (.value (.bool b)) W := by
  unfold execOp
  simp only [hx, hy]
  have hg : (eqGuard BinOp.eql 24 x y (.agg A) (.agg B)).run Try.prog W = .ok () W := by
    unfold eqGuard
    simp [go_sem]
  simp [go_sem, hg]
  rw [h]
  rfl

theorem wp_exec {P : Program} {o : Oper} {a : Act} {w : World} {K : Act → World → Prop} {Q : Exit → Act → World → Prop} {v : Value} (h : (execOp a.eval o).run P w = .ok (.value v) w) (hk : K (a.put o.dst v) w) : o.wp P a w K Q := by
  unfold Oper.wp
  rw [h]
  exact hk

theorem blsP_ok : nBlsP < W6.R ∧ nBlsP % 2 = 1 ∧ 3 ≤ nBlsP ∧ nBlsP % 4 = 3 ∧ Ferm nBlsP := ⟨by decide, by decide, by decide, by decide, fermatBlsP⟩

theorem W4.eq_els2 {m f U V : Nat} (h : W4.MF m f) (e : W4.el m U = W4.el m V) (W : World) : (Op.equalIn 10000 24 (.agg (W4.cs (limb (W4.el m U)))) (.agg (W4.cs (limb (W4.el m V))))).run Try.prog W = .ok true W := by
  rw [e]
  exact W4.eq_same (W4.el_ltR h V) W

theorem W6.eq_els2 {m f U V : Nat} (h : W6.MF m f) (e : W6.el m U = W6.el m V) (W : World) : (Op.equalIn 10000 29 (.agg (W6.cs (limb (W6.el m U)))) (.agg (W6.cs (limb (W6.el m V))))).run Try.prog W = .ok true W := by
  rw [e]
  exact W6.eq_same (W6.el_ltR h V) W

set_option maxHeartbeats 16000000 in
set_option maxRecDepth 100000 in
theorem fieldInverts_any (A B : Nat) (hA : A < W4.R) (hB : B < W6.R) (w : World) :
    Calls Try.prog 8 #[W4.wv A, W6.wv B] w fun r w' => r = .returned (.bool true) ∧ Below w.heap.size w w' := by
  have HAW := hideP W4.awake_any
  have HAB : Hid (A < W4.R ∧ B < W6.R) := ⟨hA, hB⟩
  clear hA hB
  unfold W4.wv W6.wv W4.cs W6.cs
  go_enter Try.func8, Try.ntmps8
  go_wp2_with fail
  refine at_world_q (fun W0 hW0 => ?_)
  have h2 : W0.heap[w.heap.size]? = some (.cells (W4.cs (limb A)) 24 (0, 0)) := by
    rw [hW0]
    exact (heap_old _ _ (by simp)).trans (heap_new _ _)
  have h3 : W0.heap[w.heap.size + 1]? = some (.cells (W6.cs (limb B)) 29 (0, 0)) := by
    rw [hW0]
    exact heap_new1 _ _ _
  have HBW : Hid (Below w.heap.size w W0) := by
    show Below _ _ _
    rw [hW0]
    repeat first | exact Below.refl _ _ | (refine Below.alloc ?_ (by simp <;> omega) _)
  have H2 := hideP h2
  have H3 := hideP h3
  clear hW0 h2 h3
  refine (HAW.out _).mono ?_
  rintro r w1 ⟨rfl, hb⟩
  replace H2 := hideP ((hb.block _ (lt_of_block H2.out)).trans H2.out)
  replace H3 := hideP ((hb.block _ (lt_of_block H3.out)).trans H3.out)
  replace HBW := hideP (HBW.out.trans (hb.mono HBW.out.size))
  clear hb HAW
  go_wp2_with fail
  refine (primes4_any _).mono ?_
  rintro r w2 ⟨⟨g, rfl, hg⟩, hb⟩
  have HP := hideP hg
  replace H2 := hideP ((hb.block _ (lt_of_block H2.out)).trans H2.out)
  replace H3 := hideP ((hb.block _ (lt_of_block H3.out)).trans H3.out)
  replace HBW := hideP (HBW.out.trans (hb.mono HBW.out.size))
  clear hb hg
  go_wp2_with fail
  rename_i Q' K hK
  have HK := hideP hK
  clear hK
  go_loopw [23] (fun i wr => ∃ k : Nat, k ≤ 5 ∧ i = .int .i64 k ∧ wr.heap[g]? = some (.cells pcs 24 (0, 0)) ∧ wr.heap[w.heap.size]? = some (.cells (W4.cs (limb A)) 24 (0, 0)) ∧ wr.heap[w.heap.size + 1]? = some (.cells (W6.cs (limb B)) 29 (0, 0)) ∧ Below w.heap.size w wr) (fun i _ => 5 - (intOf i).toNat)
  case atStart => exact ⟨0, Nat.zero_le _, rfl, HP.out, H2.out, H3.out, HBW.out⟩
  case round =>
    clear H2 H3 HP HBW
    obtain ⟨k, hk, rfl, hp, h2, h3, hbw⟩ := hrel
    have HP := hideP hp
    have H2 := hideP h2
    have H3 := hideP h3
    have HBW := hideP hbw
    clear hp h2 h3 hbw
    by_cases hlt : k < 5
    · obtain ⟨hm, hodd, hm3, hferm⟩ := prm_ok k hlt
      have HR := hideP (pcs_at HP.out k hlt)
      have hlt' : (k : Int) < 5 := by omega
      have e4 : IntKind.i64.wrap ((k : Int) + 1) = (k : Int) + 1 := by rw [IntKind.wrap_i64]; omega
      have HKS : Hid (k + 1 ≤ 5) := hlt
      generalize prm k = m at *
      have HMM : Hid (m < W4.R ∧ m % 2 = 1 ∧ 3 ≤ m ∧ Ferm m) := ⟨hm, hodd, hm3, hferm⟩
      clear hk hlt hm hodd hm3 hferm
      as_aux_lemma =>
        go_wp2_with (refine wpList_load_mid rfl 24 (.tmp 25) rfl g (k * 4) rfl (W4.cs (limb m)).toList _ HR.out W4.under rfl (W4.info _) ?_; refine Hid.out ?_)
        refine hideP ?_
        have hK0 := heap_new wr (.cells (W4.cs (fun _ => 0)) 24 (0, 0))
        have hbn := (Below.refl wr.heap.size wr).alloc (Nat.le_refl _) (.cells (W4.cs (fun _ => 0)) 24 (0, 0))
        have g1 := blk_sets (W4.cs (limb (m))).toList 0 hK0
        rw [W4.putAll_cs] at g1
        have hB1 := But.sets (W4.cs (limb (m))).toList 0 (But.refl wr.heap.size (wr.alloc (.cells (W4.cs (fun _ => 0)) 24 (0, 0))))
        have hb := hbn.trans hB1.below
        clear hbn hB1
        have hth := W4.there_cs hK0 (limb (m))
        rw [← W4.zero_lit] at hth g1 hb
        clear hK0
        iterate 1 (refine wpList_plain rfl (fun K hK => ?_); go_simp; refine hK _ _ ?_; clear hK K)
        refine wpList_store_mid rfl 24 _ _ rfl wr.heap.size 0 (W4.cs (limb (m))) rfl rfl hth (W4.info _) (W4.one _) ?_
        clear hth
        (try simp only [put_none])
        generalize (wr.alloc (.cells _ 24 (0, 0))).setCells wr.heap.size 0 (W4.cs (limb (m))).toList = V1 at g1 hb ⊢
        have HM := hideP g1
        replace HP := hideP ((hb.block _ (lt_of_block HP.out)).trans HP.out)
        replace H2 := hideP ((hb.block _ (lt_of_block H2.out)).trans H2.out)
        replace H3 := hideP ((hb.block _ (lt_of_block H3.out)).trans H3.out)
        replace HBW := hideP (HBW.out.trans (hb.mono HBW.out.size))
        clear hb g1
        generalize wr.heap.size = bHM at HM ⊢
        clear HR
        as_aux_lemma =>
          obtain ⟨q0, q1, q2, q3⟩ := W4.cells HM.out
          go_wp2_with fail
          refine (W4.make_ok m HMM.out.1 HMM.out.2.1 HMM.out.2.2.1 _).mono ?_
          rintro r V2 ⟨p, rfl, -, hG, hb⟩
          replace HP := hideP ((hb.block _ (lt_of_block HP.out)).trans HP.out)
          replace H2 := hideP ((hb.block _ (lt_of_block H2.out)).trans H2.out)
          replace H3 := hideP ((hb.block _ (lt_of_block H3.out)).trans H3.out)
          replace HM := hideP ((hb.block _ (lt_of_block HM.out)).trans HM.out)
          replace HBW := hideP (HBW.out.trans (hb.mono HBW.out.size))
          have HG := hideP hG
          clear hb hG q0 q1 q2 q3
          obtain ⟨f0, hMF, _⟩ := HG.out.ex
          have HMF := hideP hMF
          clear hMF
          as_aux_lemma =>
            obtain ⟨q0, q1, q2, q3⟩ := W4.cells H2.out
            go_wp2_with fail
            refine (W4.in_any HG.out A HAB.out.1).mono ?_
            rintro r V3 ⟨rfl, hb⟩
            replace HP := hideP ((hb.block _ (lt_of_block HP.out)).trans HP.out)
            replace H2 := hideP ((hb.block _ (lt_of_block H2.out)).trans H2.out)
            replace H3 := hideP ((hb.block _ (lt_of_block H3.out)).trans H3.out)
            replace HM := hideP ((hb.block _ (lt_of_block HM.out)).trans HM.out)
            replace HG := hideP (HG.out.below hb)
            replace HBW := hideP (HBW.out.trans (hb.mono HBW.out.size))
            clear hb q0 q1 q2 q3
            rename_i K9 hK9
            refine hK9 _ _ ?_
            clear hK9 K9
            have hK0 := heap_new V3 (.cells (W4.cs (fun _ => 0)) 24 (0, 0))
            have hbn := (Below.refl V3.heap.size V3).alloc (Nat.le_refl _) (.cells (W4.cs (fun _ => 0)) 24 (0, 0))
            have g1 := blk_sets (W4.cs (limb (W4.el m A))).toList 0 hK0
            rw [W4.putAll_cs] at g1
            have hB1 := But.sets (W4.cs (limb (W4.el m A))).toList 0 (But.refl V3.heap.size (V3.alloc (.cells (W4.cs (fun _ => 0)) 24 (0, 0))))
            have hb := hbn.trans hB1.below
            clear hbn hB1
            have hth := W4.there_cs hK0 (limb (W4.el m A))
            rw [← W4.zero_lit] at hth g1 hb
            clear hK0
            iterate 1 (refine wpList_plain rfl (fun K hK => ?_); go_simp; refine hK _ _ ?_; clear hK K)
            refine wpList_store_mid rfl 24 _ _ rfl V3.heap.size 0 (W4.cs (limb (W4.el m A))) rfl rfl hth (W4.info _) (W4.one _) ?_
            clear hth
            (try simp only [put_none])
            generalize (V3.alloc (.cells _ 24 (0, 0))).setCells V3.heap.size 0 (W4.cs (limb (W4.el m A))).toList = V4 at g1 hb ⊢
            have HX := hideP g1
            replace HP := hideP ((hb.block _ (lt_of_block HP.out)).trans HP.out)
            replace H2 := hideP ((hb.block _ (lt_of_block H2.out)).trans H2.out)
            replace H3 := hideP ((hb.block _ (lt_of_block H3.out)).trans H3.out)
            replace HM := hideP ((hb.block _ (lt_of_block HM.out)).trans HM.out)
            replace HG := hideP (HG.out.below hb)
            replace HBW := hideP (HBW.out.trans (hb.mono HBW.out.size))
            clear hb g1
            generalize V3.heap.size = bHX at HX ⊢
            as_aux_lemma =>
              have HI0 : Hid (∀ w p, W4.Good w p m → Calls Try.prog 32 #[.pointer (some ⟨p, 0, none⟩), .agg #[.int .u64 (0 : Int), .int .u64 (0 : Int), .int .u64 (0 : Int), .int .u64 (0 : Int)]] w fun e w' => e = .returned (.agg (W4.cs (limb (W4.el m 0)))) ∧ Below w.heap.size w w') := fun w p hg => by
                have := W4.in_any hg 0 (by decide)
                rw [W4.lit4 (by decide)] at this
                exact this
              have HI1 : Hid (∀ w p, W4.Good w p m → Calls Try.prog 32 #[.pointer (some ⟨p, 0, none⟩), .agg #[.int .u64 (1 : Int), .int .u64 (0 : Int), .int .u64 (0 : Int), .int .u64 (0 : Int)]] w fun e w' => e = .returned (.agg (W4.cs (limb (W4.el m 1)))) ∧ Below w.heap.size w w') := fun w p hg => by
                have := W4.in_any hg 1 (by decide)
                rw [W4.lit4 (by decide)] at this
                exact this
              go_wp2_with fail
              refine (HI1.out _ _ HG.out).mono ?_
              rintro r V5 ⟨rfl, hb⟩
              replace HP := hideP ((hb.block _ (lt_of_block HP.out)).trans HP.out)
              replace H2 := hideP ((hb.block _ (lt_of_block H2.out)).trans H2.out)
              replace H3 := hideP ((hb.block _ (lt_of_block H3.out)).trans H3.out)
              replace HM := hideP ((hb.block _ (lt_of_block HM.out)).trans HM.out)
              replace HX := hideP ((hb.block _ (lt_of_block HX.out)).trans HX.out)
              replace HG := hideP (HG.out.below hb)
              replace HBW := hideP (HBW.out.trans (hb.mono HBW.out.size))
              clear hb
              go_wp2_with fail
              refine (HI0.out _ _ HG.out).mono ?_
              rintro r V6 ⟨rfl, hb⟩
              replace HP := hideP ((hb.block _ (lt_of_block HP.out)).trans HP.out)
              replace H2 := hideP ((hb.block _ (lt_of_block H2.out)).trans H2.out)
              replace H3 := hideP ((hb.block _ (lt_of_block H3.out)).trans H3.out)
              replace HM := hideP ((hb.block _ (lt_of_block HM.out)).trans HM.out)
              replace HX := hideP ((hb.block _ (lt_of_block HX.out)).trans HX.out)
              replace HG := hideP (HG.out.below hb)
              replace HBW := hideP (HBW.out.trans (hb.mono HBW.out.size))
              clear hb HI0 HI1
              rename_i K9 hK9
              refine hK9 _ _ ?_
              clear hK9 K9
              have hA1 := heap_new V6 (.cells (W4.cs (fun _ => 0)) 24 (0, 0))
              have hA2 := heap_new (V6.alloc (.cells (W4.cs (fun _ => 0)) 24 (0, 0))) (.cells (W4.cs (fun _ => 0)) 24 (0, 0))
              have hA1' := (heap_old (V6.alloc (.cells (W4.cs (fun _ => 0)) 24 (0, 0))) (.cells (W4.cs (fun _ => 0)) 24 (0, 0)) (lt_of_block hA1)).trans hA1
              have hsz : (V6.alloc (.cells (W4.cs (fun _ => 0)) 24 (0, 0))).heap.size = V6.heap.size + 1 := by simp
              rw [hsz] at hA2
              have hbn := ((Below.refl V6.heap.size V6).alloc (Nat.le_refl _) (.cells (W4.cs (fun _ => 0)) 24 (0, 0))).alloc (show V6.heap.size ≤ (V6.alloc (.cells (W4.cs (fun _ => 0)) 24 (0, 0))).heap.size by rw [hsz]; omega) (.cells (W4.cs (fun _ => 0)) 24 (0, 0))
              have g1 := blk_sets (W4.cs (limb (W4.el m 1))).toList 0 hA1'
              rw [W4.putAll_cs] at g1
              have hB1 := But.sets (W4.cs (limb (W4.el m 1))).toList 0 (But.refl V6.heap.size ((V6.alloc (.cells (W4.cs (fun _ => 0)) 24 (0, 0))).alloc (.cells (W4.cs (fun _ => 0)) 24 (0, 0))))
              have hA2' := (hB1.same _ (show V6.heap.size + 1 ≠ V6.heap.size by omega)).trans hA2
              have g2 := blk_sets (W4.cs (limb (W4.el m 0))).toList 0 hA2'
              rw [W4.putAll_cs] at g2
              have hB2 := But.sets (W4.cs (limb (W4.el m 0))).toList 0 (But.refl (V6.heap.size + 1) (((V6.alloc (.cells (W4.cs (fun _ => 0)) 24 (0, 0))).alloc (.cells (W4.cs (fun _ => 0)) 24 (0, 0))).setCells V6.heap.size 0 (W4.cs (limb (W4.el m 1))).toList))
              have g1' := (hB2.same _ (show V6.heap.size ≠ V6.heap.size + 1 by omega)).trans g1
              have hb := (hbn.trans hB1.below).trans (hB2.below.mono (by omega))
              clear hbn hB1 hB2 hA1 hA2 hsz g1
              have ht1 := W4.there_cs hA1' (limb (W4.el m 1))
              have ht2 := W4.there_cs hA2' (limb (W4.el m 0))
              rw [← W4.zero_lit] at ht1 ht2 g1' g2 hb
              clear hA1' hA2'
              iterate 2 (refine wpList_plain rfl (fun K hK => ?_); go_simp; refine hK _ _ ?_; clear hK K)
              refine wpList_store_mid rfl 24 _ _ rfl V6.heap.size 0 (W4.cs (limb (W4.el m 1))) rfl rfl ht1 (W4.info _) (W4.one _) ?_
              (try simp only [put_none])
              refine wpList_store_mid rfl 24 _ _ rfl (V6.heap.size + 1) 0 (W4.cs (limb (W4.el m 0))) rfl rfl ht2 (W4.info _) (W4.one _) ?_
              clear ht1 ht2
              (try simp only [put_none])
              generalize (((V6.alloc (.cells _ 24 (0, 0))).alloc (.cells _ 24 (0, 0))).setCells V6.heap.size 0 (W4.cs (limb (W4.el m 1))).toList).setCells (V6.heap.size + 1) 0 (W4.cs (limb (W4.el m 0))).toList = V7 at g1' g2 hb ⊢
              have HO := hideP g1'
              have HZ := hideP g2
              replace HP := hideP ((hb.block _ (lt_of_block HP.out)).trans HP.out)
              replace H2 := hideP ((hb.block _ (lt_of_block H2.out)).trans H2.out)
              replace H3 := hideP ((hb.block _ (lt_of_block H3.out)).trans H3.out)
              replace HM := hideP ((hb.block _ (lt_of_block HM.out)).trans HM.out)
              replace HX := hideP ((hb.block _ (lt_of_block HX.out)).trans HX.out)
              replace HG := hideP (HG.out.below hb)
              replace HBW := hideP (HBW.out.trans (hb.mono HBW.out.size))
              clear hb g1' g2
              generalize V6.heap.size + 1 = bZ at HZ ⊢
              generalize V6.heap.size = bO at HO ⊢
              as_aux_lemma =>
                have hez : ∀ V : World, (Op.equalIn 10000 24 (.agg (W4.cs (limb (W4.el m A)))) (.agg (W4.cs (limb (W4.el m 0))))).run Try.prog V = .ok (decide (W4.el m A = W4.el m 0)) V := fun V => W4.eq_wv9 (W4.el_ltR HMF.out A) (W4.el_ltR HMF.out 0) V
                have HEZ := hideP hez
                clear hez
                by_cases hz : A % m = 0
                · as_aux_lemma =>
                    rw [decide_eq_true ((W4.el_zero_iff HMF.out).2 hz)] at HEZ
                    have HIZ := hideP (W4.inv_of_zero HMM.out.2.2.1 hz)
                    clear hz
                    go_wp2_with (refine wpList_load_mid rfl 24 (.tmp 9) rfl bHX 0 rfl (W4.cs (limb (W4.el m A))).toList _ (rangeOf HX.out) W4.under rfl (W4.info _) ?_; refine Hid.out ?_)
                    refine hideP ?_
                    refine wpList_load_mid rfl 24 (.tmp 11) rfl bZ 0 rfl (W4.cs (limb (W4.el m 0))).toList _ (rangeOf HZ.out) W4.under rfl (W4.info _) ?_
                    refine wpList_plain rfl (fun K hK => ?_)
                    refine wp_exec (exec_eq4 rfl rfl _ (HEZ.out _)) ?_
                    refine hK _ _ ?_
                    clear hK K HEZ
                    go_wp2_with fail
                    refine wp_region_heldS (S := fun V => Below V7.heap.size V7 V) (by kernel_rfl) ((Below.refl _ _).drew) (fun hS => ?_)
                    refine wpAnyH_takeL (i := 0) (v := ?_) rfl (by kernel_rfl) (by kernel_rfl) (by kernel_rfl) (fun _ _ _ h => h) (Or.inl ⟨by kernel_rfl, ?_⟩) hS ?_
                    rotate_left
                    · intro V hV
                      go_simp
                      (try with_reducible rfl)
                    simp only [put_list, List.set_cons_succ, List.set_cons_zero]
                    refine wpAnyH_takeL (i := 1) (v := .agg (W4.cs (limb (W4.el m A)))) rfl (by kernel_rfl) (by kernel_rfl) (by kernel_rfl) (fun _ _ _ h => h) (yieldsIf_load_mid (by kernel_rfl) 24 _ rfl (bHX) (0) rfl (W4.cs (limb (W4.el m A))).toList _ (fun V hV => rangeOf ((hV.block _ (lt_of_block HX.out)).trans HX.out)) W4.under rfl (W4.info _)) hS ?_
                    simp only [put_list, List.set_cons_succ, List.set_cons_zero]
                    refine wpAnyH_takeL (i := 3) (v := .agg (W4.cs (limb (W4.el m 0)))) rfl (by kernel_rfl) (by kernel_rfl) (by kernel_rfl) (fun _ _ _ h => h) (yieldsIf_load_mid (by kernel_rfl) 24 _ rfl (bZ) (0) rfl (W4.cs (limb (W4.el m 0))).toList _ (fun V hV => rangeOf ((hV.block _ (lt_of_block HZ.out)).trans HZ.out)) W4.under rfl (W4.info _)) hS ?_
                    simp only [put_list, List.set_cons_succ, List.set_cons_zero]
                    refine wpAnyH_ready (rs := [2]) (by kernel_rfl) (by simp) (AllReadyH.cons rfl (fun K hK => ?_) AllReadyH.nil)
                    go_simp
                    refine (W4.inv_any (HG.out.below hS) A).mono ?_
                    rintro r y1 ⟨rfl, hb⟩
                    refine hK.out _ _ (hS.trans (hb.mono hS.size)) (fun hS2 => ?_)
                    clear hS
                    have hS := hS2
                    clear hS2
                    clear hb
                    clear hK K
                    refine wpAnyH_takeL (i := 4) (v := .bool (!true)) rfl (by kernel_rfl) (by kernel_rfl) (by kernel_rfl) (fun _ _ _ h => h) (Or.inl ⟨by kernel_rfl, ?_⟩) hS ?_
                    · intro V hV
                      exact W4.exec_neq rfl rfl V (W4.eq_els2 HMF.out HIZ.out V)
                    simp only [put_list, List.set_cons_succ, List.set_cons_zero, Bool.not_true]
                    refine wpAnyH_done (by kernel_rfl) ?_ _
                    (try simp only [put_none])
                    have hb := hS
                    replace HP := hideP ((hb.block _ (lt_of_block HP.out)).trans HP.out)
                    replace H2 := hideP ((hb.block _ (lt_of_block H2.out)).trans H2.out)
                    replace H3 := hideP ((hb.block _ (lt_of_block H3.out)).trans H3.out)
                    replace HBW := hideP (HBW.out.trans (hb.mono HBW.out.size))
                    clear hb hS
                    go_wp2_with fail
                    exact ⟨⟨k + 1, HKS.out, by go_num, HP.out, H2.out, H3.out, HBW.out⟩, by have := HKS.out; simp [intOf]; omega⟩
                · as_aux_lemma =>
                    rw [decide_eq_false (fun h => hz ((W4.el_zero_iff HMF.out).1 h))] at HEZ
                    have HI1 := hideP (W4.inv_of HMM.out.2.2.1 HMM.out.2.2.2 hz)
                    clear hz
                    go_wp2_with (refine wpList_load_mid rfl 24 (.tmp 9) rfl bHX 0 rfl (W4.cs (limb (W4.el m A))).toList _ (rangeOf HX.out) W4.under rfl (W4.info _) ?_; refine Hid.out ?_)
                    refine hideP ?_
                    refine wpList_load_mid rfl 24 (.tmp 11) rfl bZ 0 rfl (W4.cs (limb (W4.el m 0))).toList _ (rangeOf HZ.out) W4.under rfl (W4.info _) ?_
                    refine wpList_plain rfl (fun K hK => ?_)
                    refine wp_exec (exec_eq4 rfl rfl _ (HEZ.out _)) ?_
                    refine hK _ _ ?_
                    clear hK K HEZ
                    go_wp2_with fail
                    refine wp_region_heldS (S := fun V => Below V7.heap.size V7 V) (by kernel_rfl) ((Below.refl _ _).drew) (fun hS => ?_)
                    refine wpAnyH_takeL (i := 0) (v := ?_) rfl (by kernel_rfl) (by kernel_rfl) (by kernel_rfl) (fun _ _ _ h => h) (Or.inl ⟨by kernel_rfl, ?_⟩) hS ?_
                    rotate_left
                    · intro V hV
                      go_simp
                      (try with_reducible rfl)
                    simp only [put_list, List.set_cons_succ, List.set_cons_zero]
                    refine wpAnyH_takeL (i := 1) (v := .agg (W4.cs (limb (W4.el m A)))) rfl (by kernel_rfl) (by kernel_rfl) (by kernel_rfl) (fun _ _ _ h => h) (yieldsIf_load_mid (by kernel_rfl) 24 _ rfl (bHX) (0) rfl (W4.cs (limb (W4.el m A))).toList _ (fun V hV => rangeOf ((hV.block _ (lt_of_block HX.out)).trans HX.out)) W4.under rfl (W4.info _)) hS ?_
                    simp only [put_list, List.set_cons_succ, List.set_cons_zero]
                    refine wpAnyH_takeL (i := 2) (v := ?_) rfl (by kernel_rfl) (by kernel_rfl) (by kernel_rfl) (fun _ _ _ h => h) (Or.inl ⟨by kernel_rfl, ?_⟩) hS ?_
                    rotate_left
                    · intro V hV
                      go_simp
                      (try with_reducible rfl)
                    simp only [put_list, List.set_cons_succ, List.set_cons_zero]
                    refine wpAnyH_takeL (i := 3) (v := .agg (W4.cs (limb (W4.el m A)))) rfl (by kernel_rfl) (by kernel_rfl) (by kernel_rfl) (fun _ _ _ h => h) (yieldsIf_load_mid (by kernel_rfl) 24 _ rfl (bHX) (0) rfl (W4.cs (limb (W4.el m A))).toList _ (fun V hV => rangeOf ((hV.block _ (lt_of_block HX.out)).trans HX.out)) W4.under rfl (W4.info _)) hS ?_
                    simp only [put_list, List.set_cons_succ, List.set_cons_zero]
                    refine wpAnyH_takeL (i := 6) (v := .agg (W4.cs (limb (W4.el m 1)))) rfl (by kernel_rfl) (by kernel_rfl) (by kernel_rfl) (fun _ _ _ h => h) (yieldsIf_load_mid (by kernel_rfl) 24 _ rfl (bO) (0) rfl (W4.cs (limb (W4.el m 1))).toList _ (fun V hV => rangeOf ((hV.block _ (lt_of_block HO.out)).trans HO.out)) W4.under rfl (W4.info _)) hS ?_
                    simp only [put_list, List.set_cons_succ, List.set_cons_zero]
                    refine wpAnyH_ready (rs := [4]) (by kernel_rfl) (by simp) (AllReadyH.cons rfl (fun K hK => ?_) AllReadyH.nil)
                    go_simp
                    refine (W4.inv_any (HG.out.below hS) A).mono ?_
                    rintro r y1 ⟨rfl, hb⟩
                    refine hK.out _ _ (hS.trans (hb.mono hS.size)) (fun hS2 => ?_)
                    clear hS
                    have hS := hS2
                    clear hS2
                    clear hb
                    clear hK K
                    refine wpAnyH_ready (rs := [5]) (by kernel_rfl) (by simp) (AllReadyH.cons rfl (fun K hK => ?_) AllReadyH.nil)
                    go_simp
                    refine (W4.mulM_any (HG.out.below hS) A (A ^ (m - 2))).mono ?_
                    rintro r y2 ⟨rfl, hb⟩
                    refine hK.out _ _ (hS.trans (hb.mono hS.size)) (fun hS2 => ?_)
                    clear hS
                    have hS := hS2
                    clear hS2
                    clear hb
                    clear hK K
                    refine wpAnyH_takeL (i := 7) (v := .bool (!true)) rfl (by kernel_rfl) (by kernel_rfl) (by kernel_rfl) (fun _ _ _ h => h) (Or.inl ⟨by kernel_rfl, ?_⟩) hS ?_
                    · intro V hV
                      exact W4.exec_neq rfl rfl V (W4.eq_els2 HMF.out HI1.out V)
                    simp only [put_list, List.set_cons_succ, List.set_cons_zero, Bool.not_true]
                    refine wpAnyH_done (by kernel_rfl) ?_ _
                    (try simp only [put_none])
                    have hb := hS
                    replace HP := hideP ((hb.block _ (lt_of_block HP.out)).trans HP.out)
                    replace H2 := hideP ((hb.block _ (lt_of_block H2.out)).trans H2.out)
                    replace H3 := hideP ((hb.block _ (lt_of_block H3.out)).trans H3.out)
                    replace HM := hideP ((hb.block _ (lt_of_block HM.out)).trans HM.out)
                    replace HX := hideP ((hb.block _ (lt_of_block HX.out)).trans HX.out)
                    replace HO := hideP ((hb.block _ (lt_of_block HO.out)).trans HO.out)
                    replace HZ := hideP ((hb.block _ (lt_of_block HZ.out)).trans HZ.out)
                    replace HG := hideP (HG.out.below hb)
                    replace HBW := hideP (HBW.out.trans (hb.mono HBW.out.size))
                    clear hb hS HI1
                    as_aux_lemma =>
                      obtain ⟨Yr, hYr⟩ := W4.root_some m (A * A)
                      have CR : Hid (∀ w, W4.Good w p m → Calls Try.prog 33 #[.pointer (some ⟨p, 0, none⟩), .agg (W4.cs (limb (W4.el m (A * A))))] w fun r w' => r = .returned (.tuple #[.agg (W4.cs (limb (W4.el m Yr))), .bool (W4.rootB m (A * A))]) ∧ Below w.heap.size w w') := fun w hg => by
                        have := W4.root_any hg (A * A)
                        rw [hYr] at this
                        exact this
                      have HYR : Hid (m % 4 = 3 → W4.rootB m (A * A) = true ∧ W4.el m (Yr * Yr) = W4.el m (A * A)) := fun h4 => by
                        have h := W4.root_good (A := A) HMM.out.2.2.1 h4 HMM.out.2.2.2
                        refine ⟨h.2, ?_⟩
                        have e : W4.el m Yr = W4.el m ((A * A) ^ ((m + 1) / 4)) := by rw [← hYr]; exact h.1
                        have e2 := W4.el_inj HMF.out e
                        rw [← W4.root_of (A := A) HMM.out.2.2.1 h4 HMM.out.2.2.2]
                        apply W4.el_of_mod
                        rw [Nat.mul_mod, e2, ← Nat.mul_mod]
                      generalize W4.rootB m (A * A) = rb at *
                      clear hYr
                      as_aux_lemma =>
                        obtain ⟨x0, x1, x2, x3⟩ := W4.cells HX.out
                        go_wp2_with fail
                        refine (W4.mulM_any HG.out A A).mono ?_
                        rintro r V8 ⟨rfl, hb⟩
                        replace HP := hideP ((hb.block _ (lt_of_block HP.out)).trans HP.out)
                        replace H2 := hideP ((hb.block _ (lt_of_block H2.out)).trans H2.out)
                        replace H3 := hideP ((hb.block _ (lt_of_block H3.out)).trans H3.out)
                        replace HM := hideP ((hb.block _ (lt_of_block HM.out)).trans HM.out)
                        replace HX := hideP ((hb.block _ (lt_of_block HX.out)).trans HX.out)
                        replace HO := hideP ((hb.block _ (lt_of_block HO.out)).trans HO.out)
                        replace HZ := hideP ((hb.block _ (lt_of_block HZ.out)).trans HZ.out)
                        replace HG := hideP (HG.out.below hb)
                        replace HBW := hideP (HBW.out.trans (hb.mono HBW.out.size))
                        clear hb x0 x1 x2 x3
                        go_wp2_with fail
                        refine (CR.out _ HG.out).mono ?_
                        rintro r V9 ⟨rfl, hb⟩
                        replace HP := hideP ((hb.block _ (lt_of_block HP.out)).trans HP.out)
                        replace H2 := hideP ((hb.block _ (lt_of_block H2.out)).trans H2.out)
                        replace H3 := hideP ((hb.block _ (lt_of_block H3.out)).trans H3.out)
                        replace HM := hideP ((hb.block _ (lt_of_block HM.out)).trans HM.out)
                        replace HX := hideP ((hb.block _ (lt_of_block HX.out)).trans HX.out)
                        replace HO := hideP ((hb.block _ (lt_of_block HO.out)).trans HO.out)
                        replace HZ := hideP ((hb.block _ (lt_of_block HZ.out)).trans HZ.out)
                        replace HG := hideP (HG.out.below hb)
                        replace HBW := hideP (HBW.out.trans (hb.mono HBW.out.size))
                        clear hb CR
                        rename_i K9 hK9
                        refine hK9 _ _ ?_
                        clear hK9 K9
                        have hK0 := heap_new V9 (.cells (W4.cs (fun _ => 0)) 24 (0, 0))
                        have hbn := (Below.refl V9.heap.size V9).alloc (Nat.le_refl _) (.cells (W4.cs (fun _ => 0)) 24 (0, 0))
                        have g1 := blk_sets (W4.cs (limb (W4.el m Yr))).toList 0 hK0
                        rw [W4.putAll_cs] at g1
                        have hB1 := But.sets (W4.cs (limb (W4.el m Yr))).toList 0 (But.refl V9.heap.size (V9.alloc (.cells (W4.cs (fun _ => 0)) 24 (0, 0))))
                        have hb := hbn.trans hB1.below
                        clear hbn hB1
                        have hth := W4.there_cs hK0 (limb (W4.el m Yr))
                        rw [← W4.zero_lit] at hth g1 hb
                        clear hK0
                        iterate 4 (refine wpList_plain rfl (fun K hK => ?_); go_simp; refine hK _ _ ?_; clear hK K)
                        refine wpList_store_mid rfl 24 _ _ rfl V9.heap.size 0 (W4.cs (limb (W4.el m Yr))) rfl rfl hth (W4.info _) (W4.one _) ?_
                        clear hth
                        (try simp only [put_none])
                        generalize (V9.alloc (.cells _ 24 (0, 0))).setCells V9.heap.size 0 (W4.cs (limb (W4.el m Yr))).toList = V10 at g1 hb ⊢
                        have HT := hideP g1
                        replace HP := hideP ((hb.block _ (lt_of_block HP.out)).trans HP.out)
                        replace H2 := hideP ((hb.block _ (lt_of_block H2.out)).trans H2.out)
                        replace H3 := hideP ((hb.block _ (lt_of_block H3.out)).trans H3.out)
                        replace HM := hideP ((hb.block _ (lt_of_block HM.out)).trans HM.out)
                        replace HX := hideP ((hb.block _ (lt_of_block HX.out)).trans HX.out)
                        replace HO := hideP ((hb.block _ (lt_of_block HO.out)).trans HO.out)
                        replace HZ := hideP ((hb.block _ (lt_of_block HZ.out)).trans HZ.out)
                        replace HG := hideP (HG.out.below hb)
                        replace HBW := hideP (HBW.out.trans (hb.mono HBW.out.size))
                        clear hb g1
                        generalize V9.heap.size = bHT at HT ⊢
                        as_aux_lemma =>
                          have hl0 : limb m 0 % 4 = m % 4 := by simp only [limb, Nat.pow_zero, Nat.div_one]; omega
                          have HM0 : Hid (∀ V, Below V10.heap.size V10 V → V.cell? ⟨bHM, 0, none⟩ = some (.int .u64 (limb m 0))) := fun V hV => blk_cell ((hV.block _ (lt_of_block HM.out)).trans HM.out) rfl
                          have hodd := HMM.out.2.1
                          go_wp2_with fail
                          by_cases h4 : m % 4 = 3
                          · as_aux_lemma =>
                              have r1 : ((limb m 0 : Int)).tmod 4 = 3 := by rw [Int.tmod_eq_emod_of_nonneg (by omega)]; omega
                              have r2 : IntKind.u64.wrap (3 : Int) = 3 := rfl
                              obtain ⟨hrb, hsq⟩ := HYR.out h4
                              subst hrb
                              have HSQ := hideP hsq
                              clear hsq h4 hl0 hodd HYR
                              refine wp_region_heldS (S := fun V => Below V10.heap.size V10 V) (by kernel_rfl) ((Below.refl _ _).drew) (fun hS => ?_)
                              refine wpAnyH_takeL (i := 0) (v := ?_) rfl (by kernel_rfl) (by kernel_rfl) (by kernel_rfl) (fun _ _ _ h => h) (Or.inl ⟨by kernel_rfl, ?_⟩) hS ?_
                              rotate_left
                              · intro V hV
                                go_simp
                                (try with_reducible rfl)
                              simp only [put_list, List.set_cons_succ, List.set_cons_zero]
                              refine wpAnyH_takeL (i := 1) (v := ?_) rfl (by kernel_rfl) (by kernel_rfl) (by kernel_rfl) (fun _ _ _ h => h) (Or.inl ⟨by kernel_rfl, ?_⟩) hS ?_
                              rotate_left
                              · intro V hV
                                have k0 := HM0.out V hV
                                go_simp
                                (try with_reducible rfl)
                              simp only [put_list, List.set_cons_succ, List.set_cons_zero]
                              refine wpAnyH_takeL (i := 2) (v := ?_) rfl (by kernel_rfl) (by kernel_rfl) (by kernel_rfl) (fun _ _ _ h => h) (Or.inl ⟨by kernel_rfl, ?_⟩) hS ?_
                              rotate_left
                              · intro V hV
                                go_simp
                                (try with_reducible rfl)
                              simp only [put_list, List.set_cons_succ, List.set_cons_zero]
                              refine wpAnyH_takeL (i := 3) (v := ?_) rfl (by kernel_rfl) (by kernel_rfl) (by kernel_rfl) (fun _ _ _ h => h) (Or.inl ⟨by kernel_rfl, ?_⟩) hS ?_
                              rotate_left
                              · intro V hV
                                go_simp
                                (try with_reducible rfl)
                              simp only [put_list, List.set_cons_succ, List.set_cons_zero]
                              refine wpAnyH_takeL (i := 4) (v := ?_) rfl (by kernel_rfl) (by kernel_rfl) (by kernel_rfl) (fun _ _ _ h => h) (Or.inl ⟨by kernel_rfl, ?_⟩) hS ?_
                              rotate_left
                              · intro V hV
                                go_simp
                                (try with_reducible rfl)
                              simp only [put_list, List.set_cons_succ, List.set_cons_zero]
                              as_aux_lemma =>
                                refine wpAnyH_takeL (i := 5) (v := ?_) rfl (by kernel_rfl) (by kernel_rfl) (by kernel_rfl) (fun _ _ _ h => h) (Or.inl ⟨by kernel_rfl, ?_⟩) hS ?_
                                rotate_left
                                · intro V hV
                                  go_simp
                                  (try with_reducible rfl)
                                simp only [put_list, List.set_cons_succ, List.set_cons_zero]
                                refine wpAnyH_takeL (i := 6) (v := ?_) rfl (by kernel_rfl) (by kernel_rfl) (by kernel_rfl) (fun _ _ _ h => h) (Or.inl ⟨by kernel_rfl, ?_⟩) hS ?_
                                rotate_left
                                · intro V hV
                                  go_simp
                                  (try with_reducible rfl)
                                simp only [put_list, List.set_cons_succ, List.set_cons_zero]
                                refine wpAnyH_takeL (i := 7) (v := ?_) rfl (by kernel_rfl) (by kernel_rfl) (by kernel_rfl) (fun _ _ _ h => h) (Or.inl ⟨by kernel_rfl, ?_⟩) hS ?_
                                rotate_left
                                · intro V hV
                                  go_simp
                                  (try with_reducible rfl)
                                simp only [put_list, List.set_cons_succ, List.set_cons_zero]
                                refine wpAnyH_takeL (i := 8) (v := ?_) rfl (by kernel_rfl) (by kernel_rfl) (by kernel_rfl) (fun _ _ _ h => h) (Or.inl ⟨by kernel_rfl, ?_⟩) hS ?_
                                rotate_left
                                · intro V hV
                                  go_simp
                                  (try with_reducible rfl)
                                simp only [put_list, List.set_cons_succ, List.set_cons_zero]
                                refine wpAnyH_takeL (i := 9) (v := .agg (W4.cs (limb (W4.el m Yr)))) rfl (by kernel_rfl) (by kernel_rfl) (by kernel_rfl) (fun _ _ _ h => h) (yieldsIf_load_mid (by kernel_rfl) 24 _ rfl (bHT) (0) rfl (W4.cs (limb (W4.el m Yr))).toList _ (fun V hV => rangeOf ((hV.block _ (lt_of_block HT.out)).trans HT.out)) W4.under rfl (W4.info _)) hS ?_
                                simp only [put_list, List.set_cons_succ, List.set_cons_zero]
                                refine wpAnyH_takeL (i := 10) (v := .agg (W4.cs (limb (W4.el m Yr)))) rfl (by kernel_rfl) (by kernel_rfl) (by kernel_rfl) (fun _ _ _ h => h) (yieldsIf_load_mid (by kernel_rfl) 24 _ rfl (bHT) (0) rfl (W4.cs (limb (W4.el m Yr))).toList _ (fun V hV => rangeOf ((hV.block _ (lt_of_block HT.out)).trans HT.out)) W4.under rfl (W4.info _)) hS ?_
                                simp only [put_list, List.set_cons_succ, List.set_cons_zero]
                                as_aux_lemma =>
                                  refine wpAnyH_takeL (i := 12) (v := ?_) rfl (by kernel_rfl) (by kernel_rfl) (by kernel_rfl) (fun _ _ _ h => h) (Or.inl ⟨by kernel_rfl, ?_⟩) hS ?_
                                  rotate_left
                                  · intro V hV
                                    go_simp
                                    (try with_reducible rfl)
                                  simp only [put_list, List.set_cons_succ, List.set_cons_zero]
                                  refine wpAnyH_takeL (i := 13) (v := .agg (W4.cs (limb (W4.el m A)))) rfl (by kernel_rfl) (by kernel_rfl) (by kernel_rfl) (fun _ _ _ h => h) (yieldsIf_load_mid (by kernel_rfl) 24 _ rfl (bHX) (0) rfl (W4.cs (limb (W4.el m A))).toList _ (fun V hV => rangeOf ((hV.block _ (lt_of_block HX.out)).trans HX.out)) W4.under rfl (W4.info _)) hS ?_
                                  simp only [put_list, List.set_cons_succ, List.set_cons_zero]
                                  refine wpAnyH_takeL (i := 14) (v := .agg (W4.cs (limb (W4.el m A)))) rfl (by kernel_rfl) (by kernel_rfl) (by kernel_rfl) (fun _ _ _ h => h) (yieldsIf_load_mid (by kernel_rfl) 24 _ rfl (bHX) (0) rfl (W4.cs (limb (W4.el m A))).toList _ (fun V hV => rangeOf ((hV.block _ (lt_of_block HX.out)).trans HX.out)) W4.under rfl (W4.info _)) hS ?_
                                  simp only [put_list, List.set_cons_succ, List.set_cons_zero]
                                  refine wpAnyH_ready (rs := [11]) (by kernel_rfl) (by simp) (AllReadyH.cons rfl (fun K hK => ?_) AllReadyH.nil)
                                  go_simp
                                  refine (W4.mulM_any (HG.out.below hS) Yr Yr).mono ?_
                                  rintro r y3 ⟨rfl, hb⟩
                                  refine hK.out _ _ (hS.trans (hb.mono hS.size)) (fun hS2 => ?_)
                                  clear hS
                                  have hS := hS2
                                  clear hS2
                                  clear hb
                                  clear hK K
                                  refine wpAnyH_ready (rs := [15]) (by kernel_rfl) (by simp) (AllReadyH.cons rfl (fun K hK => ?_) AllReadyH.nil)
                                  go_simp
                                  refine (W4.mulM_any (HG.out.below hS) A A).mono ?_
                                  rintro r y4 ⟨rfl, hb⟩
                                  refine hK.out _ _ (hS.trans (hb.mono hS.size)) (fun hS2 => ?_)
                                  clear hS
                                  have hS := hS2
                                  clear hS2
                                  clear hb
                                  clear hK K
                                  refine wpAnyH_takeL (i := 16) (v := .bool (!true)) rfl (by kernel_rfl) (by kernel_rfl) (by kernel_rfl) (fun _ _ _ h => h) (Or.inl ⟨by kernel_rfl, ?_⟩) hS ?_
                                  · intro V hV
                                    exact W4.exec_neq rfl rfl V (W4.eq_els2 HMF.out HSQ.out V)
                                  simp only [put_list, List.set_cons_succ, List.set_cons_zero, Bool.not_true]
                                  as_aux_lemma =>
                                    refine wpAnyH_takeL (i := 17) (v := ?_) rfl (by kernel_rfl) (by kernel_rfl) (by kernel_rfl) (fun _ _ _ h => h) (Or.inl ⟨by kernel_rfl, ?_⟩) hS ?_
                                    rotate_left
                                    · intro V hV
                                      go_simp
                                      (try with_reducible rfl)
                                    simp only [put_list, List.set_cons_succ, List.set_cons_zero]
                                    refine wpAnyH_takeL (i := 18) (v := ?_) rfl (by kernel_rfl) (by kernel_rfl) (by kernel_rfl) (fun _ _ _ h => h) (Or.inl ⟨by kernel_rfl, ?_⟩) hS ?_
                                    rotate_left
                                    · intro V hV
                                      go_simp
                                      (try with_reducible rfl)
                                    simp only [put_list, List.set_cons_succ, List.set_cons_zero]
                                    refine wpAnyH_done (by kernel_rfl) ?_ _
                                    (try simp only [put_none])
                                    have hb := hS
                                    replace HP := hideP ((hb.block _ (lt_of_block HP.out)).trans HP.out)
                                    replace H2 := hideP ((hb.block _ (lt_of_block H2.out)).trans H2.out)
                                    replace H3 := hideP ((hb.block _ (lt_of_block H3.out)).trans H3.out)
                                    replace HBW := hideP (HBW.out.trans (hb.mono HBW.out.size))
                                    clear hb hS
                                    go_wp2_with fail
                                    exact ⟨⟨k + 1, HKS.out, by go_num, HP.out, H2.out, H3.out, HBW.out⟩, by have := HKS.out; simp [intOf]; omega⟩
                          · as_aux_lemma =>
                              have r1 : ((limb m 0 : Int)).tmod 4 = 1 := by rw [Int.tmod_eq_emod_of_nonneg (by omega)]; omega
                              have r2 : IntKind.u64.wrap (1 : Int) = 1 := rfl
                              clear h4 hl0 hodd HYR
                              refine wp_region_heldS (S := fun V => Below V10.heap.size V10 V) (by kernel_rfl) ((Below.refl _ _).drew) (fun hS => ?_)
                              refine wpAnyH_takeL (i := 0) (v := ?_) rfl (by kernel_rfl) (by kernel_rfl) (by kernel_rfl) (fun _ _ _ h => h) (Or.inl ⟨by kernel_rfl, ?_⟩) hS ?_
                              rotate_left
                              · intro V hV
                                go_simp
                                (try with_reducible rfl)
                              simp only [put_list, List.set_cons_succ, List.set_cons_zero]
                              refine wpAnyH_takeL (i := 1) (v := ?_) rfl (by kernel_rfl) (by kernel_rfl) (by kernel_rfl) (fun _ _ _ h => h) (Or.inl ⟨by kernel_rfl, ?_⟩) hS ?_
                              rotate_left
                              · intro V hV
                                have k0 := HM0.out V hV
                                go_simp
                                (try with_reducible rfl)
                              simp only [put_list, List.set_cons_succ, List.set_cons_zero]
                              refine wpAnyH_takeL (i := 2) (v := ?_) rfl (by kernel_rfl) (by kernel_rfl) (by kernel_rfl) (fun _ _ _ h => h) (Or.inl ⟨by kernel_rfl, ?_⟩) hS ?_
                              rotate_left
                              · intro V hV
                                go_simp
                                (try with_reducible rfl)
                              simp only [put_list, List.set_cons_succ, List.set_cons_zero]
                              refine wpAnyH_takeL (i := 3) (v := ?_) rfl (by kernel_rfl) (by kernel_rfl) (by kernel_rfl) (fun _ _ _ h => h) (Or.inl ⟨by kernel_rfl, ?_⟩) hS ?_
                              rotate_left
                              · intro V hV
                                go_simp
                                (try with_reducible rfl)
                              simp only [put_list, List.set_cons_succ, List.set_cons_zero]
                              refine wpAnyH_takeL (i := 4) (v := ?_) rfl (by kernel_rfl) (by kernel_rfl) (by kernel_rfl) (fun _ _ _ h => h) (Or.inl ⟨by kernel_rfl, ?_⟩) hS ?_
                              rotate_left
                              · intro V hV
                                go_simp
                                (try with_reducible rfl)
                              simp only [put_list, List.set_cons_succ, List.set_cons_zero]
                              as_aux_lemma =>
                                refine wpAnyH_takeL (i := 5) (v := undef) rfl (by kernel_rfl) (by kernel_rfl) (by kernel_rfl) (fun _ _ _ h => h) (Or.inr ⟨by kernel_rfl, rfl⟩) hS ?_
                                simp only [put_list, List.set_cons_succ, List.set_cons_zero]
                                refine wpAnyH_takeL (i := 6) (v := undef) rfl (by kernel_rfl) (by kernel_rfl) (by kernel_rfl) (fun _ _ _ h => h) (Or.inr ⟨by kernel_rfl, rfl⟩) hS ?_
                                simp only [put_list, List.set_cons_succ, List.set_cons_zero]
                                refine wpAnyH_takeL (i := 7) (v := undef) rfl (by kernel_rfl) (by kernel_rfl) (by kernel_rfl) (fun _ _ _ h => h) (Or.inr ⟨by kernel_rfl, rfl⟩) hS ?_
                                simp only [put_list, List.set_cons_succ, List.set_cons_zero]
                                refine wpAnyH_takeL (i := 8) (v := undef) rfl (by kernel_rfl) (by kernel_rfl) (by kernel_rfl) (fun _ _ _ h => h) (Or.inr ⟨by kernel_rfl, rfl⟩) hS ?_
                                simp only [put_list, List.set_cons_succ, List.set_cons_zero]
                                refine wpAnyH_takeL (i := 9) (v := undef) rfl (by kernel_rfl) (by kernel_rfl) (by kernel_rfl) (fun _ _ _ h => h) (Or.inr ⟨by kernel_rfl, rfl⟩) hS ?_
                                simp only [put_list, List.set_cons_succ, List.set_cons_zero]
                                refine wpAnyH_takeL (i := 10) (v := undef) rfl (by kernel_rfl) (by kernel_rfl) (by kernel_rfl) (fun _ _ _ h => h) (Or.inr ⟨by kernel_rfl, rfl⟩) hS ?_
                                simp only [put_list, List.set_cons_succ, List.set_cons_zero]
                                as_aux_lemma =>
                                  refine wpAnyH_takeL (i := 11) (v := undef) rfl (by kernel_rfl) (by kernel_rfl) (by kernel_rfl) (fun _ _ _ h => h) (Or.inr ⟨by kernel_rfl, rfl⟩) hS ?_
                                  simp only [put_list, List.set_cons_succ, List.set_cons_zero]
                                  refine wpAnyH_takeL (i := 12) (v := undef) rfl (by kernel_rfl) (by kernel_rfl) (by kernel_rfl) (fun _ _ _ h => h) (Or.inr ⟨by kernel_rfl, rfl⟩) hS ?_
                                  simp only [put_list, List.set_cons_succ, List.set_cons_zero]
                                  refine wpAnyH_takeL (i := 13) (v := undef) rfl (by kernel_rfl) (by kernel_rfl) (by kernel_rfl) (fun _ _ _ h => h) (Or.inr ⟨by kernel_rfl, rfl⟩) hS ?_
                                  simp only [put_list, List.set_cons_succ, List.set_cons_zero]
                                  refine wpAnyH_takeL (i := 14) (v := undef) rfl (by kernel_rfl) (by kernel_rfl) (by kernel_rfl) (fun _ _ _ h => h) (Or.inr ⟨by kernel_rfl, rfl⟩) hS ?_
                                  simp only [put_list, List.set_cons_succ, List.set_cons_zero]
                                  refine wpAnyH_takeL (i := 15) (v := undef) rfl (by kernel_rfl) (by kernel_rfl) (by kernel_rfl) (fun _ _ _ h => h) (Or.inr ⟨by kernel_rfl, rfl⟩) hS ?_
                                  simp only [put_list, List.set_cons_succ, List.set_cons_zero]
                                  refine wpAnyH_takeL (i := 16) (v := undef) rfl (by kernel_rfl) (by kernel_rfl) (by kernel_rfl) (fun _ _ _ h => h) (Or.inr ⟨by kernel_rfl, rfl⟩) hS ?_
                                  simp only [put_list, List.set_cons_succ, List.set_cons_zero]
                                  as_aux_lemma =>
                                    refine wpAnyH_takeL (i := 17) (v := undef) rfl (by kernel_rfl) (by kernel_rfl) (by kernel_rfl) (fun _ _ _ h => h) (Or.inr ⟨by kernel_rfl, rfl⟩) hS ?_
                                    simp only [put_list, List.set_cons_succ, List.set_cons_zero]
                                    refine wpAnyH_takeL (i := 18) (v := ?_) rfl (by kernel_rfl) (by kernel_rfl) (by kernel_rfl) (fun _ _ _ h => h) (Or.inl ⟨by kernel_rfl, ?_⟩) hS ?_
                                    rotate_left
                                    · intro V hV
                                      go_simp
                                      (try with_reducible rfl)
                                    simp only [put_list, List.set_cons_succ, List.set_cons_zero]
                                    refine wpAnyH_done (by kernel_rfl) ?_ _
                                    (try simp only [put_none])
                                    have hb := hS
                                    replace HP := hideP ((hb.block _ (lt_of_block HP.out)).trans HP.out)
                                    replace H2 := hideP ((hb.block _ (lt_of_block H2.out)).trans H2.out)
                                    replace H3 := hideP ((hb.block _ (lt_of_block H3.out)).trans H3.out)
                                    replace HBW := hideP (HBW.out.trans (hb.mono HBW.out.size))
                                    clear hb hS
                                    go_wp2_with fail
                                    exact ⟨⟨k + 1, HKS.out, by go_num, HP.out, H2.out, H3.out, HBW.out⟩, by have := HKS.out; simp [intOf]; omega⟩
    · have hkn : k = 5 := by omega
      have hnl : ¬ (k : Int) < 5 := by omega
      clear hk hlt hkn
      go_wp2_with fail
      refine HK.out _ _ ?_
      clear HP H2
      as_aux_lemma =>
        have hBls := blsP_ok
        have HBls := hideP hBls
        clear hBls
        go_wp2_with fail
        refine (fBlsP_any _).mono ?_
        rintro r U1 ⟨rfl, hb⟩
        replace H3 := hideP ((hb.block _ (lt_of_block H3.out)).trans H3.out)
        replace HBW := hideP (HBW.out.trans (hb.mono HBW.out.size))
        clear hb
        go_wp2_with fail
        refine (W6.make_ok nBlsP HBls.out.1 HBls.out.2.1 HBls.out.2.2.1 _).mono ?_
        rintro r U2 ⟨p, rfl, -, hG, hb⟩
        replace H3 := hideP ((hb.block _ (lt_of_block H3.out)).trans H3.out)
        replace HBW := hideP (HBW.out.trans (hb.mono HBW.out.size))
        have HG := hideP hG
        clear hb hG
        obtain ⟨f0, hMF, _⟩ := HG.out.ex
        have HMF := hideP hMF
        clear hMF
        generalize nBlsP = m at *
        as_aux_lemma =>
          obtain ⟨q0, q1, q2, q3, q4, q5⟩ := W6.cells H3.out
          go_wp2_with fail
          refine (W6.in_any HG.out B HAB.out.2).mono ?_
          rintro r U3 ⟨rfl, hb⟩
          replace H3 := hideP ((hb.block _ (lt_of_block H3.out)).trans H3.out)
          replace HG := hideP (HG.out.below hb)
          replace HBW := hideP (HBW.out.trans (hb.mono HBW.out.size))
          clear hb q0 q1 q2 q3 q4 q5
          rename_i K9 hK9
          refine hK9 _ _ ?_
          clear hK9 K9
          have hK0 := heap_new U3 (.cells (W6.cs (fun _ => 0)) 29 (0, 0))
          have hbn := (Below.refl U3.heap.size U3).alloc (Nat.le_refl _) (.cells (W6.cs (fun _ => 0)) 29 (0, 0))
          have g1 := blk_sets (W6.cs (limb (W6.el m B))).toList 0 hK0
          rw [W6.putAll_cs] at g1
          have hB1 := But.sets (W6.cs (limb (W6.el m B))).toList 0 (But.refl U3.heap.size (U3.alloc (.cells (W6.cs (fun _ => 0)) 29 (0, 0))))
          have hb := hbn.trans hB1.below
          clear hbn hB1
          have hth := W6.there_cs hK0 (limb (W6.el m B))
          rw [← W6.zero_lit] at hth g1 hb
          clear hK0
          iterate 1 (refine wpList_plain rfl (fun K hK => ?_); go_simp; refine hK _ _ ?_; clear hK K)
          refine wpList_store_mid rfl 29 _ _ rfl U3.heap.size 0 (W6.cs (limb (W6.el m B))) rfl rfl hth (W6.info _) (W6.one _) ?_
          clear hth
          (try simp only [put_none])
          generalize (U3.alloc (.cells _ 29 (0, 0))).setCells U3.heap.size 0 (W6.cs (limb (W6.el m B))).toList = U4 at g1 hb ⊢
          have HX := hideP g1
          replace H3 := hideP ((hb.block _ (lt_of_block H3.out)).trans H3.out)
          replace HG := hideP (HG.out.below hb)
          replace HBW := hideP (HBW.out.trans (hb.mono HBW.out.size))
          clear hb g1
          generalize U3.heap.size = bHX at HX ⊢
          as_aux_lemma =>
            have h6 := W6.root_good (A := B) HBls.out.2.2.1 HBls.out.2.2.2.1 HBls.out.2.2.2.2
            have CR : Hid (∀ w, W6.Good w p m → Calls Try.prog 51 #[.pointer (some ⟨p, 0, none⟩), .agg (W6.cs (limb (W6.el m (B * B))))] w fun r w' => r = .returned (.tuple #[.agg (W6.cs (limb (W6.el m ((B * B) ^ ((m + 1) / 4))))), .bool true]) ∧ Below w.heap.size w w') := fun w hg => by
              have := W6.root_any hg (B * B)
              rw [h6.1, h6.2] at this
              exact this
            have HSQ := hideP (W6.root_of (A := B) HBls.out.2.2.1 HBls.out.2.2.2.1 HBls.out.2.2.2.2)
            generalize (B * B) ^ ((m + 1) / 4) = Yr at *
            clear h6
            obtain ⟨q0, q1, q2, q3, q4, q5⟩ := W6.cells HX.out
            go_wp2_with fail
            refine (W6.mulM_any HG.out B B).mono ?_
            rintro r U5 ⟨rfl, hb⟩
            replace H3 := hideP ((hb.block _ (lt_of_block H3.out)).trans H3.out)
            replace HX := hideP ((hb.block _ (lt_of_block HX.out)).trans HX.out)
            replace HG := hideP (HG.out.below hb)
            replace HBW := hideP (HBW.out.trans (hb.mono HBW.out.size))
            clear hb q0 q1 q2 q3 q4 q5
            as_aux_lemma =>
              go_wp2_with fail
              refine (CR.out _ HG.out).mono ?_
              rintro r U6 ⟨rfl, hb⟩
              replace H3 := hideP ((hb.block _ (lt_of_block H3.out)).trans H3.out)
              replace HX := hideP ((hb.block _ (lt_of_block HX.out)).trans HX.out)
              replace HG := hideP (HG.out.below hb)
              replace HBW := hideP (HBW.out.trans (hb.mono HBW.out.size))
              clear hb CR
              rename_i K9 hK9
              refine hK9 _ _ ?_
              clear hK9 K9
              have hK0 := heap_new U6 (.cells (W6.cs (fun _ => 0)) 29 (0, 0))
              have hbn := (Below.refl U6.heap.size U6).alloc (Nat.le_refl _) (.cells (W6.cs (fun _ => 0)) 29 (0, 0))
              have g1 := blk_sets (W6.cs (limb (W6.el m Yr))).toList 0 hK0
              rw [W6.putAll_cs] at g1
              have hB1 := But.sets (W6.cs (limb (W6.el m Yr))).toList 0 (But.refl U6.heap.size (U6.alloc (.cells (W6.cs (fun _ => 0)) 29 (0, 0))))
              have hb := hbn.trans hB1.below
              clear hbn hB1
              have hth := W6.there_cs hK0 (limb (W6.el m Yr))
              rw [← W6.zero_lit] at hth g1 hb
              clear hK0
              iterate 4 (refine wpList_plain rfl (fun K hK => ?_); go_simp; refine hK _ _ ?_; clear hK K)
              refine wpList_store_mid rfl 29 _ _ rfl U6.heap.size 0 (W6.cs (limb (W6.el m Yr))) rfl rfl hth (W6.info _) (W6.one _) ?_
              clear hth
              (try simp only [put_none])
              generalize (U6.alloc (.cells _ 29 (0, 0))).setCells U6.heap.size 0 (W6.cs (limb (W6.el m Yr))).toList = U7 at g1 hb ⊢
              have HT := hideP g1
              replace H3 := hideP ((hb.block _ (lt_of_block H3.out)).trans H3.out)
              replace HX := hideP ((hb.block _ (lt_of_block HX.out)).trans HX.out)
              replace HG := hideP (HG.out.below hb)
              replace HBW := hideP (HBW.out.trans (hb.mono HBW.out.size))
              clear hb g1
              generalize U6.heap.size = bHT at HT ⊢
              as_aux_lemma =>
                have HI0 : Hid (∀ w p, W6.Good w p m → Calls Try.prog 50 #[.pointer (some ⟨p, 0, none⟩), .agg #[.int .u64 (0 : Int), .int .u64 (0 : Int), .int .u64 (0 : Int), .int .u64 (0 : Int), .int .u64 (0 : Int), .int .u64 (0 : Int)]] w fun e w' => e = .returned (.agg (W6.cs (limb (W6.el m 0)))) ∧ Below w.heap.size w w') := fun w p hg => W6.in_any hg 0 (by decide)
                have HI1 : Hid (∀ w p, W6.Good w p m → Calls Try.prog 50 #[.pointer (some ⟨p, 0, none⟩), .agg #[.int .u64 (1 : Int), .int .u64 (0 : Int), .int .u64 (0 : Int), .int .u64 (0 : Int), .int .u64 (0 : Int), .int .u64 (0 : Int)]] w fun e w' => e = .returned (.agg (W6.cs (limb (W6.el m 1)))) ∧ Below w.heap.size w w') := fun w p hg => W6.in_any hg 1 (by decide)
                go_wp2_with fail
                by_cases hz : B % m = 0
                · as_aux_lemma =>
                    have HZZ := hideP ((W6.el_zero_iff HMF.out).2 hz)
                    clear hz
                    refine wp_region_heldS (S := fun V => Below U7.heap.size U7 V) (by kernel_rfl) ((Below.refl _ _).drew) (fun hS => ?_)
                    refine wpAnyH_takeL (i := 0) (v := ?_) rfl (by kernel_rfl) (by kernel_rfl) (by kernel_rfl) (fun _ _ _ h => h) (Or.inl ⟨by kernel_rfl, ?_⟩) hS ?_
                    rotate_left
                    · intro V hV
                      go_simp
                      (try with_reducible rfl)
                    simp only [put_list, List.set_cons_succ, List.set_cons_zero]
                    refine wpAnyH_takeL (i := 1) (v := ?_) rfl (by kernel_rfl) (by kernel_rfl) (by kernel_rfl) (fun _ _ _ h => h) (Or.inl ⟨by kernel_rfl, ?_⟩) hS ?_
                    rotate_left
                    · intro V hV
                      go_simp
                      (try with_reducible rfl)
                    simp only [put_list, List.set_cons_succ, List.set_cons_zero]
                    refine wpAnyH_takeL (i := 2) (v := ?_) rfl (by kernel_rfl) (by kernel_rfl) (by kernel_rfl) (fun _ _ _ h => h) (Or.inl ⟨by kernel_rfl, ?_⟩) hS ?_
                    rotate_left
                    · intro V hV
                      go_simp
                      (try with_reducible rfl)
                    simp only [put_list, List.set_cons_succ, List.set_cons_zero]
                    refine wpAnyH_takeL (i := 3) (v := .agg (W6.cs (limb (W6.el m Yr)))) rfl (by kernel_rfl) (by kernel_rfl) (by kernel_rfl) (fun _ _ _ h => h) (yieldsIf_load_mid (by kernel_rfl) 29 _ rfl (bHT) (0) rfl (W6.cs (limb (W6.el m Yr))).toList _ (fun V hV => rangeOf ((hV.block _ (lt_of_block HT.out)).trans HT.out)) W6.under rfl (W6.info _)) hS ?_
                    simp only [put_list, List.set_cons_succ, List.set_cons_zero]
                    refine wpAnyH_takeL (i := 4) (v := .agg (W6.cs (limb (W6.el m Yr)))) rfl (by kernel_rfl) (by kernel_rfl) (by kernel_rfl) (fun _ _ _ h => h) (yieldsIf_load_mid (by kernel_rfl) 29 _ rfl (bHT) (0) rfl (W6.cs (limb (W6.el m Yr))).toList _ (fun V hV => rangeOf ((hV.block _ (lt_of_block HT.out)).trans HT.out)) W6.under rfl (W6.info _)) hS ?_
                    simp only [put_list, List.set_cons_succ, List.set_cons_zero]
                    as_aux_lemma =>
                      refine wpAnyH_takeL (i := 6) (v := ?_) rfl (by kernel_rfl) (by kernel_rfl) (by kernel_rfl) (fun _ _ _ h => h) (Or.inl ⟨by kernel_rfl, ?_⟩) hS ?_
                      rotate_left
                      · intro V hV
                        go_simp
                        (try with_reducible rfl)
                      simp only [put_list, List.set_cons_succ, List.set_cons_zero]
                      refine wpAnyH_takeL (i := 7) (v := .agg (W6.cs (limb (W6.el m B)))) rfl (by kernel_rfl) (by kernel_rfl) (by kernel_rfl) (fun _ _ _ h => h) (yieldsIf_load_mid (by kernel_rfl) 29 _ rfl (bHX) (0) rfl (W6.cs (limb (W6.el m B))).toList _ (fun V hV => rangeOf ((hV.block _ (lt_of_block HX.out)).trans HX.out)) W6.under rfl (W6.info _)) hS ?_
                      simp only [put_list, List.set_cons_succ, List.set_cons_zero]
                      refine wpAnyH_takeL (i := 8) (v := .agg (W6.cs (limb (W6.el m B)))) rfl (by kernel_rfl) (by kernel_rfl) (by kernel_rfl) (fun _ _ _ h => h) (yieldsIf_load_mid (by kernel_rfl) 29 _ rfl (bHX) (0) rfl (W6.cs (limb (W6.el m B))).toList _ (fun V hV => rangeOf ((hV.block _ (lt_of_block HX.out)).trans HX.out)) W6.under rfl (W6.info _)) hS ?_
                      simp only [put_list, List.set_cons_succ, List.set_cons_zero]
                      refine wpAnyH_ready (rs := [5]) (by kernel_rfl) (by simp) (AllReadyH.cons rfl (fun K hK => ?_) AllReadyH.nil)
                      go_simp
                      refine (W6.mulM_any (HG.out.below hS) Yr Yr).mono ?_
                      rintro r y1 ⟨rfl, hb⟩
                      refine hK.out _ _ (hS.trans (hb.mono hS.size)) (fun hS2 => ?_)
                      clear hS
                      have hS := hS2
                      clear hS2
                      clear hb
                      clear hK K
                      refine wpAnyH_ready (rs := [9]) (by kernel_rfl) (by simp) (AllReadyH.cons rfl (fun K hK => ?_) AllReadyH.nil)
                      go_simp
                      refine (W6.mulM_any (HG.out.below hS) B B).mono ?_
                      rintro r y2 ⟨rfl, hb⟩
                      refine hK.out _ _ (hS.trans (hb.mono hS.size)) (fun hS2 => ?_)
                      clear hS
                      have hS := hS2
                      clear hS2
                      clear hb
                      clear hK K
                      refine wpAnyH_takeL (i := 10) (v := .bool (true)) rfl (by kernel_rfl) (by kernel_rfl) (by kernel_rfl) (fun _ _ _ h => h) (Or.inl ⟨by kernel_rfl, ?_⟩) hS ?_
                      · intro V hV
                        exact exec_eq6 rfl rfl V (W6.eq_els2 HMF.out HSQ.out V)
                      simp only [put_list, List.set_cons_succ, List.set_cons_zero]
                      as_aux_lemma =>
                        refine wpAnyH_takeL (i := 11) (v := ?_) rfl (by kernel_rfl) (by kernel_rfl) (by kernel_rfl) (fun _ _ _ h => h) (Or.inl ⟨by kernel_rfl, ?_⟩) hS ?_
                        rotate_left
                        · intro V hV
                          go_simp
                          (try with_reducible rfl)
                        simp only [put_list, List.set_cons_succ, List.set_cons_zero]
                        refine wpAnyH_takeL (i := 12) (v := ?_) rfl (by kernel_rfl) (by kernel_rfl) (by kernel_rfl) (fun _ _ _ h => h) (Or.inl ⟨by kernel_rfl, ?_⟩) hS ?_
                        rotate_left
                        · intro V hV
                          go_simp
                          (try with_reducible rfl)
                        simp only [put_list, List.set_cons_succ, List.set_cons_zero]
                        refine wpAnyH_takeL (i := 13) (v := .agg (W6.cs (limb (W6.el m B)))) rfl (by kernel_rfl) (by kernel_rfl) (by kernel_rfl) (fun _ _ _ h => h) (yieldsIf_load_mid (by kernel_rfl) 29 _ rfl (bHX) (0) rfl (W6.cs (limb (W6.el m B))).toList _ (fun V hV => rangeOf ((hV.block _ (lt_of_block HX.out)).trans HX.out)) W6.under rfl (W6.info _)) hS ?_
                        simp only [put_list, List.set_cons_succ, List.set_cons_zero]
                        refine wpAnyH_takeL (i := 14) (v := ?_) rfl (by kernel_rfl) (by kernel_rfl) (by kernel_rfl) (fun _ _ _ h => h) (Or.inl ⟨by kernel_rfl, ?_⟩) hS ?_
                        rotate_left
                        · intro V hV
                          go_simp
                          (try with_reducible rfl)
                        simp only [put_list, List.set_cons_succ, List.set_cons_zero]
                        refine wpAnyH_takeL (i := 15) (v := ?_) rfl (by kernel_rfl) (by kernel_rfl) (by kernel_rfl) (fun _ _ _ h => h) (Or.inl ⟨by kernel_rfl, ?_⟩) hS ?_
                        rotate_left
                        · intro V hV
                          go_simp
                          (try with_reducible rfl)
                        simp only [put_list, List.set_cons_succ, List.set_cons_zero]
                        refine wpAnyH_ready (rs := [16]) (by kernel_rfl) (by simp) (AllReadyH.cons rfl (fun K hK => ?_) AllReadyH.nil)
                        go_simp
                        refine (HI0.out _ _ (HG.out.below hS)).mono ?_
                        rintro r y3 ⟨rfl, hb⟩
                        refine hK.out _ _ (hS.trans (hb.mono hS.size)) (fun hS2 => ?_)
                        clear hS
                        have hS := hS2
                        clear hS2
                        clear hb
                        clear hK K
                        as_aux_lemma =>
                          refine wpAnyH_takeL (i := 17) (v := .bool (true)) rfl (by kernel_rfl) (by kernel_rfl) (by kernel_rfl) (fun _ _ _ h => h) (Or.inl ⟨by kernel_rfl, ?_⟩) hS ?_
                          · intro V hV
                            exact exec_eq6 rfl rfl V (W6.eq_els2 HMF.out HZZ.out V)
                          simp only [put_list, List.set_cons_succ, List.set_cons_zero]
                          refine wpAnyH_takeL (i := 18) (v := ?_) rfl (by kernel_rfl) (by kernel_rfl) (by kernel_rfl) (fun _ _ _ h => h) (Or.inl ⟨by kernel_rfl, ?_⟩) hS ?_
                          rotate_left
                          · intro V hV
                            go_simp
                            (try with_reducible rfl)
                          simp only [put_list, List.set_cons_succ, List.set_cons_zero]
                          refine wpAnyH_takeL (i := 19) (v := undef) rfl (by kernel_rfl) (by kernel_rfl) (by kernel_rfl) (fun _ _ _ h => h) (Or.inr ⟨by kernel_rfl, rfl⟩) hS ?_
                          simp only [put_list, List.set_cons_succ, List.set_cons_zero]
                          refine wpAnyH_takeL (i := 20) (v := undef) rfl (by kernel_rfl) (by kernel_rfl) (by kernel_rfl) (fun _ _ _ h => h) (Or.inr ⟨by kernel_rfl, rfl⟩) hS ?_
                          simp only [put_list, List.set_cons_succ, List.set_cons_zero]
                          refine wpAnyH_takeL (i := 21) (v := undef) rfl (by kernel_rfl) (by kernel_rfl) (by kernel_rfl) (fun _ _ _ h => h) (Or.inr ⟨by kernel_rfl, rfl⟩) hS ?_
                          simp only [put_list, List.set_cons_succ, List.set_cons_zero]
                          refine wpAnyH_takeL (i := 22) (v := undef) rfl (by kernel_rfl) (by kernel_rfl) (by kernel_rfl) (fun _ _ _ h => h) (Or.inr ⟨by kernel_rfl, rfl⟩) hS ?_
                          simp only [put_list, List.set_cons_succ, List.set_cons_zero]
                          as_aux_lemma =>
                            refine wpAnyH_takeL (i := 23) (v := undef) rfl (by kernel_rfl) (by kernel_rfl) (by kernel_rfl) (fun _ _ _ h => h) (Or.inr ⟨by kernel_rfl, rfl⟩) hS ?_
                            simp only [put_list, List.set_cons_succ, List.set_cons_zero]
                            refine wpAnyH_takeL (i := 24) (v := undef) rfl (by kernel_rfl) (by kernel_rfl) (by kernel_rfl) (fun _ _ _ h => h) (Or.inr ⟨by kernel_rfl, rfl⟩) hS ?_
                            simp only [put_list, List.set_cons_succ, List.set_cons_zero]
                            refine wpAnyH_takeL (i := 25) (v := undef) rfl (by kernel_rfl) (by kernel_rfl) (by kernel_rfl) (fun _ _ _ h => h) (Or.inr ⟨by kernel_rfl, rfl⟩) hS ?_
                            simp only [put_list, List.set_cons_succ, List.set_cons_zero]
                            refine wpAnyH_takeL (i := 26) (v := undef) rfl (by kernel_rfl) (by kernel_rfl) (by kernel_rfl) (fun _ _ _ h => h) (Or.inr ⟨by kernel_rfl, rfl⟩) hS ?_
                            simp only [put_list, List.set_cons_succ, List.set_cons_zero]
                            refine wpAnyH_takeL (i := 27) (v := undef) rfl (by kernel_rfl) (by kernel_rfl) (by kernel_rfl) (fun _ _ _ h => h) (Or.inr ⟨by kernel_rfl, rfl⟩) hS ?_
                            simp only [put_list, List.set_cons_succ, List.set_cons_zero]
                            refine wpAnyH_takeL (i := 28) (v := undef) rfl (by kernel_rfl) (by kernel_rfl) (by kernel_rfl) (fun _ _ _ h => h) (Or.inr ⟨by kernel_rfl, rfl⟩) hS ?_
                            simp only [put_list, List.set_cons_succ, List.set_cons_zero]
                            as_aux_lemma =>
                              refine wpAnyH_takeL (i := 29) (v := ?_) rfl (by kernel_rfl) (by kernel_rfl) (by kernel_rfl) (fun _ _ _ h => h) (Or.inl ⟨by kernel_rfl, ?_⟩) hS ?_
                              rotate_left
                              · intro V hV
                                go_simp
                                (try with_reducible rfl)
                              simp only [put_list, List.set_cons_succ, List.set_cons_zero]
                              refine wpAnyH_takeL (i := 30) (v := ?_) rfl (by kernel_rfl) (by kernel_rfl) (by kernel_rfl) (fun _ _ _ h => h) (Or.inl ⟨by kernel_rfl, ?_⟩) hS ?_
                              rotate_left
                              · intro V hV
                                go_simp
                                (try with_reducible rfl)
                              simp only [put_list, List.set_cons_succ, List.set_cons_zero]
                              refine wpAnyH_ready (rs := [31]) (by kernel_rfl) (by simp) (AllReadyH.cons rfl (fun K hK => ?_) AllReadyH.nil)
                              go_simp
                              refine hK.out _ _ hS (fun hS => ?_)
                              clear hK K
                              refine wpAnyH_done (by kernel_rfl) ?_ _
                              (try simp only [put_none])
                              have HF := hideP (HBW.out.trans (hS.mono HBW.out.size))
                              clear hS
                              go_wp2
                              go_ret
                              exact ⟨rfl, HF.out⟩
                · as_aux_lemma =>
                    have HZZ : Hid (∀ V : World, (Op.equalIn 10000 29 (.agg (W6.cs (limb (W6.el m B)))) (.agg (W6.cs (limb (W6.el m 0))))).run Try.prog V = .ok false V) := fun V => by
                      have := W6.eq_wv9 (W6.el_ltR HMF.out B) (W6.el_ltR HMF.out 0) V
                      rw [decide_eq_false (fun h => hz ((W6.el_zero_iff HMF.out).1 h))] at this
                      exact this
                    have HIV := hideP (W6.inv_of HBls.out.2.2.1 HBls.out.2.2.2.2 hz)
                    clear hz
                    refine wp_region_heldS (S := fun V => Below U7.heap.size U7 V) (by kernel_rfl) ((Below.refl _ _).drew) (fun hS => ?_)
                    refine wpAnyH_takeL (i := 0) (v := ?_) rfl (by kernel_rfl) (by kernel_rfl) (by kernel_rfl) (fun _ _ _ h => h) (Or.inl ⟨by kernel_rfl, ?_⟩) hS ?_
                    rotate_left
                    · intro V hV
                      go_simp
                      (try with_reducible rfl)
                    simp only [put_list, List.set_cons_succ, List.set_cons_zero]
                    refine wpAnyH_takeL (i := 1) (v := ?_) rfl (by kernel_rfl) (by kernel_rfl) (by kernel_rfl) (fun _ _ _ h => h) (Or.inl ⟨by kernel_rfl, ?_⟩) hS ?_
                    rotate_left
                    · intro V hV
                      go_simp
                      (try with_reducible rfl)
                    simp only [put_list, List.set_cons_succ, List.set_cons_zero]
                    refine wpAnyH_takeL (i := 2) (v := ?_) rfl (by kernel_rfl) (by kernel_rfl) (by kernel_rfl) (fun _ _ _ h => h) (Or.inl ⟨by kernel_rfl, ?_⟩) hS ?_
                    rotate_left
                    · intro V hV
                      go_simp
                      (try with_reducible rfl)
                    simp only [put_list, List.set_cons_succ, List.set_cons_zero]
                    refine wpAnyH_takeL (i := 3) (v := .agg (W6.cs (limb (W6.el m Yr)))) rfl (by kernel_rfl) (by kernel_rfl) (by kernel_rfl) (fun _ _ _ h => h) (yieldsIf_load_mid (by kernel_rfl) 29 _ rfl (bHT) (0) rfl (W6.cs (limb (W6.el m Yr))).toList _ (fun V hV => rangeOf ((hV.block _ (lt_of_block HT.out)).trans HT.out)) W6.under rfl (W6.info _)) hS ?_
                    simp only [put_list, List.set_cons_succ, List.set_cons_zero]
                    refine wpAnyH_takeL (i := 4) (v := .agg (W6.cs (limb (W6.el m Yr)))) rfl (by kernel_rfl) (by kernel_rfl) (by kernel_rfl) (fun _ _ _ h => h) (yieldsIf_load_mid (by kernel_rfl) 29 _ rfl (bHT) (0) rfl (W6.cs (limb (W6.el m Yr))).toList _ (fun V hV => rangeOf ((hV.block _ (lt_of_block HT.out)).trans HT.out)) W6.under rfl (W6.info _)) hS ?_
                    simp only [put_list, List.set_cons_succ, List.set_cons_zero]
                    as_aux_lemma =>
                      refine wpAnyH_takeL (i := 6) (v := ?_) rfl (by kernel_rfl) (by kernel_rfl) (by kernel_rfl) (fun _ _ _ h => h) (Or.inl ⟨by kernel_rfl, ?_⟩) hS ?_
                      rotate_left
                      · intro V hV
                        go_simp
                        (try with_reducible rfl)
                      simp only [put_list, List.set_cons_succ, List.set_cons_zero]
                      refine wpAnyH_takeL (i := 7) (v := .agg (W6.cs (limb (W6.el m B)))) rfl (by kernel_rfl) (by kernel_rfl) (by kernel_rfl) (fun _ _ _ h => h) (yieldsIf_load_mid (by kernel_rfl) 29 _ rfl (bHX) (0) rfl (W6.cs (limb (W6.el m B))).toList _ (fun V hV => rangeOf ((hV.block _ (lt_of_block HX.out)).trans HX.out)) W6.under rfl (W6.info _)) hS ?_
                      simp only [put_list, List.set_cons_succ, List.set_cons_zero]
                      refine wpAnyH_takeL (i := 8) (v := .agg (W6.cs (limb (W6.el m B)))) rfl (by kernel_rfl) (by kernel_rfl) (by kernel_rfl) (fun _ _ _ h => h) (yieldsIf_load_mid (by kernel_rfl) 29 _ rfl (bHX) (0) rfl (W6.cs (limb (W6.el m B))).toList _ (fun V hV => rangeOf ((hV.block _ (lt_of_block HX.out)).trans HX.out)) W6.under rfl (W6.info _)) hS ?_
                      simp only [put_list, List.set_cons_succ, List.set_cons_zero]
                      refine wpAnyH_ready (rs := [5]) (by kernel_rfl) (by simp) (AllReadyH.cons rfl (fun K hK => ?_) AllReadyH.nil)
                      go_simp
                      refine (W6.mulM_any (HG.out.below hS) Yr Yr).mono ?_
                      rintro r y1 ⟨rfl, hb⟩
                      refine hK.out _ _ (hS.trans (hb.mono hS.size)) (fun hS2 => ?_)
                      clear hS
                      have hS := hS2
                      clear hS2
                      clear hb
                      clear hK K
                      refine wpAnyH_ready (rs := [9]) (by kernel_rfl) (by simp) (AllReadyH.cons rfl (fun K hK => ?_) AllReadyH.nil)
                      go_simp
                      refine (W6.mulM_any (HG.out.below hS) B B).mono ?_
                      rintro r y2 ⟨rfl, hb⟩
                      refine hK.out _ _ (hS.trans (hb.mono hS.size)) (fun hS2 => ?_)
                      clear hS
                      have hS := hS2
                      clear hS2
                      clear hb
                      clear hK K
                      refine wpAnyH_takeL (i := 10) (v := .bool (true)) rfl (by kernel_rfl) (by kernel_rfl) (by kernel_rfl) (fun _ _ _ h => h) (Or.inl ⟨by kernel_rfl, ?_⟩) hS ?_
                      · intro V hV
                        exact exec_eq6 rfl rfl V (W6.eq_els2 HMF.out HSQ.out V)
                      simp only [put_list, List.set_cons_succ, List.set_cons_zero]
                      as_aux_lemma =>
                        refine wpAnyH_takeL (i := 11) (v := ?_) rfl (by kernel_rfl) (by kernel_rfl) (by kernel_rfl) (fun _ _ _ h => h) (Or.inl ⟨by kernel_rfl, ?_⟩) hS ?_
                        rotate_left
                        · intro V hV
                          go_simp
                          (try with_reducible rfl)
                        simp only [put_list, List.set_cons_succ, List.set_cons_zero]
                        refine wpAnyH_takeL (i := 12) (v := ?_) rfl (by kernel_rfl) (by kernel_rfl) (by kernel_rfl) (fun _ _ _ h => h) (Or.inl ⟨by kernel_rfl, ?_⟩) hS ?_
                        rotate_left
                        · intro V hV
                          go_simp
                          (try with_reducible rfl)
                        simp only [put_list, List.set_cons_succ, List.set_cons_zero]
                        refine wpAnyH_takeL (i := 13) (v := .agg (W6.cs (limb (W6.el m B)))) rfl (by kernel_rfl) (by kernel_rfl) (by kernel_rfl) (fun _ _ _ h => h) (yieldsIf_load_mid (by kernel_rfl) 29 _ rfl (bHX) (0) rfl (W6.cs (limb (W6.el m B))).toList _ (fun V hV => rangeOf ((hV.block _ (lt_of_block HX.out)).trans HX.out)) W6.under rfl (W6.info _)) hS ?_
                        simp only [put_list, List.set_cons_succ, List.set_cons_zero]
                        refine wpAnyH_takeL (i := 14) (v := ?_) rfl (by kernel_rfl) (by kernel_rfl) (by kernel_rfl) (fun _ _ _ h => h) (Or.inl ⟨by kernel_rfl, ?_⟩) hS ?_
                        rotate_left
                        · intro V hV
                          go_simp
                          (try with_reducible rfl)
                        simp only [put_list, List.set_cons_succ, List.set_cons_zero]
                        refine wpAnyH_takeL (i := 15) (v := ?_) rfl (by kernel_rfl) (by kernel_rfl) (by kernel_rfl) (fun _ _ _ h => h) (Or.inl ⟨by kernel_rfl, ?_⟩) hS ?_
                        rotate_left
                        · intro V hV
                          go_simp
                          (try with_reducible rfl)
                        simp only [put_list, List.set_cons_succ, List.set_cons_zero]
                        refine wpAnyH_ready (rs := [16]) (by kernel_rfl) (by simp) (AllReadyH.cons rfl (fun K hK => ?_) AllReadyH.nil)
                        go_simp
                        refine (HI0.out _ _ (HG.out.below hS)).mono ?_
                        rintro r y3 ⟨rfl, hb⟩
                        refine hK.out _ _ (hS.trans (hb.mono hS.size)) (fun hS2 => ?_)
                        clear hS
                        have hS := hS2
                        clear hS2
                        clear hb
                        clear hK K
                        as_aux_lemma =>
                          refine wpAnyH_takeL (i := 17) (v := .bool (false)) rfl (by kernel_rfl) (by kernel_rfl) (by kernel_rfl) (fun _ _ _ h => h) (Or.inl ⟨by kernel_rfl, ?_⟩) hS ?_
                          · intro V hV
                            exact exec_eq6 rfl rfl V (HZZ.out V)
                          simp only [put_list, List.set_cons_succ, List.set_cons_zero]
                          refine wpAnyH_takeL (i := 18) (v := ?_) rfl (by kernel_rfl) (by kernel_rfl) (by kernel_rfl) (fun _ _ _ h => h) (Or.inl ⟨by kernel_rfl, ?_⟩) hS ?_
                          rotate_left
                          · intro V hV
                            go_simp
                            (try with_reducible rfl)
                          simp only [put_list, List.set_cons_succ, List.set_cons_zero]
                          refine wpAnyH_takeL (i := 19) (v := ?_) rfl (by kernel_rfl) (by kernel_rfl) (by kernel_rfl) (fun _ _ _ h => h) (Or.inl ⟨by kernel_rfl, ?_⟩) hS ?_
                          rotate_left
                          · intro V hV
                            go_simp
                            (try with_reducible rfl)
                          simp only [put_list, List.set_cons_succ, List.set_cons_zero]
                          refine wpAnyH_takeL (i := 20) (v := .agg (W6.cs (limb (W6.el m B)))) rfl (by kernel_rfl) (by kernel_rfl) (by kernel_rfl) (fun _ _ _ h => h) (yieldsIf_load_mid (by kernel_rfl) 29 _ rfl (bHX) (0) rfl (W6.cs (limb (W6.el m B))).toList _ (fun V hV => rangeOf ((hV.block _ (lt_of_block HX.out)).trans HX.out)) W6.under rfl (W6.info _)) hS ?_
                          simp only [put_list, List.set_cons_succ, List.set_cons_zero]
                          refine wpAnyH_takeL (i := 21) (v := ?_) rfl (by kernel_rfl) (by kernel_rfl) (by kernel_rfl) (fun _ _ _ h => h) (Or.inl ⟨by kernel_rfl, ?_⟩) hS ?_
                          rotate_left
                          · intro V hV
                            go_simp
                            (try with_reducible rfl)
                          simp only [put_list, List.set_cons_succ, List.set_cons_zero]
                          refine wpAnyH_takeL (i := 22) (v := .agg (W6.cs (limb (W6.el m B)))) rfl (by kernel_rfl) (by kernel_rfl) (by kernel_rfl) (fun _ _ _ h => h) (yieldsIf_load_mid (by kernel_rfl) 29 _ rfl (bHX) (0) rfl (W6.cs (limb (W6.el m B))).toList _ (fun V hV => rangeOf ((hV.block _ (lt_of_block HX.out)).trans HX.out)) W6.under rfl (W6.info _)) hS ?_
                          simp only [put_list, List.set_cons_succ, List.set_cons_zero]
                          as_aux_lemma =>
                            refine wpAnyH_takeL (i := 25) (v := ?_) rfl (by kernel_rfl) (by kernel_rfl) (by kernel_rfl) (fun _ _ _ h => h) (Or.inl ⟨by kernel_rfl, ?_⟩) hS ?_
                            rotate_left
                            · intro V hV
                              go_simp
                              (try with_reducible rfl)
                            simp only [put_list, List.set_cons_succ, List.set_cons_zero]
                            refine wpAnyH_takeL (i := 26) (v := ?_) rfl (by kernel_rfl) (by kernel_rfl) (by kernel_rfl) (fun _ _ _ h => h) (Or.inl ⟨by kernel_rfl, ?_⟩) hS ?_
                            rotate_left
                            · intro V hV
                              go_simp
                              (try with_reducible rfl)
                            simp only [put_list, List.set_cons_succ, List.set_cons_zero]
                            refine wpAnyH_ready (rs := [23]) (by kernel_rfl) (by simp) (AllReadyH.cons rfl (fun K hK => ?_) AllReadyH.nil)
                            go_simp
                            refine (W6.inv_any (HG.out.below hS) B).mono ?_
                            rintro r y4 ⟨rfl, hb⟩
                            refine hK.out _ _ (hS.trans (hb.mono hS.size)) (fun hS2 => ?_)
                            clear hS
                            have hS := hS2
                            clear hS2
                            clear hb
                            clear hK K
                            refine wpAnyH_ready (rs := [24]) (by kernel_rfl) (by simp) (AllReadyH.cons rfl (fun K hK => ?_) AllReadyH.nil)
                            go_simp
                            refine (W6.mulM_any (HG.out.below hS) B (B ^ (m - 2))).mono ?_
                            rintro r y5 ⟨rfl, hb⟩
                            refine hK.out _ _ (hS.trans (hb.mono hS.size)) (fun hS2 => ?_)
                            clear hS
                            have hS := hS2
                            clear hS2
                            clear hb
                            clear hK K
                            refine wpAnyH_ready (rs := [27]) (by kernel_rfl) (by simp) (AllReadyH.cons rfl (fun K hK => ?_) AllReadyH.nil)
                            go_simp
                            refine (HI1.out _ _ (HG.out.below hS)).mono ?_
                            rintro r y6 ⟨rfl, hb⟩
                            refine hK.out _ _ (hS.trans (hb.mono hS.size)) (fun hS2 => ?_)
                            clear hS
                            have hS := hS2
                            clear hS2
                            clear hb
                            clear hK K
                            refine wpAnyH_takeL (i := 28) (v := .bool (true)) rfl (by kernel_rfl) (by kernel_rfl) (by kernel_rfl) (fun _ _ _ h => h) (Or.inl ⟨by kernel_rfl, ?_⟩) hS ?_
                            · intro V hV
                              exact exec_eq6 rfl rfl V (W6.eq_els2 HMF.out HIV.out V)
                            simp only [put_list, List.set_cons_succ, List.set_cons_zero]
                            as_aux_lemma =>
                              refine wpAnyH_takeL (i := 29) (v := ?_) rfl (by kernel_rfl) (by kernel_rfl) (by kernel_rfl) (fun _ _ _ h => h) (Or.inl ⟨by kernel_rfl, ?_⟩) hS ?_
                              rotate_left
                              · intro V hV
                                go_simp
                                (try with_reducible rfl)
                              simp only [put_list, List.set_cons_succ, List.set_cons_zero]
                              refine wpAnyH_takeL (i := 30) (v := ?_) rfl (by kernel_rfl) (by kernel_rfl) (by kernel_rfl) (fun _ _ _ h => h) (Or.inl ⟨by kernel_rfl, ?_⟩) hS ?_
                              rotate_left
                              · intro V hV
                                go_simp
                                (try with_reducible rfl)
                              simp only [put_list, List.set_cons_succ, List.set_cons_zero]
                              refine wpAnyH_ready (rs := [31]) (by kernel_rfl) (by simp) (AllReadyH.cons rfl (fun K hK => ?_) AllReadyH.nil)
                              go_simp
                              refine hK.out _ _ hS (fun hS => ?_)
                              clear hK K
                              refine wpAnyH_done (by kernel_rfl) ?_ _
                              (try simp only [put_none])
                              have HF := hideP (HBW.out.trans (hS.mono HBW.out.size))
                              clear hS
                              go_wp2
                              go_ret
                              exact ⟨rfl, HF.out⟩

end Go.Proofs.Ytiekipkmfopdoaa
