/-
  Two different items have forms of which neither begins with the other: the walk of RlpOne.
-/
import Derived.Test.YtigebmidfddbcaaCut
import Derived.Test.YtigebmidfddbcaaRSame
namespace Go.Proofs.Ytigebmidfddbcaa
open Go.RowKit Go.Shelf

theorem prefix_one {t1 t2 : Tree} (h1 : (t1.meas 0).2 = 0) (h2 : (t2.meas 0).2 = 0) (s1 : t1.enc.length ≤ 1099511627776) (s2 : t2.enc.length ≤ 1099511627776) (hle : t1.enc.length ≤ t2.enc.length) :
    (∀ j, j < t1.enc.length → lb t2.enc j = lb t1.enc j) ↔ t1 = t2 := by
  constructor
  · intro h
    have ha : At (lb t2.enc) 0 t1.enc := fun j hj => by rw [Nat.zero_add]; exact h j hj
    have e1 := hd_form h1 s1 ha hle
    have e2 := hd_form h2 s2 (At.lb t2.enc) (Nat.le_refl _)
    rw [e1] at e2
    have hl : t1.enc.length = t2.enc.length := by
      have := congrArg (fun x => x.2.2.1) e2
      exact this
    have d1 := dec_form h1 s1 ha hle
    have d2 := dec_form h2 s2 (At.lb t2.enc) (Nat.le_refl _)
    rw [if_neg (by omega)] at d1 d2
    rw [d1] at d2
    exact congrArg Prod.fst d2
  · rintro rfl j _
    rfl

theorem toList_beq {s1 s2 : ByteArray} {r : Bool} {p : Prop} (h1 : s1 = s2 ↔ p) (h2 : r = true ↔ p) : ((s1.toList == s2.toList) == r) = true := by
  by_cases h : s1 = s2
  · have hr := h2.2 (h1.1 h)
    rw [hr, h]
    simp
  · rw [toList_ne h]
    cases r with
    | false => rfl
    | true => exact absurd (h1.2 (h2.1 rfl)) h

theorem prefix_str {t1 t2 : Tree} (h1 : (t1.meas 0).2 = 0) (h2 : (t2.meas 0).2 = 0) (s1 : t1.enc.length ≤ 1099511627776) (s2 : t2.enc.length ≤ 1099511627776) (hle : t1.enc.length ≤ t2.enc.length) (b1 : ∀ j, lb t1.enc j < 256) (b2 : ∀ j, lb t2.enc j < 256) :
    strB (lb t2.enc) t1.enc.length = strB (lb t1.enc) t1.enc.length ↔ t1 = t2 := by
  rw [← prefix_one h1 h2 s1 s2 hle]
  constructor
  · intro h
    exact (strB_inj b2 b1 h).2
  · exact strB_congr

set_option maxHeartbeats 8000000 in
set_option maxRecDepth 100000 in
theorem rlpOne_walk {ns1 : List Nd} {ao1 : Option Addr} {c1 : Nat} {ns2 : List Nd} {ao2 : Option Addr} {c2 : Nat} (w : World)
    (h1 : NS w ns1 ao1 c1) (hok1 : NdOk ns1) (hlen1 : ns1.length ≤ 3518437208884) (hbulk1 : ndBulk ns1 ≤ 1048576) (h2 : NS w ns2 ao2 c2) (hok2 : NdOk ns2) (hlen2 : ns2.length ≤ 3518437208884) (hbulk2 : ndBulk ns2 ≤ 1048576) :
    Calls Try.prog 9 #[.slice ao1 ns1.length c1, .slice ao2 ns2.length c2] w fun e w' => e = .returned (.bool true) ∧ Below w.heap.size w w' := by
  have HC1 := hideP (fun (W : World) (hb : Below w.heap.size w W) => lawItem_any W (h1.moved hb) hok1 hlen1)
  have HC2 := hideP (fun (W : World) (hb : Below w.heap.size w W) => lawItem_any W (h2.moved hb) hok2 hlen2)
  have hwt1 := treeOf_wt ns1
  have hwt2 := treeOf_wt ns2
  have HWT1 : Hid ((treeOf ns1).wt ≤ 3145737) := hideP (by omega)
  have HWT2 : Hid ((treeOf ns2).wt ≤ 3145737) := hideP (by omega)
  clear h1 h2 hok1 hok2 hlen1 hlen2 hbulk1 hbulk2 hwt1 hwt2
  generalize treeOf ns1 = t1 at *
  generalize treeOf ns2 = t2 at *
  generalize ns1.length = nn1 at *
  generalize ns2.length = nn2 at *
  go_enter Try.func9, Try.ntmps9
  go_wp2_with fail
  refine (awake_any _).mono ?_
  rintro e W1 ⟨rfl, hb1⟩
  have H1 := hideP hb1
  clear hb1
  go_wp2_with fail
  refine (HC1.out _ H1.out).mono ?_
  rintro e W2 ⟨⟨v2, rfl, hi2⟩, hb2⟩
  have hi2 := hi2.uncut
  have HBY1 := hideP hi2.by
  have HE := hideP (encode_any W2 hi2 (by have := HWT1.out; omega) (by have := HWT1.out; have := Tree.num_le t1; omega))
  have H2 := hideP (H1.out.trans (hb2.mono H1.out.size))
  clear hi2 hb2 H1
  go_wp2_with fail
  refine HE.out.mono ?_
  rintro e W3 ⟨⟨r3, rfl, hr3⟩, hb3⟩
  have H3 := hideP (H2.out.trans (hb3.mono H2.out.size))
  have HR3 := hideP hr3
  clear HE hb3 H2 hr3
  generalize hme1 : (t1.meas 0).2 = me1 at *
  have HME1 := hideP hme1
  clear hme1
  go_wp2_with fail
  refine (HC2.out _ H3.out).mono ?_
  rintro e W4 ⟨⟨v4, rfl, hi4⟩, hb4⟩
  have hi4 := hi4.uncut
  have HBY2 := hideP hi4.by
  have HE := hideP (encode_any W4 hi4 (by have := HWT2.out; omega) (by have := HWT2.out; have := Tree.num_le t2; omega))
  have H4 := hideP (H3.out.trans (hb4.mono H3.out.size))
  have HB4 := hideP hb4
  clear hi4 hb4 H3
  go_wp2_with fail
  refine HE.out.mono ?_
  rintro e W6 ⟨⟨r6, rfl, hr6⟩, hb6⟩
  have H06 := hideP (H4.out.trans (hb6.mono H4.out.size))
  have HR6 := hideP hr6
  have HB6 := hideP (HB4.out.trans (hb6.mono HB4.out.size))
  clear HE hb6 H4 hr6 HB4
  generalize hme2 : (t2.meas 0).2 = me2 at *
  have HME2 := hideP hme2
  clear hme2
  by_cases h01 : me1 = 0
  · subst h01
    by_cases h02 : me2 = 0
    · subst h02
      obtain ⟨G1, rfl, _, hg1⟩ := HR3.out.ok HME1.out
      obtain ⟨G2, rfl, _, hg2⟩ := HR6.out.ok HME2.out
      have hw1 := HWT1.out
      have hw2 := HWT2.out
      have hel1 := Tree.enc_le t1 (by omega)
      have hel2 := Tree.enc_le t2 (by omega)
      have hlt1 := lb_lt (Tree.enc_by t1 HBY1.out (by omega))
      have hlt2 := lb_lt (Tree.enc_by t2 HBY2.out (by omega))
      have hE1 : BS W6 (some ⟨G1, 0, none⟩) t1.enc.length t1.enc.length (lb t1.enc) := BS.cbs hlt1 (by unfold maxLen; omega) ((HB6.out.block _ (lt_of_block hg1)).trans hg1)
      have hE2 : BS W6 (some ⟨G2, 0, none⟩) t2.enc.length t2.enc.length (lb t2.enc) := BS.cbs hlt2 (by unfold maxLen; omega) hg2
      have HA := hideP hE1
      have HB := hideP hE2
      by_cases hcmp : t1.enc.length ≤ t2.enc.length
      · have hpr := prefix_str HME1.out HME2.out (by omega) (by omega) hcmp hlt1 hlt2
        obtain ⟨hBP, hsl⟩ := hE2.upto (k := t1.enc.length) hcmp
        have HBP := hideP hBP
        have g1 : ¬ (t1.enc.length : Int) > (t2.enc.length : Int) := by omega
        have g1' : ¬ (t2.enc.length : Int) < (t1.enc.length : Int) := by omega
        generalize hs1 : strB (lb t2.enc) t1.enc.length = s1 at *
        generalize hs2 : strB (lb t1.enc) t1.enc.length = s2 at *
        have HPR := hideP hpr
        have HST := hideP (And.intro hs1 hs2)
        clear hpr hs1 hs2 hE1 hE2 hBP hlt1 hlt2 hel1 hel2 hw1 hw2 hg1 hg2 hcmp
        generalize t1.enc.length = n1 at *
        generalize t2.enc.length = n2 at *
        go_wp2_with fail
        rename_i Q2 K2 hK2
        have HK2 := hideP hK2
        clear hK2
        refine region_lateK [] (fun V0 => Below W6.heap.size W6 V0) (by kernel_rfl) (Below.refl _ W6).drew (fun hS => ?_)
        refine anyZ_take (i := 0) (g := 5) (v := ?_) rfl (by kernel_rfl) (by kernel_rfl) (by kernel_rfl) (by kernel_rfl) (by kernel_rfl) (fun _ _ _ h => h) (Or.inl ⟨by kernel_rfl, ?_⟩) hS ?_
        rotate_left
        · intro V0 hV
          go_simp
          (try with_reducible rfl)
        simp only [put_list, List.set_cons_succ, List.set_cons_zero]
        refine anyZ_take (i := 1) (g := 5) (v := ?_) rfl (by kernel_rfl) (by kernel_rfl) (by kernel_rfl) (by kernel_rfl) (by kernel_rfl) (fun _ _ _ h => h) (Or.inl ⟨by kernel_rfl, ?_⟩) hS ?_
        rotate_left
        · intro V0 hV
          go_simp
          (try with_reducible rfl)
        simp only [put_list, List.set_cons_succ, List.set_cons_zero]
        refine anyZ_take (i := 2) (g := 5) (v := ?_) rfl (by kernel_rfl) (by kernel_rfl) (by kernel_rfl) (by kernel_rfl) (by kernel_rfl) (fun _ _ _ h => h) (Or.inl ⟨by kernel_rfl, ?_⟩) hS ?_
        rotate_left
        · intro V0 hV
          go_simp
          (try with_reducible rfl)
        simp only [put_list, List.set_cons_succ, List.set_cons_zero]
        refine anyZ_take (i := 3) (g := 5) (v := ?_) rfl (by kernel_rfl) (by kernel_rfl) (by kernel_rfl) (by kernel_rfl) (by kernel_rfl) (fun _ _ _ h => h) (Or.inl ⟨by kernel_rfl, ?_⟩) hS ?_
        rotate_left
        · intro V0 hV
          go_simp
          (try with_reducible rfl)
        simp only [put_list, List.set_cons_succ, List.set_cons_zero]
        refine anyZ_take (i := 4) (g := 5) (v := ?_) rfl (by kernel_rfl) (by kernel_rfl) (by kernel_rfl) (by kernel_rfl) (by kernel_rfl) (fun _ _ _ h => h) (Or.inl ⟨by kernel_rfl, ?_⟩) hS ?_
        rotate_left
        · intro V0 hV
          have hcv := conv_BS (HBP.out.moved hV)
          rw [HST.out.1] at hcv
          go_simp
          (try with_reducible rfl)
        simp only [put_list, List.set_cons_succ, List.set_cons_zero]
        refine anyZ_take (i := 5) (g := 5) (v := ?_) rfl (by kernel_rfl) (by kernel_rfl) (by kernel_rfl) (by kernel_rfl) (by kernel_rfl) (fun _ _ _ h => h) (Or.inl ⟨by kernel_rfl, ?_⟩) hS ?_
        rotate_left
        · intro V0 hV
          go_simp
          (try with_reducible rfl)
        simp only [put_list, List.set_cons_succ, List.set_cons_zero]
        refine anyZ_take (i := 6) (g := 5) (v := ?_) rfl (by kernel_rfl) (by kernel_rfl) (by kernel_rfl) (by kernel_rfl) (by kernel_rfl) (fun _ _ _ h => h) (Or.inl ⟨by kernel_rfl, ?_⟩) hS ?_
        rotate_left
        · intro V0 hV
          have hcv := conv_BS (HA.out.moved hV)
          rw [HST.out.2] at hcv
          go_simp
          (try with_reducible rfl)
        simp only [put_list, List.set_cons_succ, List.set_cons_zero]
        refine anyZ_take (i := 7) (g := 5) (v := ?_) rfl (by kernel_rfl) (by kernel_rfl) (by kernel_rfl) (by kernel_rfl) (by kernel_rfl) (fun _ _ _ h => h) (Or.inl ⟨by kernel_rfl, ?_⟩) hS ?_
        rotate_left
        · intro V0 hV
          go_simp
          (try with_reducible rfl)
        simp only [put_list, List.set_cons_succ, List.set_cons_zero]
        refine anyZ_take (i := 8) (g := 5) (v := ?_) rfl (by kernel_rfl) (by kernel_rfl) (by kernel_rfl) (by kernel_rfl) (by kernel_rfl) (fun _ _ _ h => h) (Or.inl ⟨by kernel_rfl, ?_⟩) hS ?_
        rotate_left
        · intro V0 hV
          go_simp
          (try with_reducible rfl)
        simp only [put_list, List.set_cons_succ, List.set_cons_zero]
        refine anyZ_take (i := 10) (g := 5) (v := ?_) rfl (by kernel_rfl) (by kernel_rfl) (by kernel_rfl) (by kernel_rfl) (by kernel_rfl) (fun _ _ _ h => h) (Or.inl ⟨by kernel_rfl, ?_⟩) hS ?_
        rotate_left
        · intro V0 hV
          go_simp
          (try with_reducible rfl)
        simp only [put_list, List.set_cons_succ, List.set_cons_zero]
        refine anyZ_one (i := 9) (by kernel_rfl) rfl (fun Kc hKc => ?_)
        go_simp
        refine (HC1.out _ (H06.out.trans (hS.mono H06.out.size))).mono ?_
        rintro e W7 ⟨⟨v7, rfl, hi7⟩, hb7⟩
        have hi7 := hi7.uncut
        have hS := hS.trans (hb7.mono hS.size)
        refine hKc.out _ _ (fun _ => hS) ?_
        clear hKc Kc hb7
        refine anyZ_one (i := 11) (by kernel_rfl) rfl (fun Kc hKc => ?_)
        go_simp
        refine (HC2.out _ (H06.out.trans (hS.mono H06.out.size))).mono ?_
        rintro e W8 ⟨⟨v8, rfl, hi8⟩, hb8⟩
        have hi8 := hi8.uncut
        have hS := hS.trans (hb8.mono hS.size)
        refine hKc.out _ _ (fun _ => hS) ?_
        clear hKc Kc
        refine anyZ_one (i := 12) (by kernel_rfl) rfl (fun Kc hKc => ?_)
        go_simp
        refine (refSame_all _ _ _ _ _ _ (Nat.le_refl _) (hi7.moved hb8) hi8).mono ?_
        rintro e W9 ⟨⟨r, rfl, hr⟩, hb9⟩
        have hS := hS.trans (hb9.mono hS.size)
        refine hKc.out _ _ (fun _ => hS) ?_
        clear hKc Kc hi7 hi8 hb8 hb9
        have hfin := toList_beq HPR.out hr
        refine anyZ_take (i := 13) (g := 5) (v := ?_) rfl (by kernel_rfl) (by kernel_rfl) (by kernel_rfl) (by kernel_rfl) (by kernel_rfl) (fun _ _ _ h => h) (Or.inl ⟨by kernel_rfl, ?_⟩) hS ?_
        rotate_left
        · intro V0 hV
          go_simp
          (try with_reducible rfl)
        simp only [put_list, List.set_cons_succ, List.set_cons_zero]
        refine anyZ_one (i := 14) (by kernel_rfl) rfl (fun Kc hKc => ?_)
        go_simp
        refine hKc.out _ _ (fun _ => hS) ?_
        clear hKc Kc
        refine anyZ_done (by kernel_rfl) ?_ _
        change K2 _ _
        refine HK2.out _ _ ?_
        have HS := hideP hS
        clear hfin hr hS
        go_wp2_with fail
        go_ret
        exact ⟨rfl, H06.out.trans (HS.out.mono H06.out.size)⟩
      · have hpr := prefix_str HME2.out HME1.out (by omega) (by omega) (by omega) hlt2 hlt1
        obtain ⟨hBP, hsl⟩ := hE1.upto (k := t2.enc.length) (by omega)
        have HBP := hideP hBP
        have g1 : (t1.enc.length : Int) > (t2.enc.length : Int) := by omega
        have g1' : (t2.enc.length : Int) < (t1.enc.length : Int) := by omega
        generalize hs1 : strB (lb t1.enc) t2.enc.length = s1 at *
        generalize hs2 : strB (lb t2.enc) t2.enc.length = s2 at *
        have HPR := hideP hpr
        have HST := hideP (And.intro hs1 hs2)
        clear hpr hs1 hs2 hE1 hE2 hBP hlt1 hlt2 hel1 hel2 hw1 hw2 hg1 hg2 hcmp
        generalize t1.enc.length = n1 at *
        generalize t2.enc.length = n2 at *
        go_wp2_with fail
        rename_i Q2 K2 hK2
        have HK2 := hideP hK2
        clear hK2
        refine region_lateK [] (fun V0 => Below W6.heap.size W6 V0) (by kernel_rfl) (Below.refl _ W6).drew (fun hS => ?_)
        refine anyZ_take (i := 0) (g := 5) (v := ?_) rfl (by kernel_rfl) (by kernel_rfl) (by kernel_rfl) (by kernel_rfl) (by kernel_rfl) (fun _ _ _ h => h) (Or.inl ⟨by kernel_rfl, ?_⟩) hS ?_
        rotate_left
        · intro V0 hV
          go_simp
          (try with_reducible rfl)
        simp only [put_list, List.set_cons_succ, List.set_cons_zero]
        refine anyZ_take (i := 1) (g := 5) (v := ?_) rfl (by kernel_rfl) (by kernel_rfl) (by kernel_rfl) (by kernel_rfl) (by kernel_rfl) (fun _ _ _ h => h) (Or.inl ⟨by kernel_rfl, ?_⟩) hS ?_
        rotate_left
        · intro V0 hV
          go_simp
          (try with_reducible rfl)
        simp only [put_list, List.set_cons_succ, List.set_cons_zero]
        refine anyZ_take (i := 2) (g := 5) (v := ?_) rfl (by kernel_rfl) (by kernel_rfl) (by kernel_rfl) (by kernel_rfl) (by kernel_rfl) (fun _ _ _ h => h) (Or.inl ⟨by kernel_rfl, ?_⟩) hS ?_
        rotate_left
        · intro V0 hV
          go_simp
          (try with_reducible rfl)
        simp only [put_list, List.set_cons_succ, List.set_cons_zero]
        refine anyZ_take (i := 3) (g := 5) (v := ?_) rfl (by kernel_rfl) (by kernel_rfl) (by kernel_rfl) (by kernel_rfl) (by kernel_rfl) (fun _ _ _ h => h) (Or.inl ⟨by kernel_rfl, ?_⟩) hS ?_
        rotate_left
        · intro V0 hV
          go_simp
          (try with_reducible rfl)
        simp only [put_list, List.set_cons_succ, List.set_cons_zero]
        refine anyZ_take (i := 4) (g := 5) (v := ?_) rfl (by kernel_rfl) (by kernel_rfl) (by kernel_rfl) (by kernel_rfl) (by kernel_rfl) (fun _ _ _ h => h) (Or.inl ⟨by kernel_rfl, ?_⟩) hS ?_
        rotate_left
        · intro V0 hV
          have hcv := conv_BS (HBP.out.moved hV)
          rw [HST.out.1] at hcv
          go_simp
          (try with_reducible rfl)
        simp only [put_list, List.set_cons_succ, List.set_cons_zero]
        refine anyZ_take (i := 5) (g := 5) (v := ?_) rfl (by kernel_rfl) (by kernel_rfl) (by kernel_rfl) (by kernel_rfl) (by kernel_rfl) (fun _ _ _ h => h) (Or.inl ⟨by kernel_rfl, ?_⟩) hS ?_
        rotate_left
        · intro V0 hV
          go_simp
          (try with_reducible rfl)
        simp only [put_list, List.set_cons_succ, List.set_cons_zero]
        refine anyZ_take (i := 6) (g := 5) (v := ?_) rfl (by kernel_rfl) (by kernel_rfl) (by kernel_rfl) (by kernel_rfl) (by kernel_rfl) (fun _ _ _ h => h) (Or.inl ⟨by kernel_rfl, ?_⟩) hS ?_
        rotate_left
        · intro V0 hV
          have hcv := conv_BS (HB.out.moved hV)
          rw [HST.out.2] at hcv
          go_simp
          (try with_reducible rfl)
        simp only [put_list, List.set_cons_succ, List.set_cons_zero]
        refine anyZ_take (i := 7) (g := 5) (v := ?_) rfl (by kernel_rfl) (by kernel_rfl) (by kernel_rfl) (by kernel_rfl) (by kernel_rfl) (fun _ _ _ h => h) (Or.inl ⟨by kernel_rfl, ?_⟩) hS ?_
        rotate_left
        · intro V0 hV
          go_simp
          (try with_reducible rfl)
        simp only [put_list, List.set_cons_succ, List.set_cons_zero]
        refine anyZ_take (i := 8) (g := 5) (v := ?_) rfl (by kernel_rfl) (by kernel_rfl) (by kernel_rfl) (by kernel_rfl) (by kernel_rfl) (fun _ _ _ h => h) (Or.inl ⟨by kernel_rfl, ?_⟩) hS ?_
        rotate_left
        · intro V0 hV
          go_simp
          (try with_reducible rfl)
        simp only [put_list, List.set_cons_succ, List.set_cons_zero]
        refine anyZ_take (i := 10) (g := 5) (v := ?_) rfl (by kernel_rfl) (by kernel_rfl) (by kernel_rfl) (by kernel_rfl) (by kernel_rfl) (fun _ _ _ h => h) (Or.inl ⟨by kernel_rfl, ?_⟩) hS ?_
        rotate_left
        · intro V0 hV
          go_simp
          (try with_reducible rfl)
        simp only [put_list, List.set_cons_succ, List.set_cons_zero]
        refine anyZ_one (i := 9) (by kernel_rfl) rfl (fun Kc hKc => ?_)
        go_simp
        refine (HC1.out _ (H06.out.trans (hS.mono H06.out.size))).mono ?_
        rintro e W7 ⟨⟨v7, rfl, hi7⟩, hb7⟩
        have hi7 := hi7.uncut
        have hS := hS.trans (hb7.mono hS.size)
        refine hKc.out _ _ (fun _ => hS) ?_
        clear hKc Kc hb7
        refine anyZ_one (i := 11) (by kernel_rfl) rfl (fun Kc hKc => ?_)
        go_simp
        refine (HC2.out _ (H06.out.trans (hS.mono H06.out.size))).mono ?_
        rintro e W8 ⟨⟨v8, rfl, hi8⟩, hb8⟩
        have hi8 := hi8.uncut
        have hS := hS.trans (hb8.mono hS.size)
        refine hKc.out _ _ (fun _ => hS) ?_
        clear hKc Kc
        refine anyZ_one (i := 12) (by kernel_rfl) rfl (fun Kc hKc => ?_)
        go_simp
        refine (refSame_all _ _ _ _ _ _ (Nat.le_refl _) (hi7.moved hb8) hi8).mono ?_
        rintro e W9 ⟨⟨r, rfl, hr⟩, hb9⟩
        have hS := hS.trans (hb9.mono hS.size)
        refine hKc.out _ _ (fun _ => hS) ?_
        clear hKc Kc hi7 hi8 hb8 hb9
        have hfin := toList_beq (HPR.out.trans ⟨Eq.symm, Eq.symm⟩) hr
        refine anyZ_take (i := 13) (g := 5) (v := ?_) rfl (by kernel_rfl) (by kernel_rfl) (by kernel_rfl) (by kernel_rfl) (by kernel_rfl) (fun _ _ _ h => h) (Or.inl ⟨by kernel_rfl, ?_⟩) hS ?_
        rotate_left
        · intro V0 hV
          go_simp
          (try with_reducible rfl)
        simp only [put_list, List.set_cons_succ, List.set_cons_zero]
        refine anyZ_one (i := 14) (by kernel_rfl) rfl (fun Kc hKc => ?_)
        go_simp
        refine hKc.out _ _ (fun _ => hS) ?_
        clear hKc Kc
        refine anyZ_done (by kernel_rfl) ?_ _
        change K2 _ _
        refine HK2.out _ _ ?_
        have HS := hideP hS
        clear hfin hr hS
        go_wp2_with fail
        go_ret
        exact ⟨rfl, H06.out.trans (HS.out.mono H06.out.size)⟩
    · have h02' : ¬ (me2 : Int) = 0 := by omega
      clear HR3 HR6
      go_wp2_with fail
      go_ret
      exact ⟨rfl, H06.out⟩
  · have h01' : ¬ (me1 : Int) = 0 := by omega
    clear HR3 HR6
    go_wp2_with fail
    go_ret
    exact ⟨rfl, H06.out⟩

end Go.Proofs.Ytigebmidfddbcaa
