/-
  The document's reduce.
-/
import Derived.Test.YtiekipkmfopdoaaRRedN
namespace Go.Proofs.Ytiekipkmfopdoaa
open Go.RowKit Go.Shelf

set_option maxHeartbeats 8000000 in
set_option maxRecDepth 100000 in
theorem rreduce_any {n : Nat} (h1n : 0 < n) (hn : n ≤ 8) (A M fo : Nat) (hM : M < 18446744073709551616 ^ n) (h0 : 0 < M) (hA : A < M * 18446744073709551616 ^ n) (hf : (M % 18446744073709551616 * fo + 1) % 18446744073709551616 = 0) (w : World) (u mv tv : Value) (hu : LW w u (n + n) (limb A)) (hm : LW w mv n (limb M)) :
    Calls Try.prog 88 #[.agg #[mv, .int .u64 fo, tv], u] w fun r w' => (∃ v', r = .returned v' ∧ ∃ P, LW w' v' n (limb P) ∧ P < M ∧ P * 18446744073709551616 ^ n % M = A % M) ∧ Below w.heap.size w w' := by
  obtain ⟨g2, o2, c2, rfl, _, _, l2, h2⟩ := hm.ex
  have H2 := hideP h2
  have HM := hideP hm
  have HU := hideP hu
  have HH : Hid (0 < n ∧ n ≤ 8 ∧ M < 18446744073709551616 ^ n ∧ 0 < M ∧ A < M * 18446744073709551616 ^ n ∧ (M % 18446744073709551616 * fo + 1) % 18446744073709551616 = 0) := ⟨h1n, hn, hM, h0, hA, hf⟩
  clear h2 hu hm hM h0 hA hf h1n hn
  go_enter Try.func88, Try.ntmps88
  refine wp_seqH (fun K0 HK0 => ?_)
  go_wp2_with fail
  refine HK0.out _ _ ?_
  refine at_world (fun W0 hW0 => ?_)
  have hF : W0.heap[w.heap.size]? = some (.cells #[.slice (some ⟨g2, o2, none⟩) n c2, .int .u64 fo, tv] 38 (0, 0)) := by
    rw [hW0]
    exact heap_new _ _
  have HBW : Hid (Below w.heap.size w W0) := by
    show Below _ _ _
    rw [hW0]
    repeat first | exact Below.refl _ _ | (refine Below.alloc ?_ (by simp <;> omega) _)
  have hWs : W0.heap.size = w.heap.size + 1 := by rw [hW0]; simp
  clear hW0
  have f0 := blk_cell (o := 0) hF rfl
  have f1 := blk_cell (o := 1) hF rfl
  obtain ⟨h1n, hn, hM, h0, hA, hf⟩ := HH.out
  obtain ⟨ga, ca, w1, hr1, hO1, hb1⟩ := append_list (N := n + n) (by omega) (by omega) (HU.out.moved HBW.out)
  obtain ⟨D, cap, w2, hr2, hRW, hDg, hcap, hcm, hb2⟩ := append_nought (w0 := W0) (by omega) hO1 hb1.size
  have hb := hb1.trans hb2
  obtain ⟨N, hN⟩ : ∃ N, N = n + n + 1 := ⟨_, rfl⟩
  obtain ⟨NN, hNN⟩ : ∃ NN, NN = n + n := ⟨_, rfl⟩
  have HF2 := hideP ((hb.block _ (lt_of_block hF)).trans hF)
  have HB2 := hideP (HBW.out.trans (hb.mono HBW.out.size))
  have HOI : Hid (OI w2 w2 D N A M (fun j => if j < n + n then limb A j else 0) 0) := by
    have hAl : A < 18446744073709551616 ^ (n + n) := by
      rw [Nat.pow_add]
      exact Nat.lt_of_lt_of_le hA (Nat.mul_le_mul_right _ (Nat.le_of_lt hM))
    have hv : val (fun j => if j < n + n then limb A j else 0) N = A := by
      rw [hN]
      show val (fun j => if j < n + n then limb A j else 0) (n + n) + (if n + n < n + n then limb A (n + n) else 0) * 18446744073709551616 ^ (n + n) = A
      rw [if_neg (by omega), Nat.zero_mul, Nat.add_zero, val_congr (g := limb A) _ (fun j hj => by rw [if_pos hj]), val_limbs hAl]
    refine ⟨fun j => ?_, by rw [Nat.pow_zero, Nat.mod_one], ⟨0, by decide, by rw [hv]; omega⟩, by rw [hN]; exact hRW, But.refl _ _⟩
    split
    · exact limb_lt _ _
    · decide
  have hDF : D ≠ w.heap.size := by omega
  have HX : Hid (w.heap.size < D ∧ N ≤ cap ∧ cap ≤ maxLen ∧ N = n + n + 1 ∧ NN = n + n) := ⟨by omega, by omega, hcm, hN, hNN⟩
  rw [← hN] at hr2
  rw [← hNN] at hr1 hr2
  clear h1n hn hM h0 hA hf hF hO1 hRW hDg hcap hcm hb1 hb2 hb hN hNN hWs HU HBW
  go_wp2_with (first | refine wpList_append_run rfl _ _ 27 rfl rfl rfl rfl hr1 ?_ | refine wpList_append_run rfl _ _ 27 rfl rfl rfl rfl hr2 ?_)
  clear hr1 hr2 f0 f1
  go_loopw [7] (fun iv wr => ∃ (i : Nat) (g : Nat → Nat), i ≤ n ∧ iv = .int .i64 i ∧ OI w2 wr D N A M g i) (fun iv _ => n - (intOf iv).toNat)
  case atStart => exact ⟨0, _, Nat.zero_le _, rfl, HOI.out⟩
  case round =>
    obtain ⟨i, g, hk, rfl, I⟩ := hrel
    have HI := hideP I
    clear I
    have hn := HH.out.2.1
    have hx := HX.out
    by_cases hlt : i < n
    · have ca : wr.cell? ⟨D, i, none⟩ = some (.int .u64 (g i)) := HI.out.row.cell (by omega)
      have f1 : wr.cell? ⟨w.heap.size, 1, none⟩ = some (.int .u64 fo) := blk_cell ((HI.out.but.same _ hDF.symm).trans HF2.out) rfl
      have f0 : wr.cell? ⟨w.heap.size, 0, none⟩ = some (.slice (some ⟨g2, o2, none⟩) n c2) := blk_cell ((HI.out.but.same _ hDF.symm).trans HF2.out) rfl
      have hlt' : (i : Int) < n := by omega
      have hiN : (i : Int) < N := by omega
      have ht : IntKind.u64.wrap ((g i : Int) * (fo : Int)) = ((g i * fo % 18446744073709551616 : Nat) : Int) := by rw [M64.mulN, M64.wrapM]
      have HT : Hid (g i * fo % 18446744073709551616 < 18446744073709551616) := Nat.mod_lt _ (by decide)
      obtain ⟨t, hte⟩ : ∃ t, t = g i * fo % 18446744073709551616 := ⟨_, rfl⟩
      rw [← hte] at ht HT
      have HTE := hideP hte
      have HR0 := hideP (HI.out.start (t := t) (y := limb M)).drew
      have e4 : IntKind.i64.wrap ((i : Int) + 1) = (i : Int) + 1 := by rw [IntKind.wrap_i64]; omega
      obtain ⟨inn, hinn⟩ : ∃ inn, inn = i + n := ⟨_, rfl⟩
      have e5 : IntKind.i64.wrap ((i : Int) + (n : Int)) = (inn : Int) := by rw [IntKind.wrap_i64]; omega
      have HIN := hideP hinn
      have HKS : Hid (i + 1 ≤ n) := hlt
      have HGI : Hid (∀ j, g j < 18446744073709551616) := HI.out.lt
      generalize hgi : g i = gi at ca ht
      clear hk hlt hn hx hte hinn hgi
      go_wp2_with fail
      go_region
      go_wp2_with fail
      clear ca ht f1
      rename World => wA
      go_loopw [9, 10] (fun c kk wr => ∃ (k cv : Nat) (gk : Nat → Nat), k ≤ n ∧ kk = .int .i64 k ∧ c = .int .u64 cv ∧ RJ w2 wr D N i t (limb M) g gk k cv) (fun _ kk _ => n - (intOf kk).toNat)
      case atStart => exact ⟨0, 0, g, Nat.zero_le _, rfl, rfl, HR0.out⟩
      case round =>
        obtain ⟨k, cv, gk, hk, rfl, rfl, J⟩ := hrel
        have HJ := hideP J
        clear J
        have hn := HH.out.2.1
        have hin := HKS.out
        have hx := HX.out
        by_cases hlk : k < n
        · have cb : wr.cell? ⟨g2, o2 + k, none⟩ = some (.int .u64 (limb M k)) := by
            rw [HJ.out.but.cell (show g2 ≠ D by omega), HB2.out.cell (p := ⟨g2, o2 + k, none⟩) l2]
            exact H2.out _ hlk
          have f0 : wr.cell? ⟨w.heap.size, 0, none⟩ = some (.slice (some ⟨g2, o2, none⟩) n c2) := blk_cell ((HJ.out.but.same _ hDF.symm).trans HF2.out) rfl
          have cd : wr.cell? ⟨D, i + k, none⟩ = some (.int .u64 (gk (i + k))) := HJ.out.row.cell (by omega)
          have fr : ∀ o, wr.frozen? ⟨D, o, none⟩ = false := fun o => HJ.out.row.free o
          have C := hideP (half_any t (limb M k) HT.out (limb_lt _ _) wr)
          have hlk' : (k : Int) < n := by omega
          have e6 : IntKind.i64.wrap ((i : Int) + (k : Int)) = ((i + k : Nat) : Int) := by rw [IntKind.wrap_i64]; omega
          have e7 : IntKind.i64.wrap ((k : Int) + 1) = (k : Int) + 1 := by rw [IntKind.wrap_i64]; omega
          have g7 : ((i + k : Nat) : Int) < (N : Int) := by omega
          have HKK : Hid (k + 1 ≤ n) := hlk
          have hog := HJ.out.lt (i + k)
          have hcv := HJ.out.c
          have htl := HT.out
          have hyk := limb_lt M k
          have HP := hideP (fun s c' hs hc e => HJ.out.put (s := s) (c' := c') hs hc e)
          generalize limb M k = yk at *
          generalize gk (i + k) = ogk at *
          clear hk hlk hn hin HJ e5 hx
          generalize i + k = ik at *
          go_wp2_with fail
          refine C.out.mono ?_
          rintro r wB ⟨⟨h, l, rfl, hh, hl, he⟩, rfl⟩
          obtain ⟨l1', l2', h1', h2', q1, q2, q3, w1', w2', d1, d2⟩ := mac_cases t yk h l ogk cv htl hyk hh hl he hog hcv
          have HP2 := hideP (HP.out _ _ q1 q2 q3)
          clear HP he hh hl q1 q2 q3 hog hcv htl hyk C
          rcases d1 with ⟨d1, v1⟩ | ⟨d1, rfl⟩ <;> rcases d2 with ⟨d2, v2⟩ | ⟨d2, rfl⟩
          all_goals
            go_wp2_with fail
            exact ⟨⟨k + 1, _, _, HKK.out, by go_num, rfl, HP2.out⟩, by have := HKK.out; simp [intOf]; omega⟩
        · have hkn : k = n := by omega
          have hnl : ¬ (k : Int) < n := by omega
          have HJn : Hid (RJ w2 wr D N i t (limb M) g gk n cv) := hkn ▸ HJ.out
          have hC0 := HJn.out.carry (show i + n ≤ N by omega)
          rw [val_limbs HH.out.2.2.1, ← HIN.out] at hC0
          have HC0 := hideP hC0
          clear hC0 hk hlk hn hin HJ HJn hx
          go_wp2_with fail
          rename World => wB
          go_loopw [9, 13] (fun c jj wr => ∃ (j cv : Nat) (gk : Nat → Nat), j ≤ N ∧ jj = .int .i64 j ∧ c = .int .u64 cv ∧ CJ w2 wr D N (val g N + t * M * 18446744073709551616 ^ i) gk j cv) (fun _ jj _ => N - (intOf jj).toNat)
          case atStart => exact ⟨inn, cv, gk, by have := HIN.out; have := HX.out; have := HKS.out; omega, rfl, rfl, HC0.out⟩
          case round =>
            obtain ⟨j, cj, gj, hj, rfl, rfl, J⟩ := hrel
            have HJ := hideP J
            clear J
            have hx := HX.out
            have hn := HH.out.2.1
            by_cases hgo : cj ≠ 0 ∧ j < N
            · obtain ⟨hc0, hjN⟩ := hgo
              have hc0' : ¬ (cj : Int) = 0 := by omega
              have hjN' : (j : Int) < N := by omega
              obtain ⟨s, c', q1, q2, q3, w1', d⟩ := add_carry (gj j) cj (HJ.out.lt j) HJ.out.c
              have ca : wr.cell? ⟨D, j, none⟩ = some (.int .u64 (gj j)) := HJ.out.row.cell hjN
              have fr : ∀ o, wr.frozen? ⟨D, o, none⟩ = false := fun o => HJ.out.row.free o
              have HP2 := hideP (HJ.out.put hjN q1 q2 q3)
              have e7 : IntKind.i64.wrap ((j : Int) + 1) = (j : Int) + 1 := by rw [IntKind.wrap_i64]; omega
              have HJS : Hid (j + 1 ≤ N) := hjN
              generalize gj j = ggj at *
              clear hj hn hx HJ q1 q2 q3 hc0 hjN e5
              rcases d with ⟨d1, rfl⟩ | ⟨d1, rfl⟩
              all_goals
                go_wp2_with fail
                exact ⟨⟨j + 1, _, _, HJS.out, by go_num, rfl, HP2.out⟩, by have := HJS.out; simp [intOf]; omega⟩
            · have hdn : cj = 0 ∨ N ≤ j := by omega
              have HNX := hideP (HI.out.next HX.out.2.2.2.1 HKS.out HH.out.2.2.1 HH.out.2.2.2.2.1 HH.out.2.2.2.2.2 HTE.out HJ.out hdn)
              by_cases hc0 : cj = 0
              · subst hc0
                clear hj hn hx HJ hgo hdn e5
                go_wp2_with fail
                exact ⟨⟨i + 1, _, HKS.out, by go_num, HNX.out⟩, by have := HKS.out; simp [intOf]; omega⟩
              · have hc0' : ¬ (cj : Int) = 0 := by omega
                have hjN' : ¬ (j : Int) < N := by omega
                clear hj hn hx HJ hgo hdn e5 hc0
                go_wp2_with fail
                exact ⟨⟨i + 1, _, HKS.out, by go_num, HNX.out⟩, by have := HKS.out; simp [intOf]; omega⟩
    · have hkn : i = n := by omega
      have hnl : ¬ (i : Int) < n := by omega
      have HJ : Hid (OI w2 wr D N A M g n) := hkn ▸ HI.out
      obtain ⟨S, hS1, hS2, hS3⟩ := HJ.out.fin hx.2.2.2.1 HH.out.2.2.2.1 HH.out.2.2.2.2.1
      have hM := HH.out.2.2.1
      have hZl : val (fun j => g (n + j)) n < 18446744073709551616 ^ n := val_lt n (fun j _ => HJ.out.lt _)
      have HL : Hid (LW wr (.slice (some ⟨D, n, none⟩) n (cap - n)) n (limb (val (fun j => g (n + j)) n))) :=
        LW.num (f := fun j => g (n + j)) ⟨D, n, cap - n, rfl, by omega, by omega, HJ.out.row.lt, fun j hj => HJ.out.row.cell (by omega)⟩ (fun j => HJ.out.lt _)
      have hbw := HB2.out.trans (HJ.out.but.below.mono (by omega : w.heap.size ≤ D))
      have HMr := hideP (HM.out.moved hbw)
      have HB3 := hideP hbw
      have hsl : ∀ W : World, (Instr.sliceAt 27 (.slice (some ⟨D, 0, none⟩) N cap) (some (.int .i64 (n : Int))) (some (.int .i64 (NN : Int))) none).run Try.prog W = .ok (.slice (some ⟨D, n, none⟩) n (cap - n)) W := fun W => by
        have := slice_mid D N cap n NN (by omega) (by omega) (by omega) (by omega) W
        rw [show NN - n = n by omega] at this
        exact this
      have e2n : IntKind.i64.wrap (2 * (n : Int)) = (NN : Int) := by rw [IntKind.wrap_i64]; omega
      have gNN : (NN : Int) < N := by omega
      have ct : wr.cell? ⟨D, NN, none⟩ = some (.int .u64 (g (n + n))) := by rw [hx.2.2.2.2]; exact HJ.out.row.cell (by omega)
      have f0 : wr.cell? ⟨w.heap.size, 0, none⟩ = some (.slice (some ⟨g2, o2, none⟩) n c2) := blk_cell ((HJ.out.but.same _ hDF.symm).trans HF2.out) rfl
      have HFr := hideP ((HJ.out.but.same _ hDF.symm).trans HF2.out)
      generalize val (fun j => g (n + j)) n = Z at *
      generalize g (n + n) = top at *
      generalize hP : 18446744073709551616 ^ n = P at *
      have hps : ∀ X, (X + M) * P % M = X * P % M := fun X => by rw [Nat.add_mul, Nat.mul_comm M P, Nat.add_mul_mod_self_right]
      generalize cap - n = cn at *
      have hn' := HH.out.2.1
      by_cases htop : top = 0
      · subst htop
        have hSZ : S = Z := by omega
        subst hSZ
        have C2 := hideP (rlt_any hn' S M (by rw [hP]; exact hZl) (by rw [hP]; exact hM) wr _ _ HL.out HMr.out)
        by_cases hltM : S < M
        · rw [decide_eq_true hltM] at C2
          have HR : Hid (S < M ∧ S * P % M = A % M) := ⟨hltM, hS2⟩
          rw [← hP] at HR
          clear hk hlt hn hkn HI HJ hS1 hS2 hS3 hM hZl hbw hP hps hn' hltM hx HH HX HM
          go_wp2_with fail
          refine C2.out.mono ?_
          rintro r w5 ⟨rfl, hb⟩
          have HB5 := hideP (HB3.out.trans (hb.mono HB3.out.size))
          have HL5 := hideP (HL.out.moved hb)
          clear hb
          go_wp2
          go_ret
          exact ⟨⟨_, rfl, S, HL5.out, HR.out⟩, HB5.out⟩
        · rw [decide_eq_false hltM] at C2
          have hpd := hps (S - M)
          rw [show S - M + M = S by omega] at hpd
          have HR : Hid (S - M < M ∧ (S - M) * P % M = A % M) := ⟨by omega, by rw [← hpd]; exact hS2⟩
          rw [← hP] at HR
          have C3 := hideP (fun w5 (h1 : LW w5 (.slice (some ⟨D, n, none⟩) n cn) n (limb S)) (h2 : LW w5 (.slice (some ⟨g2, o2, none⟩) n c2) n (limb M)) => rsub_num hn' S M (by rw [hP]; exact hZl) (by rw [hP]; exact hM) w5 _ _ h1 h2)
          rw [if_neg hltM] at C3
          clear hk hlt hn hkn HI HJ hS1 hS2 hS3 hM hZl hbw hP hps hn' hltM hx HH HX HM hpd
          go_wp2_with fail
          refine C2.out.mono ?_
          rintro r w5 ⟨rfl, hb⟩
          have HB5 := hideP (HB3.out.trans (hb.mono HB3.out.size))
          have HL5 := hideP (HL.out.moved hb)
          have HM5 := hideP (HMr.out.moved hb)
          have f5 : w5.cell? ⟨w.heap.size, 0, none⟩ = some (.slice (some ⟨g2, o2, none⟩) n c2) := blk_cell ((hb.block _ (lt_of_block HFr.out)).trans HFr.out) rfl
          clear hb
          go_wp2_with fail
          refine (C3.out _ HL5.out HM5.out).mono ?_
          rintro r w6 ⟨⟨v6, c6, rfl, h6, -⟩, hb⟩
          have HB6 := hideP (HB5.out.trans (hb.mono HB5.out.size))
          have HL6 := hideP h6
          clear hb h6
          go_wp2
          go_ret
          exact ⟨⟨_, rfl, _, HL6.out, HR.out⟩, HB6.out⟩
      · have htop' : ¬ (top : Int) = 0 := by omega
        have ht1 : top = 1 := by
          rcases Nat.lt_or_ge top 2 with h | h
          · omega
          · have := Nat.mul_le_mul_right P h
            omega
        rw [ht1, Nat.one_mul] at hS3
        have hZM : Z < M := by omega
        have hpd := hps (S - M)
        rw [show S - M + M = S by omega] at hpd
        have HR : Hid (S - M < M ∧ (S - M) * P % M = A % M) := ⟨by omega, by rw [← hpd]; exact hS2⟩
        rw [← hP] at HR
        have C3 := hideP (rsub_num hn' Z M (by rw [hP]; exact hZl) (by rw [hP]; exact hM) wr _ _ HL.out HMr.out)
        rw [if_pos hZM, hP, show Z + P - M = S - M by omega] at C3
        clear hk hlt hn hkn HI HJ hS1 hS2 hS3 hM hZl hbw hP hps hn' hx HH HX HM hpd htop ht1 hZM
        go_wp2_with fail
        refine C3.out.mono ?_
        rintro r w6 ⟨⟨v6, c6, rfl, h6, -⟩, hb⟩
        have HB6 := hideP (HB3.out.trans (hb.mono HB3.out.size))
        have HL6 := hideP h6
        clear hb h6
        go_wp2
        go_ret
        exact ⟨⟨_, rfl, _, HL6.out, HR.out⟩, HB6.out⟩

end Go.Proofs.Ytiekipkmfopdoaa
