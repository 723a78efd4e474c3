/-
  Numbers and words come back from their items: the walk of RlpNumbers.
-/
import Derived.Test.YtigebmidfddbcaaTwinI
import Derived.Test.YtigebmidfddbcaaAsNum
namespace Go.Proofs.Ytigebmidfddbcaa
open Go.RowKit Go.Shelf

theorem eq_same4 (a b c d : Int) (W : World) : (Op.equalIn 10000 59 (.agg #[.int .u64 a, .int .u64 b, .int .u64 c, .int .u64 d]) (.agg #[.int .u64 a, .int .u64 b, .int .u64 c, .int .u64 d])).run Try.prog W = .ok true W := by
  have h : ∀ x : Int, (Op.equalIn 9999 57 (.int .u64 x) (.int .u64 x)).run Try.prog W = .ok true W := fun x => by
    unfold Op.equalIn
    simp [go_sem]
  unfold Op.equalIn
  simp [go_sem, List.range', h]

theorem wv_small {X : Nat} (h : X < 18446744073709551616) : wv X = .agg #[.int .u64 X, .int .u64 0, .int .u64 0, .int .u64 0] := by
  unfold wv
  rw [Nat.mod_eq_of_lt h, Nat.div_eq_of_lt h, Nat.div_eq_of_lt (show X < 340282366920938463463374607431768211456 by omega), Nat.div_eq_of_lt (show X < 6277101735386680763835789423207666416102355444464034512896 by omega)]
  rfl

theorem rn_wider {l : Int} {n : Nat} {bs : Nat → Nat} (h : (rn l n bs 8).2 = 0) : rn l n bs 32 = rn l n bs 8 := by
  unfold rn at h ⊢
  by_cases h1 : l ≠ 0
  · rw [if_pos h1] at h; cases h
  · rw [if_neg h1] at h
    rw [if_neg h1, if_neg h1]
    by_cases h2 : 8 < n
    · rw [if_pos h2] at h; cases h
    · rw [if_neg h2, if_neg (show ¬ 32 < n by omega)]

set_option maxHeartbeats 8000000 in
set_option maxRecDepth 100000 in
theorem rlpNumbers_walk (X : Nat) (hX : X < 18446744073709551616) (Y : Nat) (hY : Y < M256) {ns : List Nd} {ao : Option Addr} {c : Nat} (w : World) (h : NS w ns ao c) (hok : NdOk ns) (hlen : ns.length ≤ 3518437208884) :
    Calls Try.prog 12 #[.int .u64 X, wv Y, .slice ao ns.length c] w fun e w' => e = .returned (.bool true) ∧ Below w.heap.size w w' := by
  obtain ⟨y0, y1, y2, y3, hy⟩ := wv_form Y
  have HC := hideP (fun (W : World) (hb : Below w.heap.size w W) => lawItem_any W (h.moved hb) hok hlen)
  have HF := hideP (treeOf_fits hok hlen)
  have HW := hideP (fun W => whole_any Y W)
  simp only [hy] at HW ⊢
  clear h hok hlen
  generalize treeOf ns = t at *
  generalize ns.length = nn at *
  have hb0 : Below w.heap.size w (w.alloc (.cells #[.int .u64 y0, .int .u64 y1, .int .u64 y2, .int .u64 y3] 59)) := (Below.refl _ w).alloc (Nat.le_refl _) _
  have hx0 := heap_new w (.cells #[.int .u64 y0, .int .u64 y1, .int .u64 y2, .int .u64 y3] 59)
  have H0 := hideP (And.intro hb0 hx0)
  have HY := hideP hy
  clear hb0 hx0 hy
  go_enter Try.func12, Try.ntmps12
  go_wp2_with fail
  refine (awake_any _).mono ?_
  rintro e W1 ⟨rfl, hb1⟩
  have H1 := hideP hb1
  clear hb1
  go_wp2_with fail
  refine (number_any X hX _).mono ?_
  rintro e W2 ⟨⟨v2, rfl, hv2⟩, hb2⟩
  obtain ⟨g2, o2, n2, c2, rfl, hg2, hn2, hB2⟩ := hv2.ex
  have HA := hideP (asNumber_any (l := 0) (ao' := none) (nk := 0) (c' := 0) W2 hB2)
  rw [rn_number hX hn2] at HA
  have H2 := hideP hb2
  clear hb2 hv2 hB2 hn2 hg2
  go_wp2_with fail
  refine HA.out.mono ?_
  rintro e W3 ⟨rfl, hb3⟩
  have hb03 : Below w.heap.size w W3 := ((H0.out.1.trans (H1.out.mono (by simp))).trans (H2.out.mono (Nat.le_trans (by simp) H1.out.size))).trans (hb3.mono (Nat.le_trans (Nat.le_trans (by simp) H1.out.size) H2.out.size))
  have hs1 := H1.out.size
  have hs2 := H2.out.size
  rw [World.size_alloc] at hs1
  have hx3 := (hb3.block w.heap.size (by omega)).trans ((H2.out.block w.heap.size (by omega)).trans ((H1.out.block w.heap.size (by simp)).trans H0.out.2))
  have H3 := hideP (And.intro hb03 hx3)
  obtain ⟨j0, j1, j2, j3⟩ := cells4 hx3
  clear hb03 hx3 hb3 hs1 hs2 H0 H1 H2 HA
  go_wp2_with fail
  refine (HW.out _).mono ?_
  rintro e W4 ⟨⟨v4, rfl, hv4⟩, hb4⟩
  obtain ⟨g4, o4, n4, c4, rfl, hg4, hn4, hB4⟩ := hv4.ex
  have ha := asWhole_any (l := 0) (ao' := none) (nk := 0) (c' := 0) W4 hB4
  rw [rn_whole hY hn4] at ha
  simp only [HY.out] at ha
  have HA := hideP ha
  have H4 := hideP hb4
  clear hb4 hv4 hB4 hn4 hg4 ha
  go_wp2_with fail
  refine HA.out.mono ?_
  rintro e W5 ⟨rfl, hb5⟩
  have hs3 := H3.out.1.size
  have hs4 := H4.out.size
  have hs5 := hb5.size
  have hx5 := (hb5.block w.heap.size (Nat.lt_of_lt_of_le (lt_of_block H3.out.2) hs4)).trans ((H4.out.block w.heap.size (lt_of_block H3.out.2)).trans H3.out.2)
  have hx6 := (heap_old W5 (.cells #[.int .u64 y0, .int .u64 y1, .int .u64 y2, .int .u64 y3] 59) (lt_of_block hx5)).trans hx5
  have hb6 : Below w.heap.size w (W5.alloc (.cells #[.int .u64 y0, .int .u64 y1, .int .u64 y2, .int .u64 y3] 59)) := ((H3.out.1.trans (H4.out.mono hs3)).trans (hb5.mono (by omega))).alloc (by omega) _
  have H6 := hideP hb6
  obtain ⟨j0, j1, j2, j3⟩ := cells4 hx6
  obtain ⟨i0, i1, i2, i3⟩ := cells4 (heap_new W5 (.cells #[.int .u64 y0, .int .u64 y1, .int .u64 y2, .int .u64 y3] 59))
  have heq := fun W => eq_same4 y0 y1 y2 y3 W
  clear hs3 hs4 hs5 hx5 hx6 hb6 hb5 H3 H4 HA
  go_wp2_with fail
  refine (HC.out _ H6.out).mono ?_
  rintro e W7 ⟨⟨v7, rfl, hi7⟩, hb7⟩
  cases t with
  | node l b k =>
  have hi7 := hi7.uncut
  obtain ⟨xa, xc, ka, kc, rfl, _, _, _⟩ := hi7.form
  have hb07 : Below w.heap.size w W7 := H6.out.trans (hb7.mono H6.out.size)
  have hb8 : Below W7.heap.size W7 (W7.alloc (.cells #[.int .i64 l, .slice xa b.length xc, .slice ka k.length kc] 26)) := (Below.refl _ W7).alloc (Nat.le_refl _) _
  have HTW := hideP (twin_all _ _ _ _ (Nat.le_refl _) (hi7.moved hb8) HF.out)
  have hx8 := heap_new W7 (.cells #[.int .i64 l, .slice xa b.length xc, .slice ka k.length kc] 26)
  have HI8 := hideP (And.intro (hi7.moved hb8) (And.intro hx8 (hb07.trans (hb8.mono hb07.size))))
  obtain ⟨k0, k1, k2⟩ := cells3 hx8
  clear hi7 hb07 hb8 hx8 hb7 H6 HC j0 j1 j2 j3 i0 i1 i2 i3
  generalize hnb : b.length = nb at *
  generalize hnk : k.length = nk at *
  go_wp2_with fail
  refine HTW.out.mono ?_
  rintro e W9 ⟨⟨v9, rfl, hi9⟩, hb9⟩
  have hi9 := hi9.uncut
  obtain ⟨ta, tc, ta', tc', rfl, hB9, _, _⟩ := hi9.form
  have hq8 := rn_lt8 l b.length (lb b) hB9.lt
  have hwide := rn_wider (l := l) (n := b.length) (bs := lb b)
  have ha9 := asNumber_any (l := l) (ao' := ta') (nk := k.length) (c' := tc') W9 hB9
  have hrr : rn l b.length (lb b) 32 = rn l b.length (lb b) 32 := rfl
  generalize hr8 : rn l b.length (lb b) 8 = r8 at *
  obtain ⟨q, qe⟩ := r8
  dsimp only at ha9 hq8 hwide
  rw [hnb, hnk] at ha9 ⊢
  have HA9 := hideP ha9
  have HB9 := hideP hb9
  have HWD := hideP hwide
  clear hi9 hB9 HTW hb9 ha9 hr8 hwide hrr
  go_wp2_with fail
  refine HA9.out.mono ?_
  rintro e W10 ⟨rfl, hb10⟩
  obtain ⟨hi8, hx8, hb08⟩ := HI8.out
  have hb810 := HB9.out.trans (hb10.mono HB9.out.size)
  have hx10 := (hb810.block _ (lt_of_block hx8)).trans hx8
  have hi10 := hi8.moved hb810
  have hb010 := hb08.trans (hb810.mono hb08.size)
  have HTW2 := hideP (twin_all _ _ _ _ (Nat.le_refl _) hi10 HF.out)
  have H10 := hideP hb010
  obtain ⟨k0, k1, k2⟩ := cells3 hx10
  clear hi8 hx8 hb08 hb810 hx10 hi10 hb010 hb10 HI8 HB9 HA9
  by_cases hqe : qe = 0
  · subst hqe
    go_wp2_with fail
    refine HTW2.out.mono ?_
    rintro e W11 ⟨⟨v11, rfl, hi11⟩, hb11⟩
    have hi11 := hi11.uncut
    obtain ⟨ta2, tc2, ta2', tc2', rfl, hB11, _, _⟩ := hi11.form
    have ha11 := asWhole_any (l := l) (ao' := ta2') (nk := k.length) (c' := tc2') W11 hB11
    rw [HWD.out (by first | rfl | trivial), hnb, hnk] at ha11
    dsimp only at ha11
    rw [wv_small hq8] at ha11
    rw [hnb, hnk]
    have HA11 := hideP ha11
    have H11 := hideP hb11
    clear hi11 hB11 HTW2 hb11 ha11
    go_wp2_with fail
    refine HA11.out.mono ?_
    rintro e W12 ⟨rfl, hb12⟩
    obtain ⟨i0, i1, i2, i3⟩ := cells4 (heap_new W12 (.cells #[.int .u64 q, .int .u64 0, .int .u64 0, .int .u64 0] 59))
    have heq2 := fun W => eq_same4 q 0 0 0 W
    have hs10 := H10.out.size
    have hs11 := H11.out.size
    have hs12 := hb12.size
    have HEND : Hid (Below w.heap.size w (W12.alloc (.cells #[.int .u64 q, .int .u64 0, .int .u64 0, .int .u64 0] 59))) := hideP (((H10.out.trans (H11.out.mono hs10)).trans (hb12.mono (by omega))).alloc (by omega) _)
    clear hb12 hs10 hs11 hs12 H10 H11 HA11 heq
    go_wp2_with fail
    go_ret
    exact ⟨rfl, HEND.out⟩
  · have hqe' : ¬ (qe : Int) = 0 := by omega
    go_wp2_with fail
    go_ret
    exact ⟨rfl, H10.out⟩

end Go.Proofs.Ytigebmidfddbcaa
