/-
  The statements' first examples.
-/
import Derived.Test.YtiekipkmfopdoaaRoot4
namespace Go.Proofs.Ytiekipkmfopdoaa.W4
open Go.RowKit Go.Shelf

theorem lit4 {n : Nat} (hn : n < 18446744073709551616) : wv n = .agg #[.int .u64 n, .int .u64 0, .int .u64 0, .int .u64 0] := by
  unfold wv
  rw [small_limbs hn]
  rfl

theorem eq_small (a b : Int) (W : World) : (Op.equalIn 10000 24 (.agg #[.int .u64 a, .int .u64 0, .int .u64 0, .int .u64 0]) (.agg #[.int .u64 b, .int .u64 0, .int .u64 0, .int .u64 0])).run Try.prog W = .ok (a == b) W := by
  rw [eq_lits]
  simp

set_option maxHeartbeats 4000000 in
set_option maxRecDepth 100000 in
theorem awake_any (w : World) : Calls Try.prog 11 #[] w fun e w' => e = .returned (.bool true) ∧ Below w.heap.size w w' := by
  have hR7 : (7 : Nat) < R := by decide
  have c1 := make_ok 7 hR7 (by decide) (by decide) w
  rw [lit4 (by decide)] at c1
  have hB8 : ∀ w, Calls Try.prog 26 #[wv 8] w fun e w' => e = .returned (.tuple #[.pointer none, .int .i64 50]) ∧ Below w.heap.size w w' := fun w => make_bad 8 (by decide) (Or.inl (by decide)) w
  rw [lit4 (by decide)] at hB8
  have hIN : ∀ (A : Nat) (w : World) (p : Nat), A < 18446744073709551616 → Good w p 7 → Calls Try.prog 32 #[.pointer (some ⟨p, 0, none⟩), .agg #[.int .u64 A, .int .u64 0, .int .u64 0, .int .u64 0]] w fun e w' => e = .returned (wv (el 7 A)) ∧ Below w.heap.size w w' := fun A w p hA hg => by
    have := in_any hg A (Nat.lt_trans hA (by decide))
    rw [lit4 hA] at this
    exact this
  have hOUT : ∀ (X r : Nat) (w : World) (p : Nat), r < 18446744073709551616 → X % 7 = r → Good w p 7 → Calls Try.prog 35 #[.pointer (some ⟨p, 0, none⟩), wv (el 7 X)] w fun e w' => e = .returned (.agg #[.int .u64 r, .int .u64 0, .int .u64 0, .int .u64 0]) ∧ Below w.heap.size w w' := fun X r w p hr hX hg => by
    have := out_any hg X
    rw [hX, lit4 hr] at this
    exact this
  have hROOT : ∀ (w : World) (p : Nat), Good w p 7 → Calls Try.prog 33 #[.pointer (some ⟨p, 0, none⟩), wv (el 7 2)] w fun e w' => e = .returned (.tuple #[wv (el 7 4), .bool true]) ∧ Below w.heap.size w w' := fun w p hg => by
    have := root_any hg 2
    rw [show rootN 7 2 = el 7 4 by decide, show rootB 7 2 = true by decide] at this
    exact this
  have hINV : ∀ (w : World) (p : Nat), Good w p 7 → Calls Try.prog 45 #[.pointer (some ⟨p, 0, none⟩), wv (el 7 3)] w fun e w' => e = .returned (wv (el 7 243)) ∧ Below w.heap.size w w' := fun w p hg => inv_any hg 3
  have hMUL : ∀ (w : World) (p : Nat), Good w p 7 → Calls Try.prog 41 #[.pointer (some ⟨p, 0, none⟩), wv (el 7 5), wv (el 7 10)] w fun e w' => e = .returned (wv (el 7 50)) ∧ Below w.heap.size w w' := fun w p hg => mulM_any hg 5 10
  have HINV := hideP hINV
  have HMUL := hideP hMUL
  clear hINV hMUL
  have C1 := hideP c1
  have HB8 := hideP hB8
  have HIN := hideP hIN
  have HOUT := hideP hOUT
  have HROOT := hideP hROOT
  clear c1 hB8 hIN hOUT hROOT hR7
  go_enter Try.func11, Try.ntmps11
  go_wp2_with fail
  refine C1.out.mono ?_
  rintro e w1 ⟨p, rfl, hp, hG, hb⟩
  have HG := hideP hG
  have HB := hideP hb
  clear hG hb hp
  go_wp2_with fail
  refine (HIN.out 2 _ _ (by decide) HG.out).mono ?_
  rintro e w2 ⟨rfl, hb⟩
  have HG2 := hideP (HG.out.below hb)
  have HB2 := hideP (HB.out.trans (hb.mono HB.out.size))
  clear hb HG HB
  go_wp2_with fail
  refine (HROOT.out _ _ HG2.out).mono ?_
  rintro e w3 ⟨rfl, hb⟩
  have HG3 := hideP (HG2.out.below hb)
  have HB3 := hideP (HB2.out.trans (hb.mono HB2.out.size))
  clear hb HG2 HB2
  rw [wv_lit (el 7 4)]
  go_wp2_with fail
  refine at_world_q (fun W4 hW4 => ?_)
  have hbx : W4.heap[w3.heap.size]? = some (.cells (cs (limb (el 7 4))) 24 (0, 0)) := by
    rw [hW4]
    exact heap_new _ _
  have hb4 : Below w3.heap.size w3 W4 := by
    rw [hW4]
    exact (Below.refl _ _).alloc (Nat.le_refl _) _
  have HG4 := hideP (HG3.out.below hb4)
  have HB4 := hideP (HB3.out.trans (hb4.mono HB3.out.size))
  generalize w3.heap.size = b3 at *
  clear hW4 hb4 HG3 HB3
  refine (HB8.out _).mono ?_
  rintro e w5 ⟨rfl, hb⟩
  have HG5 := hideP (HG4.out.below hb)
  have HB5 := hideP (HB4.out.trans (hb.mono HB4.out.size))
  have HX5 := hideP ((hb.block _ (lt_of_block hbx)).trans hbx)
  clear hb hbx HG4 HB4
  go_wp2_with fail
  refine (HIN.out 5 _ _ (by decide) HG5.out).mono ?_
  rintro e w6 ⟨rfl, hb⟩
  have HG6 := hideP (HG5.out.below hb)
  have HB6 := hideP (HB5.out.trans (hb.mono HB5.out.size))
  have HX6 := hideP ((hb.block _ (lt_of_block HX5.out)).trans HX5.out)
  clear hb HG5 HB5 HX5
  go_wp2_with fail
  refine (HIN.out 10 _ _ (by decide) HG6.out).mono ?_
  rintro e w7 ⟨rfl, hb⟩
  have HG7 := hideP (HG6.out.below hb)
  have HB7 := hideP (HB6.out.trans (hb.mono HB6.out.size))
  have HX7 := hideP ((hb.block _ (lt_of_block HX6.out)).trans HX6.out)
  clear hb HG6 HB6 HX6
  go_wp2_with fail
  refine (HMUL.out _ _ HG7.out).mono ?_
  rintro e w8 ⟨rfl, hb⟩
  have HG8 := hideP (HG7.out.below hb)
  have HB8 := hideP (HB7.out.trans (hb.mono HB7.out.size))
  have HX8 := hideP ((hb.block _ (lt_of_block HX7.out)).trans HX7.out)
  clear hb HG7 HB7 HX7
  go_wp2_with fail
  refine (HOUT.out 50 1 _ _ (by decide) (by decide) HG8.out).mono ?_
  rintro e w9 ⟨rfl, hb⟩
  have HG9 := hideP (HG8.out.below hb)
  have HB9 := hideP (HB8.out.trans (hb.mono HB8.out.size))
  have HX9 := hideP ((hb.block _ (lt_of_block HX8.out)).trans HX8.out)
  clear hb HG8 HB8 HX8
  have hE1 := fun W => eq_small 1 1 W
  go_wp2_with fail
  refine (HIN.out 3 _ _ (by decide) HG9.out).mono ?_
  rintro e w10 ⟨rfl, hb⟩
  have HG10 := hideP (HG9.out.below hb)
  have HB10 := hideP (HB9.out.trans (hb.mono HB9.out.size))
  have HX10 := hideP ((hb.block _ (lt_of_block HX9.out)).trans HX9.out)
  clear hb HG9 HB9 HX9
  go_wp2_with fail
  refine (HINV.out _ _ HG10.out).mono ?_
  rintro e w11 ⟨rfl, hb⟩
  have HG11 := hideP (HG10.out.below hb)
  have HB11 := hideP (HB10.out.trans (hb.mono HB10.out.size))
  have HX11 := hideP ((hb.block _ (lt_of_block HX10.out)).trans HX10.out)
  clear hb HG10 HB10 HX10
  go_wp2_with fail
  refine (HOUT.out 243 5 _ _ (by decide) (by decide) HG11.out).mono ?_
  rintro e w12 ⟨rfl, hb⟩
  have HG12 := hideP (HG11.out.below hb)
  have HB12 := hideP (HB11.out.trans (hb.mono HB11.out.size))
  have HX12 := hideP ((hb.block _ (lt_of_block HX11.out)).trans HX11.out)
  clear hb HG11 HB11 HX11
  have hE5 := fun W => eq_small 5 5 W
  obtain ⟨q0, q1, q2, q3⟩ := cells HX12.out
  go_wp2_with fail
  refine (HOUT.out 4 4 _ _ (by decide) (by decide) HG12.out).mono ?_
  rintro e w13 ⟨rfl, hb⟩
  have HG13 := hideP (HG12.out.below hb)
  have HB13 := hideP (HB12.out.trans (hb.mono HB12.out.size))
  have HX13 := hideP ((hb.block _ (lt_of_block HX12.out)).trans HX12.out)
  clear hb HG12 HB12 HX12
  clear q0 q1 q2 q3
  have hE4 := fun W => eq_small 4 4 W
  go_wp2
  go_ret
  exact ⟨by simp, HB13.out⟩

end Go.Proofs.Ytiekipkmfopdoaa.W4
