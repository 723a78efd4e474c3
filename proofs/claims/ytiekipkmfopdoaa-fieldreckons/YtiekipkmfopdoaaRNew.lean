/-
  The document's New.
-/
import Derived.Test.YtiekipkmfopdoaaRFld
import Derived.Test.YtiekipkmfopdoaaInv1
namespace Go.Proofs.Ytiekipkmfopdoaa
open Go.RowKit Go.Shelf

theorem fill_of {a x : Nat} (hx : x < 18446744073709551616) (h : a * x % 18446744073709551616 = 1) : ∃ f : Nat, f < 18446744073709551616 ∧ IntKind.u64.wrap (-(x : Int)) = (f : Int) ∧ (a * f + 1) % 18446744073709551616 = 0 := by
  have h0 : 0 < x := by
    rcases Nat.eq_zero_or_pos x with rfl | h1
    · simp at h
    · exact h1
  refine ⟨18446744073709551616 - x, by omega, by rw [IntKind.wrap_u64]; omega, ?_⟩
  have e : a * (18446744073709551616 - x) + a * x = a * 18446744073709551616 := by
    rw [← Nat.mul_add]; congr 1; omega
  generalize a * (18446744073709551616 - x) = A at *
  generalize a * x = C at *
  omega

theorem limb_pow (k j : Nat) : limb (18446744073709551616 ^ k) j = if j = k then 1 else 0 := by
  unfold limb
  rcases Nat.lt_trichotomy j k with h | h | h
  · rw [if_neg (by omega)]
    obtain ⟨d, rfl⟩ : ∃ d, k = d + 1 + j := ⟨k - j - 1, by omega⟩
    rw [Nat.pow_add, Nat.mul_div_cancel _ (Nat.pow_pos (by decide)), Nat.pow_succ, Nat.mul_mod_left]
  · subst h
    rw [if_pos rfl, Nat.div_self (Nat.pow_pos (by decide))]
  · rw [if_neg (by omega), Nat.div_eq_of_lt (Nat.pow_lt_pow_right (by decide) h), Nat.zero_mod]

/-- A list of words is no Field. -/
theorem LW.other {w w' : World} {v x : Value} {n D a b c d t : Nat} {ao co : Option Addr} {f : Nat → Nat} (h : LW w v n f) (hn : 2 ≤ n) (hD : w.heap[D]? = some (.cells #[.slice ao a b, x, .slice co c d] t (0, 0))) (hB : But D w w') : LW w' v n f := by
  obtain ⟨g, o, k, e, h1, h2, hg, hc⟩ := h.ex
  have hne : g ≠ D := by
    intro e2
    subst e2
    have c0 := hc 0 (by omega)
    have c1 := hc 1 (by omega)
    simp only [World.cell?, hD] at c0 c1
    rcases (show o = 0 ∨ o = 1 ∨ o = 2 ∨ 3 ≤ o by omega) with rfl | rfl | rfl | h3
    · simp at c0
    · simp at c1
    · simp at c0
    · have h4 : (#[Value.slice ao a b, x, Value.slice co c d] : Array Value)[o]? = none := by
        rw [Array.getElem?_eq_none]
        simp
        omega
      rw [Nat.add_zero] at c0
      rw [h4] at c0
      cases c0
  exact ⟨g, o, k, e, h1, h2, Nat.lt_of_lt_of_le hg hB.below.size, fun j hj => (hB.cell hne).trans (hc j hj)⟩

set_option maxHeartbeats 4000000 in
set_option maxRecDepth 100000 in
theorem rnew_any {n M : Nat} (hn2 : 2 ≤ n) (hM : FM n M) (w : World) (m : Value) (hm : LW w m n (limb M)) :
    Calls Try.prog 29 #[m] w fun r w' => (∃ (fo : Nat) (tv : Value), r = .returned (.agg #[m, .int .u64 fo, tv]) ∧ LW w' tv n (limb (18446744073709551616 ^ n * 18446744073709551616 ^ n % M)) ∧ (M % 18446744073709551616 * fo + 1) % 18446744073709551616 = 0) ∧ Below w.heap.size w w' := by
  have HH := hideP hM
  have HN2 := hideP hn2
  clear hn2
  have HM := hideP hm
  obtain ⟨g2, o2, c2, rfl, _, _, l2, h2⟩ := hm.ex
  have H2 := hideP h2
  clear hM hm h2
  go_enter Try.func29, Try.ntmps29
  refine wp_seqH (fun K0 HK0 => ?_)
  go_wp2_with fail
  refine HK0.out _ _ ?_
  refine wp_seqH (fun K1 HK1 => ?_)
  go_wp2_with fail
  refine HK1.out _ _ ?_
  refine at_world (fun W0 hW0 => ?_)
  have hR : W0.heap[w.heap.size]? = some (.cells #[.slice none 0 0, .int .u64 0, .slice none 0 0] 38 (0, 0)) := by
    rw [hW0]
    first | exact (heap_old _ _ (by simp)).trans (heap_new _ _) | (simp [World.alloc, World.setCell])
  have hF : W0.heap[w.heap.size + 1]? = some (.cells #[.slice (some ⟨g2, o2, none⟩) n c2, .int .u64 0, .slice none 0 0] 38 (0, 0)) := by
    rw [hW0]
    first | exact heap_new1 _ _ _ | (simp [World.alloc, World.setCell])
  have HBW : Hid (Below w.heap.size w W0) := by
    show Below _ _ _
    rw [hW0]
    repeat first | exact Below.refl _ _ | (refine Below.alloc ?_ (by simp <;> omega) _) | (refine Below.setCell ?_ (by simp <;> omega) _)
  have HR := hideP hR
  have HF := hideP hF
  have ca : W0.cell? ⟨g2, o2, none⟩ = some (.int .u64 (limb M 0)) := by
    have := H2.out 0 HH.out.n0
    rw [Nat.add_zero] at this
    exact (HBW.out.cell (p := ⟨g2, o2, none⟩) l2).trans this
  have HM0 := hideP (HM.out.moved HBW.out)
  have g0 : (0 : Int) < (n : Int) := by have := HH.out.n0; omega
  have hl0 : limb M 0 = M % 18446744073709551616 := by simp [limb]
  have hod : limb M 0 % 2 = 1 := by rw [hl0]; have := HH.out.odd; omega
  have HOD := hideP hod
  clear hW0 hR hF hod
  generalize hm0 : limb M 0 = m0 at ca HOD
  refine wp_seqH (fun K2 HK2 => ?_)
  go_wp2_with fail
  refine HK2.out _ _ ?_
  refine wp_seqH (fun K3 HK3 => ?_)
  go_wp2_with fail
  go_loopw [4, 5] (fun v i wr => wr = W0 ∧ ∃ k x : Nat, k ≤ 6 ∧ i = .int .i64 k ∧ v = .int .u64 x ∧ x < 18446744073709551616 ∧ (1 - (m0 : Int) * (x : Int)) % 18446744073709551616 = ((1 - (m0 : Int)) ^ (2 ^ k)) % 18446744073709551616) (fun _ i _ => 6 - (intOf i).toNat)
  case atStart => exact ⟨rfl, 0, 1, by omega, rfl, rfl, by decide, by rw [show 2 ^ 0 = 1 from rfl, Int.pow_succ, Int.pow_zero]; simp⟩
  case round =>
    obtain ⟨rfl, k, x, hk, rfl, rfl, hx, hd⟩ := hrel
    by_cases hlt : k < 6
    · obtain ⟨y, hy, e1, e2⟩ := inv_wrap m0 x _ hd
      rw [← Int.pow_add, ← Nat.two_mul, Nat.mul_comm 2, ← Nat.pow_succ] at e2
      have HY : Hid (y < 18446744073709551616 ∧ (1 - (m0 : Int) * (y : Int)) % 18446744073709551616 = ((1 - (m0 : Int)) ^ (2 ^ (k + 1))) % 18446744073709551616) := ⟨hy, e2⟩
      have hlt' : (k : Int) < 6 := by omega
      have e4 : IntKind.i64.wrap ((k : Int) + 1) = (k : Int) + 1 := by rw [IntKind.wrap_i64]; omega
      have HKS : Hid (k + 1 ≤ 6) := hlt
      clear hk hlt hx hd hy e2 hl0 hm0
      go_wp2_with fail
      exact ⟨⟨trivial, k + 1, y, HKS.out, by go_num, rfl, HY.out.1, HY.out.2⟩, by have := HKS.out; simp [intOf]; omega⟩
    · have hkn : k = 6 := by omega
      have hnl : ¬ (k : Int) < 6 := by omega
      rw [hkn, inv_zero m0 HOD.out] at hd
      obtain ⟨f, hf1, hf2, hf3⟩ := fill_of hx (inv_fin m0 x hd)
      have HFO : Hid ((M % 18446744073709551616 * f + 1) % 18446744073709551616 = 0) := by
        show _ = _
        rw [← hl0, hm0]
        exact hf3
      clear hk hlt hx hd hkn hf1 hf3 hl0 hm0 HOD ca
      go_wp2_with fail
      refine HK3.out _ _ ?_
      have fr : ∀ o, wr.frozen? ⟨w.heap.size + 1, o, none⟩ = false := fun o => blk_free HF.out
      have cz := blk_cell (o := 1) HF.out rfl
      refine wp_seqH (fun K4 HK4 => ?_)
      go_wp2_with fail
      refine HK4.out _ _ ?_
      have hF1 := blk_set (o := 1) HF.out (.int .u64 (f : Int))
      have hB1 := (But.refl (w.heap.size + 1) wr).set 1 (.int .u64 (f : Int))
      refine at_world (fun W1 hW1 => ?_)
      rw [← hW1] at hF1 hB1
      have HF1 : Hid (W1.heap[w.heap.size + 1]? = some (.cells #[.slice (some ⟨g2, o2, none⟩) n c2, .int .u64 (f : Int), .slice none 0 0] 38 (0, 0))) := hF1
      have HR1 := hideP ((hB1.same _ (show w.heap.size ≠ w.heap.size + 1 by omega)).trans HR.out)
      have HBW1 := hideP (HBW.out.trans (hB1.below.mono (by omega)))
      have HM1 := hideP (HM.out.moved HBW1.out)
      clear hW1 hF1 hB1 fr cz HF HR hf2 HBW
      obtain ⟨N, hN⟩ : ∃ N, N = n + n + 1 := ⟨_, rfl⟩
      obtain ⟨NN, hNN⟩ : ∃ NN, NN = n + n := ⟨_, rfl⟩
      have hn := HH.out.n8
      have hmk := make_words W1 N (by omega)
      have e1 : IntKind.i64.wrap (2 * (n : Int)) = (NN : Int) := by rw [IntKind.wrap_i64]; omega
      have e2 : IntKind.i64.wrap ((NN : Int) + 1) = (N : Int) := by rw [IntKind.wrap_i64]; omega
      have gNN : (NN : Int) < N := by omega
      have HNx : Hid (N = n + n + 1 ∧ NN = n + n ∧ n ≤ 8) := ⟨hN, hNN, hn⟩
      clear hN hNN hn
      refine wp_seqH (fun K5 HK5 => ?_)
      go_wp2_with fail
      refine HK5.out _ _ ?_
      refine at_world (fun W2 hW2 => ?_)
      have hD : W2.heap[W1.heap.size]? = some (.cells (cw N (fun _ => 0)) 23 (0, 0)) := by
        rw [hW2]
        exact heap_new _ _
      have hB2 : Below W1.heap.size W1 W2 := by
        rw [hW2]
        exact (Below.refl _ _).alloc (Nat.le_refl _) _
      obtain ⟨hN, hNN, hn⟩ := HNx.out
      have cz := blk_cell (o := NN) hD (cw_get _ (by omega))
      have fr : ∀ o, W2.frozen? ⟨W1.heap.size, o, none⟩ = false := fun o => blk_free hD
      have hD3 := blk_set (o := NN) hD (.int .u64 ((1 : Nat) : Int))
      rw [cw_set, cw_congr (g := limb (18446744073709551616 ^ n * 18446744073709551616 ^ n)) (fun j _ => by rw [← Nat.pow_add, limb_pow, ← hNN])] at hD3
      have hB3 := (But.refl W1.heap.size W2).set NN (.int .u64 ((1 : Nat) : Int))
      clear hW2 hmk hN hNN hn
      refine wp_seqH (fun K6 HK6 => ?_)
      go_wp2_with fail
      refine HK6.out _ _ ?_
      refine at_world (fun W3 hW3 => ?_)
      simp only [Int.natCast_one] at hD3 hB3
      obtain ⟨hN, hNN, hn⟩ := HNx.out
      rw [← hW3] at hD3 hB3
      have hB13 := hB2.trans hB3.below
      have HF3 := hideP ((hB13.block _ (lt_of_block HF1.out)).trans HF1.out)
      have HR3 := hideP ((hB13.block _ (lt_of_block HR1.out)).trans HR1.out)
      have HBW3 := hideP (HBW1.out.trans (hB13.mono HBW1.out.size))
      have C := hideP (rmod_any (na := N) (n := n) (by omega) hn (18446744073709551616 ^ n * 18446744073709551616 ^ n) M (by rw [← Nat.pow_add, ← hNN]; exact Nat.pow_lt_pow_right (by decide) (by omega)) HH.out.pos HH.out.lt W3 _ _ (row_LW (by omega) hD3) (HM1.out.moved hB13))
      clear hW3 hD3 hB3 hB13 hB2 cz fr hD HF1 HR1 HBW1 HM1 e1 e2 gNN hn hN hNN
      refine wp_seqH (fun K7 HK7 => ?_)
      go_wp2_with fail
      refine C.out.mono ?_
      rintro r W4 ⟨⟨tv, rfl, hL⟩, hb⟩
      have HF4 := hideP ((hb.block _ (lt_of_block HF3.out)).trans HF3.out)
      have HR4 := hideP ((hb.block _ (lt_of_block HR3.out)).trans HR3.out)
      have HBW4 := hideP (HBW3.out.trans (hb.mono HBW3.out.size))
      have HL := hideP hL
      obtain ⟨g5, o5, c5, rfl, -, -, -, -⟩ := hL.ex
      have fr : ∀ o, W4.frozen? ⟨w.heap.size + 1, o, none⟩ = false := fun o => blk_free HF4.out
      have cz := blk_cell (o := 2) HF4.out rfl
      clear hb HF3 HR3 HBW3 C
      go_wp2_with fail
      refine HK7.out _ _ ?_
      have hF5 := blk_set (o := 2) HF4.out (.slice (some ⟨g5, o5, none⟩) n c5)
      have hB5 := (But.refl (w.heap.size + 1) W4).set 2 (.slice (some ⟨g5, o5, none⟩) n c5)
      refine at_world (fun W5 hW5 => ?_)
      rw [← hW5] at hF5 hB5
      have hR5 := (hB5.same _ (show w.heap.size ≠ w.heap.size + 1 by omega)).trans HR4.out
      have HL5 : Hid (LW W5 (.slice (some ⟨g5, o5, none⟩) n c5) n (limb (18446744073709551616 ^ n * 18446744073709551616 ^ n % M))) := HL.out.other HN2.out HF4.out hB5
      have HB5 := hideP (HBW4.out.trans (hB5.below.mono (by omega)))
      have q0 := blk_cell (o := 0) hF5 rfl
      have q1 := blk_cell (o := 1) hF5 rfl
      have q2 := blk_cell (o := 2) hF5 rfl
      have r0 := blk_cell (o := 0) hR5 rfl
      have r1 := blk_cell (o := 1) hR5 rfl
      have r2 := blk_cell (o := 2) hR5 rfl
      have fr5 : ∀ o, W5.frozen? ⟨w.heap.size, o, none⟩ = false := fun o => blk_free hR5
      have hB6 := (((But.refl w.heap.size W5).set 0 (.slice (some ⟨g2, o2, none⟩) n c2)).set 1 (.int .u64 (f : Int))).set 2 (.slice (some ⟨g5, o5, none⟩) n c5)
      have hR6 := blk_set (o := 2) (blk_set (o := 1) (blk_set (o := 0) hR5 (.slice (some ⟨g2, o2, none⟩) n c2)) (.int .u64 (f : Int))) (.slice (some ⟨g5, o5, none⟩) n c5)
      have HL6 := hideP (HL5.out.other HN2.out hR5 hB6)
      have HB6 := hideP (HB5.out.trans hB6.below)
      have z0 := blk_cell (o := 0) hR6 rfl
      have z1 := blk_cell (o := 1) hR6 rfl
      have z2 := blk_cell (o := 2) hR6 rfl
      clear hW5 hB5 HF4 HR4 HBW4 HL fr cz hF5 hR5 hB6 hR6
      go_wp2
      refine bodyPost_ret (v := .agg #[.slice (some ⟨g2, o2, none⟩) n c2, .int .u64 (f : Int), .slice (some ⟨g5, o5, none⟩) n c5]) (by simp [results, Try.results29, go_sem, z0, z1, z2]) rfl ?_
      exact ⟨⟨f, _, rfl, HL6.out, HFO.out⟩, HB6.out⟩

end Go.Proofs.Ytiekipkmfopdoaa
