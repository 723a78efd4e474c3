/-
  Sums modulo any word.
-/
import Derived.Test.YtpnijncoldihfaaDividesC01
import Derived.Test.YtpnijncoldihfaaDividesC20
import Derived.Test.YtpnijncoldihfaaDividesC33
namespace Go.Proofs.Ytpnijncoldihfaa
open Go.RowKit Go.Shelf

theorem eq_words (a b c d a' b' c' d' : Int) (W : World) : (Op.equalIn 10000 24 (.agg #[.int .u64 a, .int .u64 b, .int .u64 c, .int .u64 d]) (.agg #[.int .u64 a', .int .u64 b', .int .u64 c', .int .u64 d'])).run Try.prog W = .ok (a == a' && (b == b' && (c == c' && d == d'))) W := by
  have h : ∀ x y : Int, (Op.equalIn 9999 22 (.int .u64 x) (.int .u64 y)).run Try.prog W = .ok (x == y) W := fun x y => by
    unfold Op.equalIn
    simp [go_sem]
  unfold Op.equalIn
  simp [go_sem, List.range', h]
  by_cases h1 : a = a' <;> by_cases h2 : b = b' <;> by_cases h3 : c = c' <;> by_cases h4 : d = d' <;> simp [go_sem, h1, h2, h3, h4]

end Go.Proofs.Ytpnijncoldihfaa

namespace Go.Proofs.Ytpnijncoldihfaa
open Go.RowKit Go.Shelf

set_option maxHeartbeats 2000000 in
set_option maxRecDepth 100000 in
theorem same_any (X : Nat) (w : World) : Calls Try.prog 20 #[wv X, wv X] w fun e w' => e = .returned (.bool true) ∧ Below w.heap.size w w' := by
  obtain ⟨x0, x1, x2, x3, hx⟩ := wv_form X
  rw [hx]
  have heq : ∀ W : World, (Op.equalIn 10000 24 (.agg #[.int .u64 x0, .int .u64 x1, .int .u64 x2, .int .u64 x3]) (.agg #[.int .u64 x0, .int .u64 x1, .int .u64 x2, .int .u64 x3])).run Try.prog W = .ok true W := fun W => by rw [eq_words]; simp
  clear hx
  go_enter Try.func20, Try.ntmps20
  go_wp2_with fail
  go_ret
  refine ⟨rfl, ?_⟩
  repeat first | exact Below.refl _ _ | apply Below.drew | (refine Below.alloc ?_ (by simp <;> omega) _) | (refine Below.setCell ?_ (by simp <;> omega) _)

end Go.Proofs.Ytpnijncoldihfaa

namespace Go.Proofs.Ytpnijncoldihfaa
open Go.RowKit Go.Shelf

theorem w8_of_limbs {Z s0 s1 s2 s3 : Nat} (h0 : s0 < 18446744073709551616) (h1 : s1 < 18446744073709551616) (h2 : s2 < 18446744073709551616) (h3 : s3 < 18446744073709551616) (e : Z = num s0 s1 s2 s3) :
    w8 Z = .agg #[.int .u64 s0, .int .u64 s1, .int .u64 s2, .int .u64 s3, .int .u64 0, .int .u64 0, .int .u64 0, .int .u64 0] := by
  refine (w8_mk (e := 0) (f := 0) (g := 0) (h := 0) (k := 0) h0 h1 h2 h3 (by omega) (by omega) (by omega) (by omega) ?_).symm
  rw [e]; rfl

theorem w8_of_limbs1 {Z s0 s1 s2 s3 : Nat} (h0 : s0 < 18446744073709551616) (h1 : s1 < 18446744073709551616) (h2 : s2 < 18446744073709551616) (h3 : s3 < 18446744073709551616) (e : Z = num s0 s1 s2 s3 + M256) :
    w8 Z = .agg #[.int .u64 s0, .int .u64 s1, .int .u64 s2, .int .u64 s3, .int .u64 1, .int .u64 0, .int .u64 0, .int .u64 0] := by
  refine (w8_mk (e := 1) (f := 0) (g := 0) (h := 0) (k := 0) h0 h1 h2 h3 (by omega) (by omega) (by omega) (by omega) ?_).symm
  rw [e]
  unfold num M256
  omega

theorem carryS_no (X Y : Nat) (h : X % M256 + Y % M256 < M256) (w : World) : Calls Try.prog 16 #[wv X, wv Y] w fun e w' => e = .returned (.tuple #[wv (X + Y), .bool false]) ∧ Below w.heap.size w w' := by
  refine (carry_any w X Y).mono ?_
  rintro e w1 ⟨c, rfl, hc, hs, hb⟩
  refine ⟨?_, hb⟩
  have hc0 : c = 0 := by
    rcases (show c = 0 ∨ c = 1 by omega) with h0 | h1
    · exact h0
    · subst h1; omega
  subst hc0
  simp

theorem carryS_yes (X Y : Nat) (h : M256 ≤ X % M256 + Y % M256) (w : World) : Calls Try.prog 16 #[wv X, wv Y] w fun e w' => e = .returned (.tuple #[wv (X + Y), .bool true]) ∧ Below w.heap.size w w' := by
  refine (carry_any w X Y).mono ?_
  rintro e w1 ⟨c, rfl, hc, hs, hb⟩
  refine ⟨?_, hb⟩
  have hc0 : c = 1 := by
    rcases (show c = 0 ∨ c = 1 by omega) with h0 | h1
    · subst h0
      have := Nat.mod_lt (X + Y) M256_pos
      omega
    · exact h1
  subst hc0
  simp

theorem sum_lt8 (X Y : Nat) : X % M256 + Y % M256 < 18446744073709551616 ^ 8 := by
  have hx : X % M256 < M256 := Nat.mod_lt _ M256_pos
  have hy : Y % M256 < M256 := Nat.mod_lt _ M256_pos
  have : M256 + M256 ≤ 18446744073709551616 ^ 8 := by decide
  omega

set_option maxHeartbeats 2000000 in
set_option maxRecDepth 100000 in
theorem addMod_any (X Y N : Nat) (w : World) : Calls Try.prog 41 #[wv X, wv Y, wv N] w fun e w' => e = .returned (wv (restN (X % M256 + Y % M256) (N % M256))) ∧ Below w.heap.size w w' := by
  have c2 := fun W => widen_any (X + Y) W
  have c3 := fun W => divideWide_any (X % M256 + Y % M256) N (sum_lt8 X Y) W
  obtain ⟨x0, x1, x2, x3, hx⟩ := wv_form X
  obtain ⟨y0, y1, y2, y3, hy⟩ := wv_form Y
  obtain ⟨n0, n1, n2, n3, hn⟩ := wv_form N
  obtain ⟨s0, s1, s2, s3, l0, l1, l2, l3, eS, hs⟩ := wv_limbs (X + Y)
  obtain ⟨q0, q1, q2, q3, q4, q5, q6, q7, hq⟩ := w8_form ((X % M256 + Y % M256) / (N % M256))
  obtain ⟨z0, z1, z2, z3, hz⟩ := wv_form (restN (X % M256 + Y % M256) (N % M256))
  rw [w8_of_limbs l0 l1 l2 l3 eS] at c2
  have hmod := Nat.add_mod X Y M256
  rcases Nat.lt_or_ge (X % M256 + Y % M256) M256 with hc | hc
  · have c1 := fun W => carryS_no X Y hc W
    have hsum : X % M256 + Y % M256 = num s0 s1 s2 s3 := by
      rw [← eS, hmod, Nat.mod_eq_of_lt hc]
    rw [w8_of_limbs l0 l1 l2 l3 hsum] at c3
    simp only [hx, hy, hn, hs, hq, hz] at c1 c2 c3 ⊢
    have C1 := hideP c1
    have C2 := hideP c2
    have C3 := hideP c3
    clear c1 c2 c3 hx hy hn hs hq hz hsum hmod hc eS l0 l1 l2 l3
    go_enter Try.func41, Try.ntmps41
    go_wp2_with fail
    refine (C1.out _).mono ?_
    rintro e V1 ⟨rfl, hb⟩
    have HN : Hid (V1.heap[w.heap.size + 1 + 1]? = some (.cells #[.int .u64 n0, .int .u64 n1, .int .u64 n2, .int .u64 n3] 24 (0, 0))) := (kept4 hb ((heap_old _ _ (by simp)).trans (heap_new2 _ _ _ _))).1
    have HR : Hid (V1.heap[w.heap.size + 1 + 1 + 1]? = some (.cells #[.int .u64 0, .int .u64 0, .int .u64 0, .int .u64 0] 24 (0, 0))) := (kept4 hb (heap_new3 _ _ _ _ _)).1
    have HBW : Hid (Below w.heap.size w V1) := (((((Below.refl _ w).alloc (Nat.le_refl _) _).alloc (by simp) _).alloc (by simp <;> omega) _).alloc (by simp <;> omega) _).trans (hb.mono (by simp <;> omega))
    clear hb
    go_wp2_with fail
    refine (C2.out _).mono ?_
    rintro e V2 ⟨rfl, hb⟩
    replace HN : Hid (V2.heap[w.heap.size + 1 + 1]? = some (.cells #[.int .u64 n0, .int .u64 n1, .int .u64 n2, .int .u64 n3] 24 (0, 0))) := (kept4 hb ((heap_old _ _ (lt_of_block HN.out)).trans HN.out)).1
    replace HR : Hid (V2.heap[w.heap.size + 1 + 1 + 1]? = some (.cells #[.int .u64 0, .int .u64 0, .int .u64 0, .int .u64 0] 24 (0, 0))) := (kept4 hb ((heap_old _ _ (lt_of_block HR.out)).trans HR.out)).1
    replace HBW : Hid (Below w.heap.size w V2) := (HBW.out.alloc HBW.out.size _).trans (hb.mono (Nat.le_trans HBW.out.size (by simp)))
    clear hb
    obtain ⟨cn0, cn1, cn2, cn3⟩ := cells4 HN.out
    have hln := lt_of_block HN.out
    have hne : ¬ (w.heap.size + 1 + 1 = V2.heap.size) := by omega
    go_wp2_with fail
    refine (C3.out _).mono ?_
    rintro e V3 ⟨rfl, hb⟩
    obtain ⟨_, g0, g1, g2, g3, f0, f1, f2, f3⟩ := kept4 hb ((heap_old _ _ (lt_of_block HR.out)).trans HR.out)
    have hlr : w.heap.size + 1 + 1 + 1 < V3.heap.size := by have := hb.size; have := lt_of_block HR.out; simp only [World.size_alloc] at *; omega
    have hlr1 : w.heap.size + 1 + 1 + 1 < V3.heap.size + 1 := by omega
    have hne1 : ¬ (w.heap.size + 1 + 1 + 1 = V3.heap.size) := by omega
    have hne2 : ¬ (w.heap.size + 1 + 1 + 1 = V3.heap.size + 1) := by omega
    have hne3 : ¬ (V3.heap.size = w.heap.size + 1 + 1 + 1) := by omega
    have hne4 : ¬ (V3.heap.size + 1 = w.heap.size + 1 + 1 + 1) := by omega
    replace HBW : Hid (Below w.heap.size w V3) := (HBW.out.alloc HBW.out.size _).trans (hb.mono (Nat.le_trans HBW.out.size (by simp)))
    clear hb cn0 cn1 cn2 cn3 hln hne HN HR
    go_wp2
    refine bodyPost_ret (v := .agg #[.int .u64 z0, .int .u64 z1, .int .u64 z2, .int .u64 z3]) (by simp [results, Try.results41, go_sem, hlr, hlr1, g0, g1, g2, g3, World.cell?_setCell_same]) rfl ⟨rfl, ?_⟩
    repeat first | exact HBW.out | apply Below.drew | (refine Below.alloc ?_ (by simp <;> omega) _) | (refine Below.setCell ?_ (by simp <;> omega) _)
  · have c1 := fun W => carryS_yes X Y hc W
    have hsum : X % M256 + Y % M256 = num s0 s1 s2 s3 + M256 := by
      have h1 := Nat.mod_lt X M256_pos
      have h2 := Nat.mod_lt Y M256_pos
      have h3 : X % M256 + Y % M256 - M256 < M256 := by omega
      rw [← eS, hmod, Nat.mod_eq_sub_mod hc, Nat.mod_eq_of_lt h3]
      exact (Nat.sub_add_cancel hc).symm
    rw [w8_of_limbs1 l0 l1 l2 l3 hsum] at c3
    simp only [hx, hy, hn, hs, hq, hz] at c1 c2 c3 ⊢
    have C1 := hideP c1
    have C2 := hideP c2
    have C3 := hideP c3
    clear c1 c2 c3 hx hy hn hs hq hz hsum hmod hc eS l0 l1 l2 l3
    go_enter Try.func41, Try.ntmps41
    go_wp2_with fail
    refine (C1.out _).mono ?_
    rintro e V1 ⟨rfl, hb⟩
    have HN : Hid (V1.heap[w.heap.size + 1 + 1]? = some (.cells #[.int .u64 n0, .int .u64 n1, .int .u64 n2, .int .u64 n3] 24 (0, 0))) := (kept4 hb ((heap_old _ _ (by simp)).trans (heap_new2 _ _ _ _))).1
    have HR : Hid (V1.heap[w.heap.size + 1 + 1 + 1]? = some (.cells #[.int .u64 0, .int .u64 0, .int .u64 0, .int .u64 0] 24 (0, 0))) := (kept4 hb (heap_new3 _ _ _ _ _)).1
    have HBW : Hid (Below w.heap.size w V1) := (((((Below.refl _ w).alloc (Nat.le_refl _) _).alloc (by simp) _).alloc (by simp <;> omega) _).alloc (by simp <;> omega) _).trans (hb.mono (by simp <;> omega))
    clear hb
    go_wp2_with fail
    refine (C2.out _).mono ?_
    rintro e V2 ⟨rfl, hb⟩
    replace HN : Hid (V2.heap[w.heap.size + 1 + 1]? = some (.cells #[.int .u64 n0, .int .u64 n1, .int .u64 n2, .int .u64 n3] 24 (0, 0))) := (kept4 hb ((heap_old _ _ (lt_of_block HN.out)).trans HN.out)).1
    replace HR : Hid (V2.heap[w.heap.size + 1 + 1 + 1]? = some (.cells #[.int .u64 0, .int .u64 0, .int .u64 0, .int .u64 0] 24 (0, 0))) := (kept4 hb ((heap_old _ _ (lt_of_block HR.out)).trans HR.out)).1
    replace HBW : Hid (Below w.heap.size w V2) := (HBW.out.alloc HBW.out.size _).trans (hb.mono (Nat.le_trans HBW.out.size (by simp)))
    clear hb
    obtain ⟨cn0, cn1, cn2, cn3⟩ := cells4 HN.out
    have hln := lt_of_block HN.out
    have hne : ¬ (w.heap.size + 1 + 1 = V2.heap.size) := by omega
    go_wp2_with fail
    refine (C3.out _).mono ?_
    rintro e V3 ⟨rfl, hb⟩
    obtain ⟨_, g0, g1, g2, g3, f0, f1, f2, f3⟩ := kept4 hb ((heap_old _ _ (lt_of_block HR.out)).trans HR.out)
    have hlr : w.heap.size + 1 + 1 + 1 < V3.heap.size := by have := hb.size; have := lt_of_block HR.out; simp only [World.size_alloc] at *; omega
    have hlr1 : w.heap.size + 1 + 1 + 1 < V3.heap.size + 1 := by omega
    have hne1 : ¬ (w.heap.size + 1 + 1 + 1 = V3.heap.size) := by omega
    have hne2 : ¬ (w.heap.size + 1 + 1 + 1 = V3.heap.size + 1) := by omega
    have hne3 : ¬ (V3.heap.size = w.heap.size + 1 + 1 + 1) := by omega
    have hne4 : ¬ (V3.heap.size + 1 = w.heap.size + 1 + 1 + 1) := by omega
    replace HBW : Hid (Below w.heap.size w V3) := (HBW.out.alloc HBW.out.size _).trans (hb.mono (Nat.le_trans HBW.out.size (by simp)))
    clear hb cn0 cn1 cn2 cn3 hln hne HN HR
    go_wp2
    refine bodyPost_ret (v := .agg #[.int .u64 z0, .int .u64 z1, .int .u64 z2, .int .u64 z3]) (by simp [results, Try.results41, go_sem, hlr, hlr1, g0, g1, g2, g3, World.cell?_setCell_same]) rfl ⟨rfl, ?_⟩
    repeat first | exact HBW.out | apply Below.drew | (refine Below.alloc ?_ (by simp <;> omega) _) | (refine Below.setCell ?_ (by simp <;> omega) _)

end Go.Proofs.Ytpnijncoldihfaa
