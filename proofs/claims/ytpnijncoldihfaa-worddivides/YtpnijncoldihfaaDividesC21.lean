/-
  A number added back to the limbs of another.
-/
import Derived.Test.YtpnijncoldihfaaDividesC11
import Derived.Test.YtpnijncoldihfaaDividesC12
namespace Go.Proofs.Ytpnijncoldihfaa
open Go.RowKit Go.Shelf

/-- What is divided, as its lowest limbs and the part that a round looks at. -/
theorem part_split {lg : Nat → Nat} {V a n : Nat} (hV : V < 18446744073709551616 ^ n) (han : a + n < 9) (hlt : val lg 9 < V * 18446744073709551616 ^ (a + 1)) :
    val lg 9 = val lg a + val (fun j => lg (a + j)) (n + 1) * 18446744073709551616 ^ a ∧ val (fun j => lg (a + j)) (n + 1) < V * 18446744073709551616 ∧ ∀ j, a + n < j → j < 9 → lg j = 0 := by
  have hB : 0 < 18446744073709551616 ^ a := Nat.pow_pos (by decide)
  obtain ⟨d, hd⟩ : ∃ d, 9 = a + (n + 1) + d := ⟨9 - (a + (n + 1)), by omega⟩
  have h1 : val lg 9 = val lg a + val (fun j => lg (a + j)) (n + 1 + d) * 18446744073709551616 ^ a := by
    rw [hd, Nat.add_assoc, val_add]
  have h2 := val_add (fun j => lg (a + j)) (n + 1) d
  have hz : val (fun j => lg (a + (n + 1 + j))) d = 0 := by
    rcases Nat.eq_zero_or_pos (val (fun j => lg (a + (n + 1 + j))) d) with h | h
    · exact h
    · exfalso
      have h3 : 1 * 18446744073709551616 ^ (n + 1) ≤ val (fun j => lg (a + (n + 1 + j))) d * 18446744073709551616 ^ (n + 1) := Nat.mul_le_mul_right _ h
      have h4 : 18446744073709551616 ^ (n + 1) * 18446744073709551616 ^ a ≤ val (fun j => lg (a + j)) (n + 1 + d) * 18446744073709551616 ^ a := Nat.mul_le_mul_right _ (by rw [h2]; omega)
      have h5 : V * 18446744073709551616 ^ (a + 1) ≤ 18446744073709551616 ^ n * 18446744073709551616 ^ (a + 1) := Nat.mul_le_mul_right _ (Nat.le_of_lt hV)
      rw [← Nat.pow_add] at h4 h5
      rw [show n + 1 + a = n + (a + 1) by omega] at h4
      omega
  rw [hz, Nat.zero_mul, Nat.add_zero] at h2
  rw [h2] at h1
  refine ⟨h1, ?_, fun j hj hj9 => ?_⟩
  · apply Nat.lt_of_not_le
    intro hle
    have h6 : V * 18446744073709551616 * 18446744073709551616 ^ a ≤ val (fun j => lg (a + j)) (n + 1) * 18446744073709551616 ^ a := Nat.mul_le_mul_right _ hle
    have h8 : V * 18446744073709551616 * 18446744073709551616 ^ a = V * 18446744073709551616 ^ (a + 1) := by rw [Nat.mul_assoc, Nat.pow_succ, Nat.mul_comm (18446744073709551616 ^ a)]
    rw [h8] at h6
    exact absurd hlt (Nat.not_lt.2 (Nat.le_trans h6 (by rw [h1]; exact Nat.le_add_left _ _)))
  · have h7 : ∀ (m : Nat) (f : Nat → Nat), val f m = 0 → ∀ i, i < m → f i = 0 := by
      intro m
      induction m with
      | zero => intro f _ i hi; omega
      | succ m ih =>
        intro f hf i hi
        have e1 : val f m = 0 := by unfold val at hf; omega
        have e2 : f m * 18446744073709551616 ^ m = 0 := by unfold val at hf; omega
        by_cases him : i = m
        · subst him
          rcases Nat.mul_eq_zero.1 e2 with h | h
          · exact h
          · exact absurd h (Nat.ne_of_gt (Nat.pow_pos (by decide)))
        · exact ih f e1 i (by omega)
    have := h7 d (fun j => lg (a + (n + 1 + j))) hz (j - (a + (n + 1))) (by omega)
    rw [show a + (n + 1 + (j - (a + (n + 1)))) = j by omega] at this
    exact this

/-- The highest limbs of a number of n limbs, two or more. -/
theorem top_two {g : Nat → Nat} {k : Nat} : val g (k + 2) = (g (k + 1) * 18446744073709551616 + g k) * 18446744073709551616 ^ k + val g k := by
  show val g k + g k * 18446744073709551616 ^ k + g (k + 1) * 18446744073709551616 ^ (k + 1) = _
  rw [Nat.add_mul, Nat.pow_succ, Nat.mul_comm (18446744073709551616 ^ k), ← Nat.mul_assoc]
  omega

theorem top_three {g : Nat → Nat} {k : Nat} : val g (k + 3) = ((g (k + 2) * 18446744073709551616 + g (k + 1)) * 18446744073709551616 + g k) * 18446744073709551616 ^ k + val g k := by
  show val g (k + 2) + g (k + 2) * 18446744073709551616 ^ (k + 2) = _
  rw [top_two, Nat.pow_succ, Nat.pow_succ]
  generalize 18446744073709551616 ^ k = K
  generalize val g k = v
  rw [show g (k + 2) * (K * 18446744073709551616 * 18446744073709551616) = g (k + 2) * 18446744073709551616 * 18446744073709551616 * K by rw [Nat.mul_comm (K * 18446744073709551616), Nat.mul_comm K, ← Nat.mul_assoc, ← Nat.mul_assoc]]
  rw [Nat.add_mul (g (k + 2) * 18446744073709551616), Nat.add_mul _ _ K, Nat.add_mul _ _ K, Nat.add_mul _ _ K]
  omega

theorem big_hi {fi hi mi lo : Nat} (hc : fi < hi) : (fi + 1) * 18446744073709551616 * 18446744073709551616 ≤ (hi * 18446744073709551616 + mi) * 18446744073709551616 + lo := by omega

theorem big_fi {fi se : Nat} (h : se < 18446744073709551616) : fi * 18446744073709551616 + se + 1 ≤ (fi + 1) * 18446744073709551616 := by omega

/-- The guess of a round. -/
theorem round_guess {lg y : Nat → Nat} {V a k g0 R : Nat} (hl : ∀ j, lg j < 18446744073709551616) (hy : ∀ j, y j < 18446744073709551616) (hV : V = val y (k + 2)) (hf : 18446744073709551616 ≤ 2 * y (k + 1))
    (hP : val (fun j => lg (a + j)) (k + 3) < V * 18446744073709551616)
    (hg : (lg (a + (k + 2)) < y (k + 1) ∧ g0 = (lg (a + (k + 2)) * 18446744073709551616 + lg (a + (k + 1))) / y (k + 1) ∧ R = (lg (a + (k + 2)) * 18446744073709551616 + lg (a + (k + 1))) % y (k + 1)) ∨ (y (k + 1) ≤ lg (a + (k + 2)) ∧ g0 = 18446744073709551615 ∧ R = lg (a + (k + 1)) + y (k + 1))) :
    val (fun j => lg (a + j)) (k + 3) / V ≤ guessN g0 R (y k) (lg (a + k)) ∧ guessN g0 R (y k) (lg (a + k)) ≤ val (fun j => lg (a + j)) (k + 3) / V + 1 ∧ guessN g0 R (y k) (lg (a + k)) < 18446744073709551616 := by
  have e1 := top_three (g := fun j => lg (a + j)) (k := k)
  have e2 := top_two (g := y) (k := k)
  have b1 := val_lt (g := fun j => lg (a + j)) k (fun j _ => hl _)
  have b2 := val_lt (g := y) k (fun j _ => hy _)
  rw [← hV] at e2
  have f1 := hl (a + (k + 2))
  have f2 := hl (a + (k + 1))
  have f3 := hl (a + k)
  have f4 := hy (k + 1)
  have f5 := hy k
  generalize val (fun j => lg (a + j)) (k + 3) = P at *
  generalize val (fun j => lg (a + j)) k = plow at *
  generalize val y k = vlow at *
  generalize lg (a + (k + 2)) = hi at *
  generalize lg (a + (k + 1)) = mi at *
  generalize lg (a + k) = lo at *
  generalize y (k + 1) = fi at *
  generalize y k = se at *
  have hK : 0 < 18446744073709551616 ^ k := Nat.pow_pos (by decide)
  generalize 18446744073709551616 ^ k = K at *
  have hfi : 0 < fi := by omega
  have hle : hi ≤ fi := by
    apply Nat.le_of_not_lt
    intro hc
    have h1 : (fi + 1) * 18446744073709551616 * 18446744073709551616 * K ≤ P := by
      rw [e1]
      have : (fi + 1) * 18446744073709551616 * 18446744073709551616 ≤ (hi * 18446744073709551616 + mi) * 18446744073709551616 + lo := big_hi hc
      exact Nat.le_trans (Nat.mul_le_mul_right K this) (Nat.le_add_right _ _)
    have h2 : V * 18446744073709551616 ≤ (fi * 18446744073709551616 + se + 1) * K * 18446744073709551616 := by
      apply Nat.mul_le_mul_right
      rw [e2, Nat.add_mul _ 1 K, Nat.one_mul]
      exact Nat.add_le_add_left (Nat.le_of_lt b2) _
    have h3 : (fi * 18446744073709551616 + se + 1) * K * 18446744073709551616 ≤ (fi + 1) * 18446744073709551616 * 18446744073709551616 * K := by
      rw [Nat.mul_right_comm]
      apply Nat.mul_le_mul_right
      have : fi * 18446744073709551616 + se + 1 ≤ (fi + 1) * 18446744073709551616 := big_fi f5
      exact Nat.mul_le_mul_right _ this
    exact absurd hP (Nat.not_lt.2 (Nat.le_trans h2 (Nat.le_trans h3 h1)))
  unfold guessN
  rcases hg with ⟨g1, g2, g3⟩ | ⟨g1, g2, g3⟩
  · have hd := Nat.div_add_mod (hi * 18446744073709551616 + mi) fi
    rw [← g2, ← g3] at hd
    refine KD.guess (first := fi) (high := hi) (mid := mi) (K := K) (vlow := vlow) (plow := plow) _ e2 e1 (by rw [Nat.mul_comm]; exact hd) (Or.inl (by rw [g3]; exact Nat.mod_lt _ hfi)) ?_ rfl hP f5 f3 b2 b1 hf (by decide)
    rw [g2, Nat.div_lt_iff_lt_mul hfi, Nat.mul_comm]
    have : (hi + 1) * 18446744073709551616 ≤ fi * 18446744073709551616 := Nat.mul_le_mul_right _ g1
    omega
  · have hhf : hi = fi := by omega
    subst hhf
    refine KD.guess (first := hi) (high := hi) (mid := mi) (K := K) (vlow := vlow) (plow := plow) _ e2 e1 (by rw [g2, g3]; omega) (Or.inr (by rw [g2])) (by rw [g2]; omega) rfl hP f5 f3 b2 b1 hf (by decide)

/-- What the taking away shows of a guess. -/
theorem round_sub {P V G P' c M : Nat} (hV : 0 < V) (hVM : V < M) (h1 : P / V ≤ G) (h2 : G ≤ P / V + 1) (hP' : P' < M) (hc : c ≤ 1) (h : P + M * c = P' + G * V) :
    (c = 0 → G = P / V ∧ P' = P % V) ∧ (c = 1 → G = P / V + 1 ∧ ∀ P'' d, P'' < M → P' + V = P'' + M * d → P'' = P % V) := by
  have hd := Nat.div_add_mod P V
  have hm := Nat.mod_lt P hV
  rw [Nat.mul_comm] at hd
  refine ⟨fun hc0 => ?_, fun hc1 => ?_⟩
  · subst hc0
    have hG : G = P / V := by
      apply Nat.le_antisymm _ h1
      rw [Nat.le_div_iff_mul_le hV]
      omega
    subst hG
    omega
  · subst hc1
    have hG : G = P / V + 1 := by
      apply Nat.le_antisymm h2
      apply Nat.lt_of_not_le
      intro hle
      have : G * V ≤ P / V * V := Nat.mul_le_mul_right _ hle
      omega
    subst hG
    refine ⟨rfl, fun P'' d hP2 he => ?_⟩
    rw [Nat.add_mul, Nat.one_mul] at h
    have e : P'' + M * d = M + P % V := by omega
    have hd1 : d = 1 := by
      rcases Nat.lt_trichotomy d 1 with hh | hh | hh
      · have : d = 0 := by omega
        subst this; omega
      · exact hh
      · have : M * 2 ≤ M * d := Nat.mul_le_mul_left _ hh
        omega
    subst hd1
    omega

/-- The limbs behind a round. -/
theorem round_next {lg lg' : Nat → Nat} {V a n P : Nat} (hl : ∀ j, lg j < 18446744073709551616) (hV : 0 < V) (han : a + n < 9) (hsp : val lg 9 = val lg a + P * 18446744073709551616 ^ a)
    (hfar : ∀ j, j < a ∨ a + n < j → lg' j = lg j) (hhi : ∀ j, a + n < j → j < 9 → lg j = 0) (hp : val (fun j => lg' (a + j)) (n + 1) = P % V) :
    val lg 9 = val lg' 9 + P / V * V * 18446744073709551616 ^ a ∧ val lg' 9 < V * 18446744073709551616 ^ a := by
  obtain ⟨d, hd⟩ : ∃ d, 9 = a + (n + 1) + d := ⟨9 - (a + (n + 1)), by omega⟩
  have h0 : val lg' a = val lg a := val_congr a (fun j hj => hfar j (by omega))
  have hz : ∀ m (f : Nat → Nat), (∀ i, i < m → f i = 0) → val f m = 0 := by
    intro m
    induction m with
    | zero => intro f _; rfl
    | succ m ih => intro f hf; unfold val; rw [ih f (fun i hi => hf i (by omega)), hf m (by omega), Nat.zero_mul]
  have h1 : val lg' 9 = val lg a + P % V * 18446744073709551616 ^ a := by
    rw [hd, val_add, val_add, h0, hp]
    rw [hz d (fun j => lg' (a + (n + 1) + j)) (fun i hi => by rw [hfar _ (by omega)]; exact hhi _ (by omega) (by omega))]
    omega
  have hdm := Nat.div_add_mod P V
  have hm := Nat.mod_lt P hV
  refine ⟨?_, ?_⟩
  · rw [hsp, h1]
    have : P * 18446744073709551616 ^ a = (V * (P / V) + P % V) * 18446744073709551616 ^ a := by rw [hdm]
    rw [Nat.add_mul, Nat.mul_comm V] at this
    omega
  · rw [h1]
    have h2 := val_lt (g := lg) a (fun j _ => hl j)
    have h3 : (P % V + 1) * 18446744073709551616 ^ a ≤ V * 18446744073709551616 ^ a := Nat.mul_le_mul_right _ hm
    rw [Nat.add_mul, Nat.one_mul] at h3
    omega

end Go.Proofs.Ytpnijncoldihfaa

namespace Go.Proofs.Ytpnijncoldihfaa
open Go.RowKit Go.Shelf

/-- Where the adding back has come to. -/
structure ABI (W wr : World) (L at_ : Nat) (g y gk : Nat → Nat) (k c : Nat) : Prop where
  lt : ∀ j, gk j < 18446744073709551616
  far : ∀ j, j < at_ ∨ at_ + k ≤ j → gk j = g j
  sum : val (fun j => g (at_ + j)) k + val y k = val (fun j => gk (at_ + j)) k + 18446744073709551616 ^ k * c
  c : c ≤ 1
  cells : wr.heap[L]? = some (.cells (c9 gk) 113 (0, 0))
  but : But L W wr

theorem ABI.put {W wr : World} {L at_ : Nat} {g y gk : Nat → Nat} {k c s c' : Nat} (I : ABI W wr L at_ g y gk k c) (hk : at_ + k < 9) (hs : s < 18446744073709551616) (hc : c' ≤ 1)
    (e : g (at_ + k) + y k + c = s + 18446744073709551616 * c') :
    ABI W (wr.drew.setCell ⟨L, at_ + k, none⟩ (.int .u64 s)) L at_ g y (fun i => if i = at_ + k then s else gk i) (k + 1) c' := by
  refine ⟨fun j => ?_, fun j hj => ?_, ?_, hc, ?_, I.but.drew.set _ _⟩
  · split
    · exact hs
    · exact I.lt j
  · rw [if_neg (by omega)]
    exact I.far j (by omega)
  · have h1 : val (fun j => if at_ + j = at_ + k then s else gk (at_ + j)) k = val (fun j => gk (at_ + j)) k := val_congr k (fun j hj => by rw [if_neg (by omega)])
    show val (fun j => g (at_ + j)) k + g (at_ + k) * 18446744073709551616 ^ k + (val y k + y k * 18446744073709551616 ^ k) = val (fun j => if at_ + j = at_ + k then s else gk (at_ + j)) k + (if at_ + k = at_ + k then s else gk (at_ + k)) * 18446744073709551616 ^ k + 18446744073709551616 ^ (k + 1) * c'
    rw [h1, if_pos rfl, Nat.pow_succ]
    have h2 : 18446744073709551616 ^ k * (g (at_ + k) + y k + c) = 18446744073709551616 ^ k * (s + 18446744073709551616 * c') := by rw [e]
    simp only [Nat.mul_add] at h2
    have h3 := I.sum
    rw [Nat.mul_comm (g (at_ + k)), Nat.mul_comm (y k), Nat.mul_comm s, Nat.mul_assoc]
    omega
  · have := blk_set (w := wr.drew) (o := at_ + k) I.cells (.int .u64 s)
    rw [set9 gk s hk] at this
    exact this

set_option maxHeartbeats 2000000 in
set_option maxRecDepth 100000 in
theorem addBack_any (W : World) (L Yb at_ n cp cy : Nat) (g y : Nat → Nat) (hat : at_ + n < 9) (hg : ∀ j, g j < 18446744073709551616) (hy : ∀ j, y j < 18446744073709551616) (hne : Yb ≠ L)
    (hL : W.heap[L]? = some (.cells (c9 g) 113 (0, 0))) (hY : ∀ j, j < n → W.cell? ⟨Yb, j, none⟩ = some (.int .u64 (y j))) :
    Calls Try.prog 132 #[.slice (some ⟨L, at_, none⟩) (n + 1) cp, .slice (some ⟨Yb, 0, none⟩) n cy] W fun e V =>
      e = .returned (.tuple #[]) ∧ ∃ g' : Nat → Nat, (∀ j, g' j < 18446744073709551616) ∧ (∀ j, j < at_ ∨ at_ + n < j → g' j = g j) ∧
        (∃ d, val (fun j => g (at_ + j)) (n + 1) + val y n = val (fun j => g' (at_ + j)) (n + 1) + 18446744073709551616 ^ (n + 1) * d) ∧ V.heap[L]? = some (.cells (c9 g') 113 (0, 0)) ∧ But L W V := by
  have HI0 : Hid (ABI W W L at_ g y g 0 0) := ⟨hg, fun _ _ => rfl, by simp [val], by omega, hL, But.refl _ _⟩
  have HY := hideP hY
  have HG := hideP hg
  have HYL := hideP hy
  clear hY hg hy hL
  go_enter Try.func132, Try.ntmps132
  go_wp2_with fail
  go_loopw [4, 8] (fun c i wr => ∃ (k cv : Nat) (gk : Nat → Nat), k ≤ n ∧ i = .int .i64 k ∧ c = .int .u64 cv ∧ ABI W wr L at_ g y gk k cv) (fun _ i _ => n - (intOf i).toNat)
  case atStart => exact ⟨0, 0, g, Nat.zero_le _, rfl, rfl, HI0.out⟩
  case round =>
    obtain ⟨k, cv, gk, hk, rfl, rfl, I⟩ := hrel
    have HI := hideP I
    clear I
    by_cases hlt : k < n
    · obtain ⟨s, c', hs, hc', e2, hsb⟩ := add64_ex (g (at_ + k)) (y k) cv (HG.out _) (HYL.out k) HI.out.c
      have cy := (HI.out.but.cell (o := k) hne).trans (HY.out k hlt)
      have cp := blk_cell HI.out.cells (get9 gk (show at_ + k < 9 by omega))
      rw [HI.out.far (at_ + k) (Or.inr (Nat.le_refl _))] at cp
      have fr : ∀ o, wr.frozen? ⟨L, o, none⟩ = false := fun o => blk_free HI.out.cells
      have HN := hideP (HI.out.put (show at_ + k < 9 by omega) hs hc' e2)
      have hlt' : (k : Int) < n := by omega
      have hlt2 : (k : Int) < (n : Int) + 1 := by omega
      have e4 : IntKind.i64.wrap ((k : Int) + 1) = (k : Int) + 1 := by rw [IntKind.wrap_i64]; omega
      have HKS : Hid (k + 1 ≤ n) := hlt
      clear e2 hs hc' hk hlt
      go_wp2_with fail
      go_region
      go_wp2_with fail
      refine ⟨⟨k + 1, c', _, HKS.out, by go_num, rfl, HN.out⟩, by have := HKS.out; simp [intOf]; omega⟩
    · have hkn : k = n := by omega
      subst hkn
      have cp := blk_cell HI.out.cells (get9 gk (show at_ + k < 9 by omega))
      rw [HI.out.far (at_ + k) (Or.inr (Nat.le_refl _))] at cp
      have fr : ∀ o, wr.frozen? ⟨L, o, none⟩ = false := fun o => blk_free HI.out.cells
      obtain ⟨s, hs⟩ : ∃ s : Nat, s = (g (at_ + k) + cv) % 18446744073709551616 := ⟨_, rfl⟩
      have hsl : s < 18446744073709551616 := by rw [hs]; exact Nat.mod_lt _ (by decide)
      have hw : IntKind.u64.wrap ((g (at_ + k) : Int) + cv) = (s : Int) := by
        rw [show ((g (at_ + k) : Int) + cv) = ((g (at_ + k) + cv : Nat) : Int) by omega, M64.wrapM, hs]
      have HN : Hid ((∀ j, (if j = at_ + k then s else gk j) < 18446744073709551616) ∧ (∀ j, j < at_ ∨ at_ + k < j → (if j = at_ + k then s else gk j) = g j) ∧
          val (fun j => g (at_ + j)) (k + 1) + val y k = val (fun j => if at_ + j = at_ + k then s else gk (at_ + j)) (k + 1) + 18446744073709551616 ^ (k + 1) * ((g (at_ + k) + cv) / 18446744073709551616) ∧
          (wr.setCell ⟨L, at_ + k, none⟩ (.int .u64 s)).heap[L]? = some (.cells (c9 (fun i => if i = at_ + k then s else gk i)) 113 (0, 0)) ∧ But L W (wr.setCell ⟨L, at_ + k, none⟩ (.int .u64 s))) := by
        refine ⟨fun j => ?_, fun j hj => ?_, ?_, ?_, HI.out.but.set _ _⟩
        · split
          · exact hsl
          · exact HI.out.lt j
        · rw [if_neg (by omega)]
          exact HI.out.far j (by omega)
        · have h1 : val (fun j => if at_ + j = at_ + k then s else gk (at_ + j)) k = val (fun j => gk (at_ + j)) k := val_congr k (fun j hj => by rw [if_neg (by omega)])
          show val (fun j => g (at_ + j)) k + g (at_ + k) * 18446744073709551616 ^ k + val y k = val (fun j => if at_ + j = at_ + k then s else gk (at_ + j)) k + (if at_ + k = at_ + k then s else gk (at_ + k)) * 18446744073709551616 ^ k + 18446744073709551616 ^ (k + 1) * ((g (at_ + k) + cv) / 18446744073709551616)
          rw [h1, if_pos rfl, Nat.pow_succ]
          have hd := Nat.mod_add_div (g (at_ + k) + cv) 18446744073709551616
          rw [← hs] at hd
          generalize (g (at_ + k) + cv) / 18446744073709551616 = d at hd
          have h2 : 18446744073709551616 ^ k * (s + 18446744073709551616 * d) = 18446744073709551616 ^ k * (g (at_ + k) + cv) := by rw [hd]
          simp only [Nat.mul_add] at h2
          have h3 := HI.out.sum
          rw [Nat.mul_comm (g (at_ + k)), Nat.mul_comm s, Nat.mul_assoc]
          omega
        · have := blk_set (o := at_ + k) HI.out.cells (.int .u64 s)
          rw [set9 gk s (by omega)] at this
          exact this
      have hlt' : ¬ (k : Int) < k := by omega
      have hlt2 : (k : Int) < (k : Int) + 1 := by omega
      clear hs hsl hk hlt
      go_wp2_with fail
      refine bodyPost_end (v := .tuple #[]) (by simp [results, Try.results132, go_sem]) rfl ⟨rfl, fun i => if i = at_ + k then s else gk i, HN.out.1, HN.out.2.1, ⟨_, HN.out.2.2.1⟩, HN.out.2.2.2⟩

end Go.Proofs.Ytpnijncoldihfaa
