/-
  The document's reduce: its arithmetic, round by round.
-/
import Derived.Test.YtiekipkmfopdoaaRRow
namespace Go.Proofs.Ytiekipkmfopdoaa
open Go.RowKit Go.Shelf

theorem fill_zero {V M fo B : Nat} (hf : (M % B * fo + 1) % B = 0) : (V + V % B * fo % B * M) % B = 0 := by
  have h1 : (V + V % B * fo % B * M) % B = (V * (M % B * fo + 1)) % B := by
    have e1 : (V % B * fo % B * M) % B = (V * (M % B * fo)) % B := by
      rw [Nat.mul_mod, Nat.mod_mod, ← Nat.mul_mod, Nat.mul_mod, Nat.mul_mod (V % B) fo, Nat.mod_mod, ← Nat.mul_mod V fo, ← Nat.mul_mod]
      rw [Nat.mul_mod V (M % B * fo), Nat.mul_mod (M % B) fo, Nat.mod_mod, ← Nat.mul_mod M fo, ← Nat.mul_mod]
      congr 1
      grind
    rw [Nat.add_mod, e1, ← Nat.add_mod]
    congr 1
    grind
  rw [h1, Nat.mul_mod, hf, Nat.mul_zero, Nat.zero_mod]

theorem red_round {V A M q t i fo : Nat} (hf : (M % 18446744073709551616 * fo + 1) % 18446744073709551616 = 0) (hz : V % 18446744073709551616 ^ i = 0) (hV : V = A + q * M) (hq : q < 18446744073709551616 ^ i)
    (ht : t = V / 18446744073709551616 ^ i % 18446744073709551616 * fo % 18446744073709551616) :
    (V + t * M * 18446744073709551616 ^ i) % 18446744073709551616 ^ (i + 1) = 0 ∧ V + t * M * 18446744073709551616 ^ i = A + (q + t * 18446744073709551616 ^ i) * M ∧ q + t * 18446744073709551616 ^ i < 18446744073709551616 ^ (i + 1) := by
  have htl : t < 18446744073709551616 := by rw [ht]; exact Nat.mod_lt _ (by decide)
  have hd := Nat.div_add_mod V (18446744073709551616 ^ i)
  rw [hz, Nat.add_zero] at hd
  have hfz := fill_zero (V := V / 18446744073709551616 ^ i) hf
  rw [← ht] at hfz
  rw [Nat.pow_succ]
  generalize 18446744073709551616 ^ i = P at *
  generalize V / P = V1 at *
  refine ⟨?_, ?_, ?_⟩
  · rw [← hd, show P * V1 + t * M * P = P * (V1 + t * M) by grind, Nat.mul_mod_mul_left, hfz, Nat.mul_zero]
  · rw [hV]; grind
  · have := Nat.mul_le_mul_right P (show t + 1 ≤ 18446744073709551616 by omega)
    rw [Nat.add_mul, Nat.one_mul] at this
    rw [Nat.mul_comm P]
    omega

theorem val_put (g : Nat → Nat) (j s : Nat) : ∀ N, j < N → val (fun i => if i = j then s else g i) N + g j * 18446744073709551616 ^ j = val g N + s * 18446744073709551616 ^ j
  | 0, h => absurd h (by omega)
  | N + 1, h => by
    show val (fun i => if i = j then s else g i) N + (if N = j then s else g N) * 18446744073709551616 ^ N + g j * 18446744073709551616 ^ j = val g N + g N * 18446744073709551616 ^ N + s * 18446744073709551616 ^ j
    by_cases e : N = j
    · subst e
      rw [if_pos rfl, val_congr (g := g) N (fun i hi => by rw [if_neg (by omega)])]
      omega
    · rw [if_neg e]
      have := val_put g j s N (by omega)
      omega

/-- Where a row of the reduction has come to. -/
structure RJ (W wr : World) (D N i t : Nat) (y g0 gk : Nat → Nat) (k c : Nat) : Prop where
  lt : ∀ j, gk j < 18446744073709551616
  old : ∀ j, i + k ≤ j → gk j = g0 j
  sum : val gk (i + k) + 18446744073709551616 ^ (i + k) * c = val g0 (i + k) + t * val y k * 18446744073709551616 ^ i
  c : c < 18446744073709551616
  row : RW wr D N gk
  but : But D W wr

theorem RJ.put {W wr : World} {D N i t : Nat} {y g0 gk : Nat → Nat} {k c s c' : Nat} (I : RJ W wr D N i t y g0 gk k c) (hs : s < 18446744073709551616) (hc : c' < 18446744073709551616)
    (e : t * y k + gk (i + k) + c = s + 18446744073709551616 * c') :
    RJ W (wr.setCell ⟨D, i + k, none⟩ (.int .u64 s)) D N i t y g0 (fun j => if j = i + k then s else gk j) (k + 1) c' := by
  refine ⟨fun j => ?_, fun j hj => ?_, ?_, hc, I.row.set _ _, I.but.set _ _⟩
  · split
    · exact hs
    · exact I.lt j
  · rw [if_neg (by omega)]
    exact I.old j (by omega)
  · have h1 : val (fun j => if j = i + k then s else gk j) (i + k) = val gk (i + k) := val_congr _ (fun j hj => by rw [if_neg (by omega)])
    have h3 := I.old (i + k) (Nat.le_refl _)
    rw [h3] at e
    show val (fun j => if j = i + k then s else gk j) (i + k) + (if i + k = i + k then s else gk (i + k)) * 18446744073709551616 ^ (i + k) + 18446744073709551616 ^ (i + k + 1) * c' = val g0 (i + k) + g0 (i + k) * 18446744073709551616 ^ (i + k) + t * (val y k + y k * 18446744073709551616 ^ k) * 18446744073709551616 ^ i
    rw [h1, if_pos rfl, Nat.pow_succ]
    have h2 := I.sum
    rw [Nat.pow_add] at h2 ⊢
    generalize 18446744073709551616 ^ i = P at *
    generalize 18446744073709551616 ^ k = Q at *
    generalize val gk (i + k) = a at *
    generalize val g0 (i + k) = b at *
    generalize g0 (i + k) = d at *
    generalize y k = yk at *
    generalize val y k = vy at *
    have e2 : (t * yk + d + c) * (P * Q) = (s + 18446744073709551616 * c') * (P * Q) := by rw [e]
    grind

theorem RJ.drew {W wr : World} {D N i t : Nat} {y g0 gk : Nat → Nat} {k c : Nat} (I : RJ W wr D N i t y g0 gk k c) : RJ W wr.drew D N i t y g0 gk k c :=
  ⟨I.lt, I.old, I.sum, I.c, I.row.heap rfl, I.but.drew⟩

/-- Where carrying has come to. -/
structure CJ (W wr : World) (D N T : Nat) (gk : Nat → Nat) (j c : Nat) : Prop where
  lt : ∀ j, gk j < 18446744073709551616
  sum : val gk N + 18446744073709551616 ^ j * c = T
  c : c < 18446744073709551616
  row : RW wr D N gk
  but : But D W wr

theorem RJ.carry {W wr : World} {D N i t n : Nat} {y g0 gk : Nat → Nat} {c : Nat} (I : RJ W wr D N i t y g0 gk n c) (hN : i + n ≤ N) : CJ W wr D N (val g0 N + t * val y n * 18446744073709551616 ^ i) gk (i + n) c := by
  refine ⟨I.lt, ?_, I.c, I.row, I.but⟩
  obtain ⟨m, rfl⟩ : ∃ m, N = (i + n) + m := ⟨N - (i + n), by omega⟩
  have h := I.sum
  rw [val_add gk, val_add g0, val_congr (f := fun j => gk (i + n + j)) (g := fun j => g0 (i + n + j)) m (fun j _ => I.old _ (by omega))]
  omega

theorem CJ.put {W wr : World} {D N T : Nat} {gk : Nat → Nat} {j c s c' : Nat} (I : CJ W wr D N T gk j c) (hj : j < N) (hs : s < 18446744073709551616) (hc : c' < 18446744073709551616)
    (e : gk j + c = s + 18446744073709551616 * c') : CJ W (wr.setCell ⟨D, j, none⟩ (.int .u64 s)) D N T (fun i => if i = j then s else gk i) (j + 1) c' := by
  refine ⟨fun k => ?_, ?_, hc, I.row.set _ _, I.but.set _ _⟩
  · split
    · exact hs
    · exact I.lt k
  · have h1 := val_put gk j s N hj
    have h2 := I.sum
    have e2 : (gk j + c) * 18446744073709551616 ^ j = (s + 18446744073709551616 * c') * 18446744073709551616 ^ j := by rw [e]
    rw [Nat.pow_succ]
    generalize 18446744073709551616 ^ j = P at *
    generalize val gk N = a at *
    generalize val (fun i => if i = j then s else gk i) N = b at *
    generalize gk j = d at *
    grind

/-- Carrying ends. -/
theorem CJ.done {W wr : World} {D N T : Nat} {gk : Nat → Nat} {j c : Nat} (I : CJ W wr D N T gk j c) (hT : T < 18446744073709551616 ^ N) (h : c = 0 ∨ N ≤ j) : val gk N = T := by
  have h1 := I.sum
  rcases h with rfl | h
  · rw [Nat.mul_zero, Nat.add_zero] at h1
    exact h1
  · have h2 : 18446744073709551616 ^ N ≤ 18446744073709551616 ^ j := Nat.pow_le_pow_right (by decide) h
    rcases Nat.eq_zero_or_pos c with rfl | hc
    · rw [Nat.mul_zero, Nat.add_zero] at h1
      exact h1
    · have h3 := Nat.mul_le_mul_left (18446744073709551616 ^ j) hc
      omega

/-- Where the reduction has come to. -/
structure OI (W wr : World) (D N A M : Nat) (g : Nat → Nat) (i : Nat) : Prop where
  lt : ∀ j, g j < 18446744073709551616
  z : val g N % 18446744073709551616 ^ i = 0
  q : ∃ q, q < 18446744073709551616 ^ i ∧ val g N = A + q * M
  row : RW wr D N g
  but : But D W wr

theorem OI.start {W wr : World} {D N A M i t : Nat} {y g : Nat → Nat} (I : OI W wr D N A M g i) : RJ W wr D N i t y g g 0 0 :=
  ⟨I.lt, fun _ _ => rfl, by simp [val], by decide, I.row, I.but⟩

theorem limb_mid {g : Nat → Nat} {N i : Nat} (hg : ∀ j, g j < 18446744073709551616) (hi : i < N) : val g N / 18446744073709551616 ^ i % 18446744073709551616 = g i := by
  have := limb_val N (fun j _ => hg j) hi
  unfold limb at this
  exact this

theorem OI.next {W wr wr' : World} {D n N A M fo t j c : Nat} {g gk : Nat → Nat} {i : Nat} (I : OI W wr D N A M g i) (hN : N = n + n + 1) (hi : i < n) (hM : M < 18446744073709551616 ^ n) (hA : A < M * 18446744073709551616 ^ n)
    (hf : (M % 18446744073709551616 * fo + 1) % 18446744073709551616 = 0) (ht : t = g i * fo % 18446744073709551616) (J : CJ W wr' D N (val g N + t * M * 18446744073709551616 ^ i) gk j c) (hd : c = 0 ∨ N ≤ j) : OI W wr' D N A M gk (i + 1) := by
  obtain ⟨q, hq, hV⟩ := I.q
  have h1 := red_round (t := t) hf I.z hV hq (by rw [limb_mid I.lt (by omega)]; exact ht)
  have hT : val g N + t * M * 18446744073709551616 ^ i < 18446744073709551616 ^ N := by
    rw [h1.2.1]
    have hq2 : q + t * 18446744073709551616 ^ i < 18446744073709551616 ^ n := Nat.lt_of_lt_of_le h1.2.2 (Nat.pow_le_pow_right (by decide) hi)
    rw [hN, Nat.pow_succ, Nat.pow_add]
    generalize q + t * 18446744073709551616 ^ i = qq at *
    generalize 18446744073709551616 ^ n = P at *
    have a1 : qq * M ≤ P * M := Nat.mul_le_mul_right _ (by omega)
    have a2 : M * P ≤ P * P := Nat.mul_le_mul_right _ (by omega)
    have a3 : P * M ≤ P * P := Nat.mul_le_mul_left _ (by omega)
    omega
  have hv := J.done hT hd
  exact ⟨J.lt, by rw [hv]; exact h1.1, ⟨_, h1.2.2, by rw [hv]; exact h1.2.1⟩, J.row, J.but⟩

/-- What it comes to. -/
theorem OI.fin {W wr : World} {D n N A M : Nat} {g : Nat → Nat} (I : OI W wr D N A M g n) (hN : N = n + n + 1) (h0 : 0 < M) (hA : A < M * 18446744073709551616 ^ n) :
    ∃ S, S < 2 * M ∧ S * 18446744073709551616 ^ n % M = A % M ∧ S = val (fun j => g (n + j)) n + g (n + n) * 18446744073709551616 ^ n := by
  obtain ⟨q, hq, hV⟩ := I.q
  have hz := I.z
  have e : val g N = val g n + (val (fun j => g (n + j)) n + g (n + n) * 18446744073709551616 ^ n) * 18446744073709551616 ^ n := by
    rw [hN]
    show val g (n + n) + g (n + n) * 18446744073709551616 ^ (n + n) = _
    rw [val_add g n n, Nat.pow_add]
    grind
  have hl := val_lt n (fun j _ => I.lt j)
  have hg0 : val g n = 0 := by
    rw [e, Nat.add_mul_mod_self_right, Nat.mod_eq_of_lt hl] at hz
    exact hz
  rw [hg0, Nat.zero_add] at e
  refine ⟨val (fun j => g (n + j)) n + g (n + n) * 18446744073709551616 ^ n, ?_, ?_, rfl⟩
  · generalize val (fun j => g (n + j)) n + g (n + n) * 18446744073709551616 ^ n = S at *
    generalize 18446744073709551616 ^ n = P at *
    apply Nat.lt_of_mul_lt_mul_right (a := P)
    rw [← e, hV, Nat.mul_assoc]
    have a1 : q * M < M * P := by rw [Nat.mul_comm M]; exact Nat.mul_lt_mul_of_pos_right hq h0
    omega
  · rw [← e, hV, Nat.add_mul_mod_self_right]

theorem add_carry (g c : Nat) (hg : g < 18446744073709551616) (hc : c < 18446744073709551616) : ∃ s c' : Nat, s < 18446744073709551616 ∧ c' < 18446744073709551616 ∧ g + c = s + 18446744073709551616 * c' ∧ IntKind.u64.wrap ((g : Int) + (c : Int)) = (s : Int) ∧ (((s : Int) < (c : Int) ∧ c' = 1) ∨ (¬ (s : Int) < (c : Int) ∧ c' = 0)) := by
  simp only [IntKind.wrap_u64]
  by_cases h : g + c < 18446744073709551616
  · exact ⟨g + c, 0, by omega, by omega, by omega, by omega, by omega⟩
  · exact ⟨g + c - 18446744073709551616, 1, by omega, by omega, by omega, by omega, by omega⟩

end Go.Proofs.Ytiekipkmfopdoaa
