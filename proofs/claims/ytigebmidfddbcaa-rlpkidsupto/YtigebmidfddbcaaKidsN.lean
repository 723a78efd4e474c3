/-
  The payload of a list is the forms of its items: numbers.
-/
import Derived.Test.YtigebmidfddbcaaForm
import Derived.Test.YtigebmidfddbcaaEach
namespace Go.Proofs.Ytigebmidfddbcaa
open Go.RowKit Go.Shelf

mutual
/-- What may be within more lists may be within fewer. -/
theorem Tree.meas_up : ∀ (t : Tree) (w : Nat), (t.meas (w + 1)).2 = 0 → t.meas w = t.meas (w + 1)
  | .node l b k, w, h => by
    rw [Tree.meas] at h ⊢
    rw [Tree.meas]
    have hc : chk l b.length k.length (w + 1) = 0 := by
      by_cases hc : chk l b.length k.length (w + 1) = 0
      · exact hc
      · rw [if_pos hc] at h
        exact h
    have hc' : chk l b.length k.length w = 0 := by
      unfold chk at hc ⊢
      repeat' split at hc
      all_goals first | (exfalso; omega) | (repeat' split) <;> first | rfl | (exfalso; omega) | (exfalso; simp_all; omega) | (simp_all; omega)
    rw [hc] at h
    rw [hc', hc]
    simp only [ne_eq, not_true_eq_false, if_false] at h ⊢
    by_cases h1 : b.length = 1 ∧ lb b 0 < 128
    · rw [if_pos h1, if_pos h1]
    · rw [if_neg h1] at h
      rw [if_neg h1, if_neg h1]
      by_cases h2 : (Tree.measK k (w + 1 + 1) b.length).2 = 0
      · rw [Tree.measK_up k (w + 1) b.length h2]
      · rw [if_pos (by simpa using h2)] at h
        exact absurd h h2
theorem Tree.measK_up : ∀ (k : List Tree) (w acc : Nat), (Tree.measK k (w + 1) acc).2 = 0 → Tree.measK k w acc = Tree.measK k (w + 1) acc
  | [], w, acc, _ => by rw [Tree.measK, Tree.measK]
  | t :: ts, w, acc, h => by
    rw [Tree.measK] at h ⊢
    rw [Tree.measK]
    by_cases h1 : (t.meas (w + 1)).2 = 0
    · rw [Tree.meas_up t w h1]
      rw [if_neg (by omega)] at h
      rw [if_neg (by omega), if_neg (by omega)]
      exact Tree.measK_up ts w _ h
    · rw [if_pos h1] at h
      exact absurd h h1
end

theorem measK_get : ∀ {k : List Tree} {w acc j : Nat} {t : Tree}, (Tree.measK k w acc).2 = 0 → k[j]? = some t → (t.meas w).2 = 0
  | [], _, _, _, _, _, h => by cases h
  | s :: ts, w, acc, 0, t, h, ht => by
    cases ht
    exact (measK_split h).1
  | s :: ts, w, acc, j + 1, t, h, ht => by
    obtain ⟨_, acc', h2⟩ := measK_split h
    exact measK_get h2 (by simpa using ht)

/-- The pieces of kids' forms. -/
def kidsP : List Tree → Nat → List (Nat × Nat × Nat × Nat)
  | [], _ => []
  | t :: ts, p => (t.hdF.1, p + t.hdF.2, p + t.enc.length, 0) :: kidsP ts (p + t.enc.length)

theorem good_kidsP : ∀ (k : List Tree) (p : Nat), good (kidsP k p) = k.length
  | [], _ => rfl
  | t :: ts, p => by
    rw [kidsP, good, if_pos rfl, good_kidsP ts, List.length_cons]

theorem pcs_encs : ∀ (k : List Tree) (w acc : Nat), (Tree.measK k w acc).2 = 0 → (Tree.encs k).length ≤ 1099511627776 → ∀ (bs : Nat → Nat) (m p fuel : Nat), At bs p (Tree.encs k) → m = p + (Tree.encs k).length → m + 1 ≤ fuel + p → pcs bs m fuel p = kidsP k p
  | [], w, acc, _, _, bs, m, p, fuel, _, hm, hf => by
    simp only [Tree.encs, List.length_nil, Nat.add_zero] at hm
    subst hm
    cases fuel with
    | zero => omega
    | succ f => rw [pcs, if_neg (by omega), kidsP]
  | t :: ts, w, acc, h, hs, bs, m, p, fuel, ha, hm, hf => by
    obtain ⟨h1, acc', h2⟩ := measK_split h
    rw [Tree.encs_cons] at ha hs hm
    rw [List.length_append] at hs hm
    have hp := enc_pos t h1
    cases fuel with
    | zero => omega
    | succ f =>
      have hhd := hd_form h1 (by omega) (bs := fun j => bs (p + j)) (n := m - p) (At.shift (by rw [Nat.add_zero]; exact ha.left)) (by omega)
      rw [pcs, if_pos (by omega), hhd, if_neg (by simp)]
      have hrest := pcs_encs ts w acc' h2 (by omega) bs m (p + t.enc.length) f ha.right (by omega) (by omega)
      dsimp only
      rw [hrest, kidsP]

/-- Where a kid's form begins. -/
def koff (k : List Tree) (i : Nat) : Nat := (Tree.encs (k.take i)).length

theorem koff_zero (k : List Tree) : koff k 0 = 0 := rfl

theorem koff_all (k : List Tree) : koff k k.length = (Tree.encs k).length := by rw [koff, List.take_length]

theorem koff_cons (t : Tree) (ts : List Tree) (i : Nat) : koff (t :: ts) (i + 1) = t.enc.length + koff ts i := by
  rw [koff, List.take_succ_cons, Tree.encs_cons, List.length_append]
  rfl

theorem koff_next : ∀ {k : List Tree} {i : Nat} {t : Tree}, k[i]? = some t → koff k (i + 1) = koff k i + t.enc.length ∧ koff k (i + 1) ≤ (Tree.encs k).length
  | [], _, _, h => by cases h
  | s :: ts, 0, t, h => by
    cases h
    rw [koff_cons, koff_zero, koff_zero, Tree.encs_cons, List.length_append]
    omega
  | s :: ts, i + 1, t, h => by
    obtain ⟨h1, h2⟩ := koff_next (k := ts) (i := i) (t := t) (by simpa using h)
    rw [koff_cons, koff_cons, Tree.encs_cons, List.length_append]
    omega

theorem kidsP_get : ∀ {k : List Tree} {i p : Nat} {t : Tree}, k[i]? = some t → (kidsP k p).getD i (0, 0, 0, 0) = (t.hdF.1, p + koff k i + t.hdF.2, p + koff k (i + 1), 0)
  | [], _, _, _, h => by cases h
  | s :: ts, 0, p, t, h => by
    cases h
    rw [kidsP, List.getD_cons_zero, koff_cons, koff_zero, koff_zero, Nat.add_zero, Nat.add_zero]
  | s :: ts, i + 1, p, t, h => by
    rw [kidsP, List.getD_cons_succ, kidsP_get (k := ts) (t := t) (by simpa using h), koff_cons, koff_cons]
    simp only [Nat.add_assoc]

/-- A kid's form where it stands. -/
theorem At.kid : ∀ {k : List Tree} {i o : Nat} {t : Tree} {bs : Nat → Nat}, At bs o (Tree.encs k) → k[i]? = some t → At bs (o + koff k i) t.enc
  | [], _, _, _, _, _, h => by cases h
  | s :: ts, 0, o, t, bs, ha, h => by
    cases h
    rw [Tree.encs_cons] at ha
    rw [koff_zero]
    exact ha.left
  | s :: ts, i + 1, o, t, bs, ha, h => by
    rw [Tree.encs_cons] at ha
    have := At.kid (k := ts) (i := i) ha.right (by simpa using h)
    rw [koff_cons]
    rwa [Nat.add_assoc] at this

end Go.Proofs.Ytigebmidfddbcaa
