/-
  The kids of the document's decode, in numbers.
-/
import Derived.Test.YtigebmidfddbcaaRDecN
namespace Go.Proofs.Ytigebmidfddbcaa
open Go.RowKit Go.Shelf

theorem drop_cons_at {α : Type} {L : List α} {k : Nat} {x : α} {ys : List α} (z : α) (h : L.drop k = x :: ys) : k < L.length ∧ L.getD k z = x ∧ L.drop (k + 1) = ys := by
  refine ⟨Nat.lt_of_not_le (fun hh => by rw [List.drop_eq_nil_of_le hh] at h; cases h), ?_, ?_⟩
  · have : (L.drop k)[0]? = some x := by rw [h]; rfl
    rw [List.getElem?_drop, Nat.add_zero] at this
    rw [List.getD_eq_getElem?_getD, this]
    rfl
  · have : (L.drop k).drop 1 = ys := by rw [h]; rfl
    rw [List.drop_drop] at this
    exact this

/-- One more kid. -/
theorem dec_kid {d : Nat} {bs : Nat → Nat} {m : Nat} {L : List (Nat × Nat × Nat × Nat)} {k p fuel : Nat} {pre : List Tree} (hto : RdTo (rd d bs) L k pre) (hrest : L.drop k = pcs bs m fuel p) (hp : p < m) (hfu : m + 1 ≤ fuel + p) :
    ((rdc d (fun j => bs (p + j)) (m - p)).2.2 ≠ 0 → rdK (rd d bs) L = ([], (rdc d (fun j => bs (p + j)) (m - p)).2.2)) ∧
    ((rdc d (fun j => bs (p + j)) (m - p)).2.2 = 0 → RdTo (rd d bs) L (k + 1) (pre ++ [(rdc d (fun j => bs (p + j)) (m - p)).1]) ∧ 1 ≤ (rdc d (fun j => bs (p + j)) (m - p)).2.1 ∧ p + (rdc d (fun j => bs (p + j)) (m - p)).2.1 ≤ m ∧
      ∃ fuel', m + 1 ≤ fuel' + (p + (rdc d (fun j => bs (p + j)) (m - p)).2.1) ∧ L.drop (k + 1) = pcs bs m fuel' (p + (rdc d (fun j => bs (p + j)) (m - p)).2.1)) := by
  cases fuel with
  | zero => omega
  | succ f =>
  rw [pcs, if_pos hp] at hrest
  unfold rdc
  have hok := hd_ok (bs := fun j => bs (p + j)) (n := m - p)
  rw [rd_shift]
  generalize hd (fun j => bs (p + j)) (m - p) = h at *
  obtain ⟨l, a, t, e⟩ := h
  dsimp only at hrest hok ⊢
  by_cases he : e = 0
  · subst he
    rw [if_neg (by simp)] at hrest
    rw [if_neg (by simp)]
    obtain ⟨h1, h2, h3⟩ := drop_cons_at (0, 0, 0, 0) hrest
    obtain ⟨o1, o2, o3, o4, o5⟩ := hok rfl
    by_cases hr : (rd d bs l (p + a) (p + t)).2 = 0
    · rw [if_neg (by simp [hr])]
      exact ⟨fun h => absurd rfl h, fun _ => ⟨hto.next h1 h2 rfl hr, o4, by dsimp only; omega, f, by dsimp only; omega, h3⟩⟩
    · rw [if_pos hr]
      exact ⟨fun _ => hto.worse h1 h2 rfl hr, fun h => absurd h hr⟩
  · rw [if_pos he] at hrest
    rw [if_pos he]
    obtain ⟨h1, h2, h3⟩ := drop_cons_at (0, 0, 0, 0) hrest
    exact ⟨fun _ => hto.bad h1 h2 he, fun h => absurd h he⟩

/-- No more kids. -/
theorem dec_end {d : Nat} {bs : Nat → Nat} {m : Nat} {L : List (Nat × Nat × Nat × Nat)} {k p fuel : Nat} {pre : List Tree} (hto : RdTo (rd d bs) L k pre) (hrest : L.drop k = pcs bs m fuel p) (hp : ¬ p < m) : rdK (rd d bs) L = (pre, 0) := by
  have h0 : L.drop k = [] := by
    rw [hrest]
    cases fuel with
    | zero => rfl
    | succ f => rw [pcs, if_neg hp]
  unfold RdTo at hto
  rw [h0, rdK] at hto
  simpa using hto

end Go.Proofs.Ytigebmidfddbcaa
