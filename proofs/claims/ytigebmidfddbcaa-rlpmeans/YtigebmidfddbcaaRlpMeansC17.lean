/-
  What bytes are read as: trees.
-/
import Derived.Test.YtigebmidfddbcaaRlpMeansC16
namespace Go.Proofs.Ytigebmidfddbcaa
open Go.RowKit Go.Shelf

/-- Pieces are read one behind the other, up to the first that can't be. -/
def rdK (R : Nat → Nat → Nat → Tree × Nat) : List (Nat × Nat × Nat × Nat) → List Tree × Nat
  | [] => ([], 0)
  | x :: L => if x.2.2.2 ≠ 0 then ([], x.2.2.2) else if (R x.1 x.2.1 x.2.2.1).2 ≠ 0 then ([], (R x.1 x.2.1 x.2.2.1).2) else if (rdK R L).2 ≠ 0 then ([], (rdK R L).2) else ((R x.1 x.2.1 x.2.2.1).1 :: (rdK R L).1, 0)

/-- What a piece of bytes is read as, where so many more lists may be within one another: an item, why not. -/
def rd : Nat → (Nat → Nat) → Nat → Nat → Nat → Tree × Nat
  | 0, bs, l, f, t => if l = 0 then (.node 0 (pay (fun j => bs (f + j)) (t - f)) [], 0) else (.node 0 [] [], 44)
  | d + 1, bs, l, f, t => if l = 0 then (.node 0 (pay (fun j => bs (f + j)) (t - f)) [], 0) else
      if (rdK (rd d (fun j => bs (f + j))) (pcs (fun j => bs (f + j)) (t - f) (t - f + 1) 0)).2 ≠ 0 then (.node 0 [] [], (rdK (rd d (fun j => bs (f + j))) (pcs (fun j => bs (f + j)) (t - f) (t - f + 1) 0)).2)
      else (.node 1 [] (rdK (rd d (fun j => bs (f + j))) (pcs (fun j => bs (f + j)) (t - f) (t - f + 1) 0)).1, 0)

theorem rd_text (d : Nat) (bs : Nat → Nat) (f t : Nat) : rd d bs 0 f t = (.node 0 (pay (fun j => bs (f + j)) (t - f)) [], 0) := by
  cases d <;> simp [rd]

theorem rd_deep (bs : Nat → Nat) (f t : Nat) : rd 0 bs 1 f t = (.node 0 [] [], 44) := by
  simp [rd]

theorem rd_list (d : Nat) (bs : Nat → Nat) (f t : Nat) : rd (d + 1) bs 1 f t =
    if (rdK (rd d (fun j => bs (f + j))) (pcs (fun j => bs (f + j)) (t - f) (t - f + 1) 0)).2 ≠ 0 then (.node 0 [] [], (rdK (rd d (fun j => bs (f + j))) (pcs (fun j => bs (f + j)) (t - f) (t - f + 1) 0)).2)
      else (.node 1 [] (rdK (rd d (fun j => bs (f + j))) (pcs (fun j => bs (f + j)) (t - f) (t - f + 1) 0)).1, 0) := by
  rw [rd, if_neg (by decide)]

set_option maxRecDepth 100000 in
theorem hd_list {bs : Nat → Nat} {n : Nat} (h : (hd bs n).2.2.2 = 0) (h1 : (hd bs n).1 = 1) : 1 ≤ (hd bs n).2.1 ∧ (hd bs n).2.2.1 - (hd bs n).2.1 ≤ 1099511627776 := by
  unfold hd at h h1 ⊢
  by_cases h0 : n = 0
  · rw [if_pos h0] at h; cases h
  · rw [if_neg h0] at h h1 ⊢
    by_cases h2 : bs 0 < 128
    · rw [if_pos h2] at h1; cases h1
    · rw [if_neg h2] at h h1 ⊢
      by_cases h3 : bs 0 < 192
      · rw [if_pos h3] at h1
        repeat' split at h1
        all_goals cases h1
      · rw [if_neg h3] at h h1 ⊢
        by_cases h4 : (rl bs n 192).2.2 = 0
        · obtain ⟨r1, r2, r3⟩ := rl_ok (by omega) h4
          rw [if_neg (by simp [h4])] at h h1 ⊢
          by_cases h5 : n - (rl bs n 192).1 < (rl bs n 192).2.1
          · rw [if_pos h5] at h; cases h
          · rw [if_neg h5]; dsimp only; omega
        · rw [if_pos h4] at h; exact absurd h h4

/-- What a piece of bytes is like. -/
def PcOk (n : Nat) (x : Nat × Nat × Nat × Nat) : Prop := x.1 ≤ 1 ∧ x.2.1 ≤ x.2.2.1 ∧ x.2.2.1 ≤ n ∧ (x.1 = 1 → 1 ≤ x.2.1 ∧ x.2.2.1 - x.2.1 ≤ 1099511627776)

theorem pcs_ok (bs : Nat → Nat) (n : Nat) : ∀ (f p : Nat), ∀ x ∈ pcs bs n f p, x.2.2.2 = 0 → PcOk n x
  | 0, _, _, h, _ => by cases h
  | f + 1, p, x, h, h0 => by
    rw [pcs] at h
    by_cases hp : p < n
    · rw [if_pos hp] at h
      have hok := hd_ok (bs := fun j => bs (p + j)) (n := n - p)
      have hli := hd_list (bs := fun j => bs (p + j)) (n := n - p)
      generalize hd (fun j => bs (p + j)) (n - p) = q at *
      obtain ⟨l, fr, to, e⟩ := q
      dsimp only at h hok hli
      by_cases he : e = 0
      · subst he
        rw [if_neg (by simp)] at h
        rcases List.mem_cons.1 h with rfl | h
        · obtain ⟨a, b, c, d, g⟩ := hok rfl
          exact ⟨b, by dsimp only; omega, by dsimp only; omega, fun h1 => by have := hli rfl h1; dsimp only; omega⟩
        · exact pcs_ok bs n f _ x h h0
      · rw [if_pos he] at h
        simp only [List.mem_cons, List.not_mem_nil, or_false] at h
        subst h
        exact absurd h0 he
    · rw [if_neg hp] at h; cases h

theorem pcs_len (bs : Nat → Nat) (n : Nat) : ∀ (f p : Nat), (pcs bs n f p).length ≤ n - p
  | 0, _ => by simp [pcs]
  | f + 1, p => by
    rw [pcs]
    by_cases hp : p < n
    · rw [if_pos hp]
      have hok := hd_ok (bs := fun j => bs (p + j)) (n := n - p)
      generalize hd (fun j => bs (p + j)) (n - p) = q at *
      obtain ⟨l, fr, to, e⟩ := q
      dsimp only at hok ⊢
      by_cases he : e = 0
      · subst he
        obtain ⟨a, b, c, d, g⟩ := hok rfl
        rw [if_neg (by simp), List.length_cons]
        have := pcs_len bs n f (p + to)
        omega
      · rw [if_pos he, List.length_cons, List.length_nil]
        omega
    · rw [if_neg hp]; simp

/-- How far the pieces are read. -/
def RdTo (R : Nat → Nat → Nat → Tree × Nat) (L : List (Nat × Nat × Nat × Nat)) (k : Nat) (pre : List Tree) : Prop :=
  rdK R L = if (rdK R (L.drop k)).2 ≠ 0 then ([], (rdK R (L.drop k)).2) else (pre ++ (rdK R (L.drop k)).1, 0)

theorem rdK_fst {R : Nat → Nat → Nat → Tree × Nat} : ∀ {L : List (Nat × Nat × Nat × Nat)}, (rdK R L).2 ≠ 0 → (rdK R L).1 = []
  | [], h => absurd rfl h
  | x :: L, h => by
    rw [rdK] at h ⊢
    repeat' split
    all_goals first | rfl | skip
    rename_i h1 h2 h3
    rw [if_neg h1, if_neg h2, if_neg h3] at h
    exact absurd rfl h

theorem RdTo.zero (R : Nat → Nat → Nat → Tree × Nat) (L : List (Nat × Nat × Nat × Nat)) : RdTo R L 0 [] := by
  unfold RdTo
  rw [List.drop_zero, List.nil_append]
  split
  · rename_i h
    rw [← rdK_fst h]
  · rename_i h
    simp only [ne_eq, Decidable.not_not] at h
    rw [← h]

theorem getD_drop {L : List (Nat × Nat × Nat × Nat)} {k : Nat} (hk : k < L.length) (d : Nat × Nat × Nat × Nat) : L.drop k = L.getD k d :: L.drop (k + 1) := by
  rw [List.drop_eq_getElem_cons hk, List.getD_eq_getElem?_getD, List.getElem?_eq_getElem hk]
  rfl

theorem rdK_bad {R : Nat → Nat → Nat → Tree × Nat} {x : Nat × Nat × Nat × Nat} {L : List (Nat × Nat × Nat × Nat)} (he : x.2.2.2 ≠ 0) : rdK R (x :: L) = ([], x.2.2.2) := by
  rw [rdK, if_pos he]

theorem rdK_worse {R : Nat → Nat → Nat → Tree × Nat} {x : Nat × Nat × Nat × Nat} {L : List (Nat × Nat × Nat × Nat)} (he : x.2.2.2 = 0) (hr : (R x.1 x.2.1 x.2.2.1).2 ≠ 0) : rdK R (x :: L) = ([], (R x.1 x.2.1 x.2.2.1).2) := by
  rw [rdK, if_neg (fun h => h he), if_pos hr]

theorem rdK_next {R : Nat → Nat → Nat → Tree × Nat} {x : Nat × Nat × Nat × Nat} {L : List (Nat × Nat × Nat × Nat)} (he : x.2.2.2 = 0) (hr : (R x.1 x.2.1 x.2.2.1).2 = 0) : rdK R (x :: L) = if (rdK R L).2 ≠ 0 then ([], (rdK R L).2) else ((R x.1 x.2.1 x.2.2.1).1 :: (rdK R L).1, 0) := by
  rw [rdK, if_neg (fun h => h he), if_neg (fun h => h hr)]

theorem RdTo.bad {R : Nat → Nat → Nat → Tree × Nat} {L : List (Nat × Nat × Nat × Nat)} {k : Nat} {pre : List Tree} (h : RdTo R L k pre) (hk : k < L.length) {x : Nat × Nat × Nat × Nat} (hx : L.getD k (0, 0, 0, 0) = x) (he : x.2.2.2 ≠ 0) : rdK R L = ([], x.2.2.2) := by
  unfold RdTo at h
  rw [getD_drop hk (0, 0, 0, 0), hx, rdK_bad he, if_pos he] at h
  exact h

theorem RdTo.worse {R : Nat → Nat → Nat → Tree × Nat} {L : List (Nat × Nat × Nat × Nat)} {k : Nat} {pre : List Tree} (h : RdTo R L k pre) (hk : k < L.length) {x : Nat × Nat × Nat × Nat} (hx : L.getD k (0, 0, 0, 0) = x) (he : x.2.2.2 = 0) (hr : (R x.1 x.2.1 x.2.2.1).2 ≠ 0) : rdK R L = ([], (R x.1 x.2.1 x.2.2.1).2) := by
  unfold RdTo at h
  rw [getD_drop hk (0, 0, 0, 0), hx, rdK_worse he hr, if_pos hr] at h
  exact h

theorem RdTo.next {R : Nat → Nat → Nat → Tree × Nat} {L : List (Nat × Nat × Nat × Nat)} {k : Nat} {pre : List Tree} (h : RdTo R L k pre) (hk : k < L.length) {x : Nat × Nat × Nat × Nat} (hx : L.getD k (0, 0, 0, 0) = x) (he : x.2.2.2 = 0) (hr : (R x.1 x.2.1 x.2.2.1).2 = 0) : RdTo R L (k + 1) (pre ++ [(R x.1 x.2.1 x.2.2.1).1]) := by
  unfold RdTo at h ⊢
  rw [getD_drop hk (0, 0, 0, 0), hx, rdK_next he hr] at h
  rw [h]
  by_cases h2 : (rdK R (L.drop (k + 1))).2 = 0
  · simp [h2]
  · simp [h2]

theorem RdTo.all {R : Nat → Nat → Nat → Tree × Nat} {L : List (Nat × Nat × Nat × Nat)} {pre : List Tree} (h : RdTo R L L.length pre) : rdK R L = (pre, 0) := by
  unfold RdTo at h
  rw [List.drop_length, rdK] at h
  simpa using h

/-- A part of a slice, and where it lies. -/
theorem BS.part_at {w : World} {ao : Option Addr} {n cap : Nat} {bs : Nat → Nat} (h : BS w ao n cap bs) {l k : Nat} (hl : l ≤ k) (hk : k ≤ n) (h0 : 0 < n) :
    ∃ ao', BS w ao' (k - l) (cap - l) (fun j => bs (l + j)) ∧ (∀ ad, ao' = some ad → ad.block < w.heap.size) ∧ ∀ W : World, (Instr.sliceAt 23 (.slice ao n cap) (some (.int .i64 (l : Int))) (some (.int .i64 (k : Int))) none).run Try.prog W = .ok (.slice ao' (k - l) (cap - l)) W := by
  have hle := h.le
  obtain ⟨ad0, e0, hc0⟩ := h.cell 0 h0
  have hlt := World.block_lt_of_cell? w _ hc0
  rw [add_block] at hlt
  refine ⟨_, h.shift hl hk, fun ad e => ?_, fun W => ?_⟩
  · subst e0
    split at e
    · cases e; exact hlt
    · cases e; rw [add_block]; exact hlt
  · rw [run_sliceAt_slice (P := Try.prog) (w := W) 23 _ _ _ _ sliceT, run_slice_lh (P := Try.prog) (w := W) 23 ao n cap sliceT .i64 .i64 (l : Int) (k : Int) (by omega) (by omega) (by omega), elemB]
    simp [Result.andThen, sliced]

end Go.Proofs.Ytigebmidfddbcaa
