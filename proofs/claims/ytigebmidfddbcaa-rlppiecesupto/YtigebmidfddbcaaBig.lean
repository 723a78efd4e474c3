/-
  How great the items of nodes are; bytes in rows of their own.
-/
import Derived.Test.YtigebmidfddbcaaArgR
import Derived.Test.YtigebmidfddbcaaForm
namespace Go.Proofs.Ytigebmidfddbcaa
open Go.RowKit Go.Shelf

mutual
theorem itemT_wt : ∀ (f : Nat) (ns : List Nd) (deep : Nat), ns ≠ [] → (itemT f ns deep).1.wt + 3 * ndBulk (itemT f ns deep).2 ≤ 3 * ndBulk ns
  | 0, ns, _, h => by
    cases ns with
    | nil => exact absurd rfl h
    | cons x r =>
      rw [itemT]
      simp only [Tree.wt, Tree.wts, ndBulk, List.length_nil]
      omega
  | f + 1, [], _, h => absurd rfl h
  | f + 1, x :: r, deep, _ => by
    rw [itemT]
    have := kidsT_wt f x.2.2.toNat r deep
    simp only [Tree.wt, ndBulk]
    omega
theorem kidsT_wt : ∀ (f m : Nat) (ns : List Nd) (deep : Nat), Tree.wts (kidsT f m ns deep).1 + 3 * ndBulk (kidsT f m ns deep).2 ≤ 3 * ndBulk ns
  | 0, _, ns, _ => by
    rw [kidsT]
    simp only [Tree.wts]
    omega
  | f + 1, m, ns, deep => by
    rw [kidsT]
    split
    · rename_i hc
      have h1 := itemT_wt f ns (deep + 1) hc.2.1
      have h2 := kidsT_wt f (m - 1) (itemT f ns (deep + 1)).2 deep
      simp only [Tree.wts]
      omega
    · simp only [Tree.wts]
      omega
end

mutual
theorem Tree.num_le : ∀ (t : Tree), t.num ≤ t.wt
  | .node l b k => by
    have := Tree.nums_le k
    unfold Tree.num Tree.wt
    omega
theorem Tree.nums_le : ∀ (k : List Tree), Tree.nums k ≤ Tree.wts k
  | [] => by simp [Tree.nums]
  | t :: ts => by
    have := Tree.num_le t
    have := Tree.nums_le ts
    unfold Tree.nums Tree.wts
    omega
end

theorem treeOf_wt (ns : List Nd) : (treeOf ns).wt ≤ 3 * ndBulk ns + 9 := by
  unfold treeOf
  by_cases h : ns = []
  · subst h
    simp [itemT, Tree.wt, Tree.wts]
  · have := itemT_wt (2 * ns.length) ns 0 h
    omega

/-- A row of bytes, as cells. -/
def byR (n : Nat) (bs : Nat → Nat) : List Value := (List.range n).map fun j => Value.int .u8 (bs j)

theorem byR_len (n : Nat) (bs : Nat → Nat) : (byR n bs).length = n := by simp [byR]

theorem byR_get {n j : Nat} {bs : Nat → Nat} (h : j < n) : (byR n bs)[j]? = some (.int .u8 (bs j)) := by simp [byR, h]

theorem byR_one {n : Nat} {bs : Nat → Nat} : ∀ u ∈ byR n bs, u.oneCell' = true := by
  intro u hu
  unfold byR at hu
  simp only [List.mem_map] at hu
  obtain ⟨x, _, rfl⟩ := hu
  rfl

theorem byR_cells {w : World} {a : Addr} {n c : Nat} {bs : Nat → Nat} (h : BS w (some a) n c bs) : ∀ j u, (byR n bs)[j]? = some u → w.cell? (a.add j) = some u := by
  intro j u hu
  have hj := (List.getElem?_eq_some_iff.1 hu).1
  rw [byR_len] at hj
  rw [byR_get hj] at hu
  cases hu
  obtain ⟨ad, e, hc⟩ := h.cell j hj
  cases e
  exact hc

theorem row_BS {w : World} {N : Nat} {v : Value} {n : Nat} {bs : Nat → Nat} (hl : ∀ j, bs j < 256) (h : w.ownsRow N 5 1 v n (byR n bs)) : ∃ ao c, v = .slice ao n c ∧ BS w ao n c bs := by
  rcases h.2 with ⟨rfl, rfl⟩ | ⟨g, cap, cur, rfl, hb, hg, hle, hroom, hcs, htake⟩
  · exact ⟨none, 0, rfl, BS.empty _ _ _ hl⟩
  · refine ⟨_, cap, rfl, hl, hle, hroom, fun j hj => ⟨_, rfl, ?_⟩, fun h => by cases h⟩
    rw [show (⟨g, 0, none⟩ : Addr).add j = ⟨g, j, none⟩ by unfold Addr.add; split <;> simp_all]
    refine blk_cell hg ?_
    rw [← Array.getElem?_toList, ← byR_get (bs := bs) hj, ← htake, List.getElem?_take_of_lt (by omega)]

set_option maxHeartbeats 1000000 in
set_option maxRecDepth 100000 in
/-- law's bytes, in a row of its own. -/
theorem lawBytes_row {ao : Option Addr} {n c : Nat} {bs : Nat → Nat} (hn : n ≤ 140737488355328) (w : World) (h : BS w ao n c bs) :
    Calls Try.prog 21 #[.slice ao n c] w fun e w' => (∃ v, e = .returned v ∧ w'.ownsRow w.heap.size 5 1 v n (byR n bs)) ∧ Below w.heap.size w w' := by
  obtain ⟨i0, hi, hz0, hz1, hz2⟩ := info_parts Try.bytes5
  have hT : Try.prog.underlying 23 = some (.slice 5) := by kernel_rfl
  have hb1 : Below w.heap.size w (w.alloc (.cells #[] 5 (0, 0))) := (Below.refl _ w).alloc (Nat.le_refl _) _
  have hB := h.moved hb1
  have hrow : (w.alloc (.cells #[] 5 (0, 0))).ownsRow w.heap.size 5 1 (.slice (some ⟨w.heap.size, 0, none⟩) 0 0) 0 [] := ⟨rfl, Or.inr ⟨w.heap.size, 0, #[], rfl, Nat.le_refl _, heap_new _ _, Nat.le_refl _, Nat.zero_le _, rfl, rfl⟩⟩
  have hrun : ∃ v' w', (Builtin.append_ #[23, 23] 23 #[.slice (some ⟨w.heap.size, 0, none⟩) 0 0, .slice ao n c]).run Try.prog (w.alloc (.cells #[] 5 (0, 0))) = .ok v' w' ∧ w'.ownsRow w.heap.size 5 1 v' n (byR n bs) ∧ Below w.heap.size w w' := by
    by_cases h0 : n = 0
    · subst h0
      refine ⟨.slice (some ⟨w.heap.size, 0, none⟩) 0 0, _, ?_, by simpa [byR] using hrow, hb1⟩
      cases ao with
      | none => exact run_append_nothing (P := Try.prog) _ 23 23 23 5 i0 hT hi _ 0 0 (Nat.le_refl _) _ (Src.ofNil _ hT c)
      | some a => exact run_append_nothing (P := Try.prog) _ 23 23 23 5 i0 hT hi _ 0 0 (Nat.le_refl _) _ (Src.ofSlice _ hT a 0 c [] (by simp) (fun j u h => by simp at h) (fun u h => by cases h))
    · obtain ⟨ad, rfl, _⟩ := hB.cell 0 (by omega)
      obtain ⟨v', w', hr, hO, hg, _⟩ := run_append_own_wide (P := Try.prog) (w.alloc (.cells #[] 5 (0, 0))) w.heap.size 23 23 5 i0 (.int .u8 0) 1 1 hT hi hz0 hz1 hz2 rfl (by omega) _ 0 [] hrow ad n c (byR n bs) (by rw [byR_len, Nat.mul_one]) (byR_cells hB) byR_one (by unfold maxLen; omega) (by omega) (by simp)
      rw [Nat.zero_add, List.nil_append] at hO
      exact ⟨v', w', hr, hO, hb1.grown hg (by simp) (fun k hk => by cases hk; exact Nat.le_refl _)⟩
  obtain ⟨v', w', hr, hO, hb⟩ := hrun
  have HR := hideP hr
  have HO := hideP hO
  have HB := hideP hb
  clear hr hO hb hrow hB h hn hb1 hi hz0 hz1 hz2 hT
  go_enter Try.func21, Try.ntmps21
  go_wp2_with (at_builtin; refine wpList_append_run rfl _ _ 23 rfl rfl rfl rfl HR.out ?_)
  go_ret
  exact ⟨⟨_, rfl, HO.out⟩, HB.out⟩

end Go.Proofs.Ytigebmidfddbcaa
