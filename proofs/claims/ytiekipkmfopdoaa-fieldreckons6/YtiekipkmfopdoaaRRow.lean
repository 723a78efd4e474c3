/-
  Rows of words that can be written: a list and a nought behind it; parts of rows.
-/
import Derived.Test.YtiekipkmfopdoaaRMul
import Derived.Deep.DeepAppendWide
namespace Go.Proofs.Ytiekipkmfopdoaa
open Go.RowKit Go.Shelf

/-- A row that begins with so many words. -/
structure RW (w : World) (g N : Nat) (f : Nat → Nat) : Prop where
  ex : ∃ cur : Array Value, w.heap[g]? = some (.cells cur 23 (0, 0)) ∧ N ≤ cur.size ∧ ∀ j, j < N → cur[j]? = some (.int .u64 (f j))

theorem RW.lt {w : World} {g N : Nat} {f : Nat → Nat} (h : RW w g N f) : g < w.heap.size := by
  obtain ⟨cur, h1, _⟩ := h.ex
  exact lt_of_block h1

theorem RW.cell {w : World} {g N : Nat} {f : Nat → Nat} (h : RW w g N f) {j : Nat} (hj : j < N) : w.cell? ⟨g, j, none⟩ = some (.int .u64 (f j)) := by
  obtain ⟨cur, h1, _, h3⟩ := h.ex
  exact blk_cell h1 (h3 j hj)

theorem RW.free {w : World} {g N : Nat} {f : Nat → Nat} (h : RW w g N f) (o : Nat) : w.frozen? ⟨g, o, none⟩ = false := by
  obtain ⟨cur, h1, _⟩ := h.ex
  exact blk_free h1

theorem RW.set {w : World} {g N : Nat} {f : Nat → Nat} (h : RW w g N f) (k s : Nat) : RW (w.setCell ⟨g, k, none⟩ (.int .u64 s)) g N (fun j => if j = k then s else f j) := by
  obtain ⟨cur, h1, h2, h3⟩ := h.ex
  refine ⟨_, blk_set (o := k) h1 _, by rw [Array.size_setIfInBounds]; exact h2, fun j hj => ?_⟩
  rw [Array.getElem?_setIfInBounds]
  by_cases e : k = j
  · subst e
    rw [if_pos rfl, if_pos rfl, if_pos (by omega)]
  · rw [if_neg e, if_neg (fun h => e h.symm)]
    exact h3 j hj

theorem RW.heap {w w' : World} {g N : Nat} {f : Nat → Nat} (h : RW w g N f) (e : w'.heap[g]? = w.heap[g]?) : RW w' g N f := by
  obtain ⟨cur, h1, h2⟩ := h.ex
  exact ⟨cur, e.trans h1, h2⟩

theorem RW.congr {w : World} {g N : Nat} {f f' : Nat → Nat} (h : RW w g N f) (e : ∀ j, j < N → f j = f' j) : RW w g N f' := by
  obtain ⟨cur, h1, h2, h3⟩ := h.ex
  exact ⟨cur, h1, h2, fun j hj => by rw [← e j hj]; exact h3 j hj⟩

/-- So many words, as a list of values. -/
def wl (N : Nat) (f : Nat → Nat) : List Value := (List.range N).map fun j => Value.int .u64 (f j)

theorem wl_len (N : Nat) (f : Nat → Nat) : (wl N f).length = N := by simp [wl]
theorem wl_get {N j : Nat} {f : Nat → Nat} (h : j < N) : (wl N f)[j]? = some (.int .u64 (f j)) := by simp [wl, h]
theorem wl_one {N : Nat} {f : Nat → Nat} : ∀ u ∈ wl N f, u.oneCell' = true := by
  intro u hu
  unfold wl at hu
  simp only [List.mem_map] at hu
  obtain ⟨x, _, rfl⟩ := hu
  rfl

theorem own_none (w : World) (N : Nat) : w.ownsRow N 23 1 (.slice none 0 0) 0 [] := ⟨rfl, Or.inl ⟨rfl, rfl⟩⟩

/-- A list of words in a row of its own. -/
theorem append_list {w : World} {u : Value} {N : Nat} {f : Nat → Nat} (hN : 0 < N) (hN2 : N ≤ 64) (h : LW w u N f) :
    ∃ g cap w', (Builtin.append_ #[27, 27] 27 #[.slice none 0 0, u]).run Try.prog w = .ok (.slice (some ⟨g, 0, none⟩) N cap) w' ∧ w'.ownsRow w.heap.size 23 1 (.slice (some ⟨g, 0, none⟩) N cap) N (wl N f) ∧ Below w.heap.size w w' := by
  obtain ⟨i0, hi, hz0, hz1, hz2⟩ := info_parts Try.infoW
  obtain ⟨b, o, c, rfl, _, _, hb, hc⟩ := h.ex
  obtain ⟨v', w', hr, hO, hgr, hnn⟩ := run_append_own_wide (P := Try.prog) w w.heap.size 27 27 23 i0 (.int .u64 0) 1 8 Try.undL hi hz0 hz1 hz2 rfl (by omega) _ 0 _ (own_none w w.heap.size) ⟨b, o, none⟩ N c (wl N f) (by rw [wl_len, Nat.mul_one]) (fun j v hv => by
    have hj := (List.getElem?_eq_some_iff.1 hv).1
    rw [wl_len] at hj
    rw [wl_get hj] at hv
    rw [Addr.add_mid, hc j hj]
    exact hv) wl_one (by unfold maxLen; omega) (by omega) (Nat.le_refl _)
  rw [Nat.zero_add, List.nil_append] at hO
  have hB : Below w.heap.size w w' := (Below.refl _ w).grown hgr (Nat.le_refl _) (fun x hx => by cases hx)
  have hO2 := hO
  rcases hO with ⟨_, ⟨rfl, h0⟩ | ⟨g, cap, cur, rfl, _⟩⟩
  · omega
  · exact ⟨g, cap, w', hr, hO2, hB⟩

/-- And a nought behind it. -/
theorem append_nought {w0 w : World} {g cap N : Nat} {f : Nat → Nat} (hN2 : N ≤ 63) (h : w.ownsRow w0.heap.size 23 1 (.slice (some ⟨g, 0, none⟩) N cap) N (wl N f)) (hw : w0.heap.size ≤ w.heap.size) :
    ∃ g' cap' w', (Builtin.append_ #[27, 27] 27 #[.slice (some ⟨g, 0, none⟩) N cap, .slice (some ⟨w.heap.size, 0, none⟩) 1 1]).run Try.prog (w.alloc (.cells #[.int .u64 0] 23)) = .ok (.slice (some ⟨g', 0, none⟩) (N + 1) cap') w' ∧
      RW w' g' (N + 1) (fun j => if j < N then f j else 0) ∧ w0.heap.size ≤ g' ∧ N + 1 ≤ cap' ∧ cap' ≤ maxLen ∧ Below w0.heap.size w w' := by
  obtain ⟨i0, hi, hz0, hz1, hz2⟩ := info_parts Try.infoW
  have hB0 : Below w0.heap.size w (w.alloc (.cells #[.int .u64 0] 23)) := (Below.refl _ w).alloc hw _
  have hown : (w.alloc (.cells #[.int .u64 0] 23)).ownsRow w0.heap.size 23 1 (.slice (some ⟨g, 0, none⟩) N cap) N (wl N f) := by
    refine ⟨h.1, ?_⟩
    rcases h.2 with ⟨e, _⟩ | ⟨g2, cap2, cur, e, h1, h2, h3⟩
    · cases e
    · exact Or.inr ⟨g2, cap2, cur, e, h1, (heap_old _ _ (lt_of_block h2)).trans h2, h3⟩
  obtain ⟨v', w', hr, hO, hgr, _⟩ := run_append_own_wide (P := Try.prog) (w.alloc (.cells #[.int .u64 0] 23)) w0.heap.size 27 27 23 i0 (.int .u64 0) 1 8 Try.undL hi hz0 hz1 hz2 rfl (by omega) _ N _ hown ⟨w.heap.size, 0, none⟩ 1 1 [.int .u64 0] rfl (fun j v hv => by
    cases j with
    | zero =>
      cases hv
      rw [Addr.add_mid]
      exact blk_cell (heap_new w _) rfl
    | succ j => simp at hv) (by simp [Value.oneCell']) (by unfold maxLen; omega) (by omega) (by simp; omega)
  have hB : Below w0.heap.size (w.alloc (.cells #[.int .u64 0] 23)) w' := (Below.refl _ _).grown hgr (by simp; omega) (fun x hx => (hown.lt x hx).1)
  rcases hO with ⟨_, ⟨rfl, h0⟩ | ⟨g', cap', cur, rfl, h1, h2, h3, h4, h5, h6⟩⟩
  · omega
  · refine ⟨g', cap', w', hr, ⟨cur, h2, by omega, fun j hj => ?_⟩, h1, h3, h4, hB0.trans hB⟩
    rw [Nat.mul_one] at h6
    have e : cur[j]? = (cur.toList.take (N + 1))[j]? := by
      rw [List.getElem?_take, if_pos hj, Array.getElem?_toList]
    rw [e, h6]
    by_cases hjN : j < N
    · rw [List.getElem?_append_left (by rw [wl_len]; exact hjN), wl_get hjN, if_pos hjN]
    · rw [List.getElem?_append_right (by rw [wl_len]; omega), wl_len, if_neg hjN, show j - N = 0 by omega]
      rfl

theorem elemL : (sizeOf (Try.prog.elem 27)).run Try.prog = fun W => .ok 1 W := by
  funext W
  kernel_rfl

theorem sliceL : Try.prog.underlying 27 = some (.slice (Try.prog.elem 27)) := by kernel_rfl

/-- A part of a row. -/
theorem slice_mid (g N cap l k : Nat) (hl : l ≤ k) (hk : k ≤ N) (hc : N ≤ cap) (hlc : l < cap) (W : World) :
    (Instr.sliceAt 27 (.slice (some ⟨g, 0, none⟩) N cap) (some (.int .i64 (l : Int))) (some (.int .i64 (k : Int))) none).run Try.prog W = .ok (.slice (some ⟨g, l, none⟩) (k - l) (cap - l)) W := by
  rw [run_sliceAt_slice (P := Try.prog) (w := W) 27 _ _ _ _ sliceL, run_slice_lh (P := Try.prog) (w := W) 27 _ N cap sliceL .i64 .i64 (l : Int) (k : Int) (by omega) (by omega) (by omega), elemL]
  have h1 : ((l : Int)).toNat = l := by omega
  have h2 : ((k : Int)).toNat = k := by omega
  have h3 : ¬ cap = l := by omega
  simp [Result.andThen, sliced, h3, add_nil]

end Go.Proofs.Ytiekipkmfopdoaa
