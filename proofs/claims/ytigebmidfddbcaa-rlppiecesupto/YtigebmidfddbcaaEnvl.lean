/-
  Envelopes: the program's Envelope and Open, the document's Open.
-/
import Derived.Test.YtigebmidfddbcaaPSame
namespace Go.Proofs.Ytigebmidfddbcaa
open Go.RowKit Go.Shelf

theorem byR_cons (k : Nat) (b : List Nat) : [Value.int .u8 k] ++ byR b.length (lb b) = byR (1 + b.length) (lb (k :: b)) := by
  apply List.ext_getElem?
  intro j
  cases j with
  | zero => rw [byR_get (by omega)]; rfl
  | succ j =>
    rw [List.singleton_append, List.getElem?_cons_succ]
    by_cases h : j < b.length
    · rw [byR_get h, byR_get (by omega)]; rfl
    · rw [List.getElem?_eq_none (by rw [byR_len]; omega), List.getElem?_eq_none (by rw [byR_len]; omega)]

/-- Bytes behind one byte. -/
theorem append_kind {w : World} {N g k : Nat} {ao : Option Addr} {c : Nat} {b : List Nat} (hk : k < 256) (hN : N ≤ g) (hg : w.heap[g]? = some (.cells #[.int .u8 k] 5 (0, 0))) (hB : BS w ao b.length c (lb b)) (hn : b.length ≤ 140737488355328) :
    ∃ ao' c' w', (Builtin.append_ #[23, 23] 23 #[.slice (some ⟨g, 0, none⟩) 1 1, .slice ao b.length c]).run Try.prog w = .ok (.slice ao' (1 + b.length) c') w' ∧ BS w' ao' (1 + b.length) c' (lb (k :: b)) ∧ Below N w w' := by
  obtain ⟨i0, hi, hz0, hz1, hz2⟩ := info_parts Try.bytes5
  have hT : Try.prog.underlying 23 = some (.slice 5) := by kernel_rfl
  have hlt : ∀ j, lb (k :: b) j < 256 := fun j => by
    cases j with
    | zero => exact hk
    | succ j => exact hB.lt j
  have hgl := lt_of_block hg
  by_cases h0 : b.length = 0
  · have hb := List.eq_nil_of_length_eq_zero h0
    subst hb
    refine ⟨some ⟨g, 0, none⟩, 1, w, ?_, ⟨hlt, Nat.le_refl _, by decide, fun j hj => ⟨_, rfl, ?_⟩, fun h => by cases h⟩, Below.refl _ _⟩
    · cases ao with
      | none => exact run_append_nothing (P := Try.prog) w 23 23 23 5 i0 hT hi _ 1 1 (Nat.le_refl _) _ (Src.ofNil w hT c)
      | some a => exact run_append_nothing (P := Try.prog) w 23 23 23 5 i0 hT hi _ 1 1 (Nat.le_refl _) _ (Src.ofSlice w hT a 0 c [] (by simp) (fun j u h => by simp at h) (fun u h => by cases h))
    · obtain rfl : j = 0 := by simp at hj; omega
      exact blk_cell hg rfl
  · obtain ⟨ad, rfl, _⟩ := hB.cell 0 (by omega)
    have hrow : w.ownsRow N 5 1 (.slice (some ⟨g, 0, none⟩) 1 1) 1 [.int .u8 k] := ⟨rfl, Or.inr ⟨g, 1, #[.int .u8 k], rfl, hN, hg, Nat.le_refl _, by decide, rfl, rfl⟩⟩
    obtain ⟨v', w', hr, hO, hgr, _⟩ := run_append_own_wide (P := Try.prog) w N 23 23 5 i0 (.int .u8 0) 1 1 hT hi hz0 hz1 hz2 rfl (by omega) _ 1 _ hrow ad b.length c (byR b.length (lb b)) (by rw [byR_len, Nat.mul_one]) (byR_cells hB) byR_one (by unfold maxLen; omega) (by omega) (by omega)
    rw [byR_cons] at hO
    obtain ⟨a', c', rfl, hB'⟩ := row_BS hlt hO
    exact ⟨a', c', w', hr, hB', (Below.refl _ w).grown hgr (by omega) (fun x hx => by cases hx; exact hN)⟩

set_option maxHeartbeats 1000000 in
set_option maxRecDepth 100000 in
theorem envelope_any {k : Nat} (hk : k < 256) {ao : Option Addr} {c : Nat} {b : List Nat} (hn : b.length ≤ 140737488355328) (w : World) (hB : BS w ao b.length c (lb b)) :
    Calls Try.prog 45 #[.int .u8 k, .slice ao b.length c] w fun e w' => ((128 ≤ k ∧ e = .returned (.tuple #[.slice none 0 0, .int .i64 45])) ∨ (k < 128 ∧ ∃ ao' c', e = .returned (.tuple #[.slice ao' (1 + b.length) c', .int .i64 0]) ∧ BS w' ao' (1 + b.length) c' (lb (k :: b)))) ∧ Below w.heap.size w w' := by
  by_cases h : k < 128
  · have hb1 : Below w.heap.size w (w.alloc (.cells #[.int .u8 k] 5)) := (Below.refl _ w).alloc (Nat.le_refl _) _
    obtain ⟨ao', c', w', hr, hB', hb⟩ := append_kind hk (Nat.le_refl _) (heap_new w (.cells #[.int .u8 k] 5)) (hB.moved hb1) hn
    have HR := hideP hr
    have HE := hideP (And.intro hB' (hb1.trans hb))
    have g1 : ¬ (k : Int) ≥ 128 := by omega
    have g1' : ¬ (128 : Int) ≤ (k : Int) := by omega
    have HK := hideP h
    clear hr hB' hb hb1 hB hn h
    generalize b.length = n at *
    go_enter Try.func45, Try.ntmps45
    go_wp2_with (at_builtin; refine wpList_append_run rfl _ _ 23 rfl rfl rfl rfl HR.out ?_)
    go_ret2
    exact ⟨Or.inr ⟨HK.out, ao', c', rfl, HE.out.1⟩, HE.out.2⟩
  · have g1 : (k : Int) ≥ 128 := by omega
    have g1' : (128 : Int) ≤ (k : Int) := by omega
    have HK : Hid (128 ≤ k) := hideP (by omega)
    clear hB hn h
    go_enter Try.func45, Try.ntmps45
    go_wp2_with fail
    go_ret2
    exact ⟨Or.inl ⟨HK.out, rfl⟩, Below.refl _ _⟩

/-- What Open answers: the kind, how many bytes are left out ahead, the error. -/
def opn (b : List Nat) : Nat × List Nat × Nat :=
  if b.length = 0 then (0, [], 41) else if lb b 0 < 128 then (lb b 0, b.tail, 0) else if 192 ≤ lb b 0 then (0, b, 0) else (0, [], 45)

end Go.Proofs.Ytigebmidfddbcaa
