/-
  Bytes behind an empty slice: a copy.
-/
import Derived.Test.YtaeadndihchbnaaDoorGasTilesC06
namespace Go.Proofs.YtaeadndihchbnaaDoor
open Go.RowKit

/-- Bytes behind a slice that has nothing: a row of their own. -/
theorem appendB (w : World) (ty : Nat) (bo : Option Addr) (ao : Option Addr) (n c : Nat) (hn : n ≤ 140737488355328) (bs : Nat → Nat) (hl : ∀ j, bs j < 256) (hc : ∀ j, j < n → ∃ ad, ao = some ad ∧ w.cell? (ad.add j) = some (.int .u8 (bs j))) (h0 : ao = none → c = 0) :
    ∃ ao' cap w', (Builtin.append_ #[38, 38] ty #[.slice bo 0 0, .slice ao n c]).run Tryd.prog w = .ok (.slice ao' n cap) w' ∧ ((n = 0 ∧ ao' = bo ∧ cap = 0 ∧ w' = w) ∨ (0 < n ∧ ao' = some ⟨w.heap.size, 0, none⟩)) ∧ (0 < n → BS w' ao' n cap bs) ∧ Below w.heap.size w w' := by
  obtain ⟨i0, hi, hz0, hz1, hz2⟩ := info_parts Tryd.bytes5
  have hlen : ((List.range n).map (fun j => Value.int .u8 (bs j))).length = n := by simp
  have hone : ∀ u ∈ (List.range n).map (fun j => Value.int .u8 (bs j)), u.oneCell' = true := by
    intro v hv
    simp only [List.mem_map] at hv
    obtain ⟨x, _, rfl⟩ := hv
    rfl
  have hT : Tryd.prog.underlying 38 = some (.slice 5) := by kernel_rfl
  by_cases hz : n = 0
  · subst hz
    refine ⟨bo, 0, w, ?_, Or.inl ⟨rfl, rfl, rfl, rfl⟩, fun h => absurd h (by omega), Below.refl _ _⟩
    cases ao with
    | none => exact run_append_nothing (P := Tryd.prog) w 38 38 ty 5 i0 hT hi _ 0 0 (Nat.le_refl _) _ (Src.ofNil w hT c)
    | some a => exact run_append_nothing (P := Tryd.prog) w 38 38 ty 5 i0 hT hi _ 0 0 (Nat.le_refl _) _ (Src.ofSlice w hT a 0 c [] (by simp) (fun j u h => by simp at h) (fun u h => by cases h))
  · obtain ⟨ad, rfl, _⟩ := hc 0 (by omega)
    have hs : Src Tryd.prog i0.size 38 (.slice (some ad) n c) n ((List.range n).map (fun j => Value.int .u8 (bs j))) w := by
      refine Src.ofSlice w hT ad n c _ (by rw [hlen, hz1, Nat.mul_one]) (fun j v hv => ?_) hone
      simp only [List.getElem?_map, Option.map_eq_some_iff] at hv
      obtain ⟨x, hx, rfl⟩ := hv
      obtain ⟨hj, rfl⟩ := List.getElem?_eq_some_iff.1 hx
      simp only [List.length_range] at hj
      obtain ⟨ad', e, h⟩ := hc j hj
      cases e
      rw [List.getElem_range]
      exact h
    have hcap : Builtin.nextslicecap (0 + n) 0 * i0.bytes ≤ 281474976710656 := by
      rw [hz2, Nat.zero_add]
      unfold Builtin.nextslicecap
      simp
      split <;> omega
    have hold : (Builtin.firstCells i0.size 0 (.slice bo 0 0)).run Tryd.prog w.drew = .ok ([] : List Value).toArray w.drew := by
      cases bo with
      | none => exact run_firstCells_none w.drew i0.size 0 0 0
      | some a => exact run_firstCells_some w.drew i0.size 0 a 0 0 [] (by simp) (fun j u h => by simp at h)
    have hr := run_append_grow_src (P := Tryd.prog) w 38 38 ty 5 i0 (.int .u8 0) hT hi hz0 bo 0 0 [] hold (.slice (some ad) n c) n _ hs (by omega) (by omega) hcap
    rw [Nat.zero_add, List.nil_append] at hr
    refine ⟨_, _, _, hr, Or.inr ⟨by omega, rfl⟩, fun _ => ⟨hl, ?_, ?_, fun j hj => ⟨_, rfl, ?_⟩, fun h => by cases h⟩, ((Below.refl _ w).drew).alloc (Nat.le_refl _) _⟩
    · exact grownCap_ge w n 0 5
    · exact grownCap_le_maxLen w n 0 5 (by unfold maxLen; omega)
    · rw [show (⟨w.heap.size, 0, none⟩ : Addr).add j = ⟨w.heap.size, j, none⟩ by unfold Addr.add; split <;> simp_all]
      refine blk_cell (heap_new w.drew _) ?_
      rw [Array.getElem?_append_left (by simp [hlen, hj]), List.getElem?_toArray]
      simp [hj]

theorem wpList_appendB {ops : Array Oper} {rest : List Oper} {o : Oper} {a : Act} {w : World} {Q : Exit → Act → World → Prop} (hgd : o.guard = none) (s x : Operand)
    (ho : o.op = .call { callee := .builtin .append, args := #[s, x], argTypes := #[38, 38] }) (bo ao : Option Addr) (n c : Nat) (hs : a.eval s = .slice bo 0 0) (hx : a.eval x = .slice ao n c)
    (hn : n ≤ 140737488355328) (bs : Nat → Nat) (hb : BS w ao n c bs)
    (h : ∀ ao' cap w', ((n = 0 ∧ ao' = bo ∧ cap = 0 ∧ w' = w) ∨ (0 < n ∧ ao' = some ⟨w.heap.size, 0, none⟩)) → (0 < n → BS w' ao' n cap bs) → Below w.heap.size w w' → wpList Tryd.prog ops Q rest (a.put o.dst (.slice ao' n cap)) w') :
    wpList Tryd.prog ops Q (o :: rest) a w := by
  refine wpList_plain hgd fun K hK => ?_
  obtain ⟨ao', cap, w', hrun, h1, h2, h3⟩ := appendB w o.type bo ao n c hn bs hb.lt hb.cell hb.nil
  unfold Oper.wp
  simp [execOp, ho, resolve, invoke, builtin, hs, hx, hrun, Result.andThen]
  exact hK _ _ (h ao' cap w' h1 h2 h3)

end Go.Proofs.YtaeadndihchbnaaDoor
