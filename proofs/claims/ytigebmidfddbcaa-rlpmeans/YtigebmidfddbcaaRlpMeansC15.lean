/-
  Bytes in memory of their own; envelopes.
-/
import Derived.Test.YtigebmidfddbcaaRlpMeansC04
namespace Go.Proofs.Ytigebmidfddbcaa
open Go.RowKit

/-- Bytes behind a slice that has nothing: a row of their own. -/
theorem append_fresh (w : World) (ty : Nat) (bo : Option Addr) (ao : Option Addr) (n c : Nat) (hn : n ≤ 140737488355328) (bs : Nat → Nat) (hl : ∀ j, bs j < 256) (hc : ∀ j, j < n → ∃ ad, ao = some ad ∧ w.cell? (ad.add j) = some (.int .u8 (bs j))) (h0 : ao = none → c = 0) :
    ∃ ao' cap w', (Builtin.append_ #[23, 23] ty #[.slice bo 0 0, .slice ao n c]).run Try.prog w = .ok (.slice ao' n cap) w' ∧ ((n = 0 ∧ ao' = bo ∧ cap = 0 ∧ w' = w) ∨ (0 < n ∧ ao' = some ⟨w.heap.size, 0, none⟩)) ∧ (0 < n → BS w' ao' n cap bs) ∧ Below w.heap.size w w' := by
  obtain ⟨i0, hi, hz0, hz1, hz2⟩ := info_parts Try.bytes5
  have hlen : ((List.range n).map (fun j => Value.int .u8 (bs j))).length = n := by simp
  have hone : ∀ u ∈ (List.range n).map (fun j => Value.int .u8 (bs j)), u.oneCell' = true := by
    intro v hv
    simp only [List.mem_map] at hv
    obtain ⟨x, _, rfl⟩ := hv
    rfl
  have hT : Try.prog.underlying 23 = some (.slice 5) := by kernel_rfl
  by_cases hz : n = 0
  · subst hz
    refine ⟨bo, 0, w, ?_, Or.inl ⟨rfl, rfl, rfl, rfl⟩, fun h => absurd h (by omega), Below.refl _ _⟩
    cases ao with
    | none => exact run_append_nothing (P := Try.prog) w 23 23 ty 5 i0 hT hi _ 0 0 (Nat.le_refl _) _ (Src.ofNil w hT c)
    | some a => exact run_append_nothing (P := Try.prog) w 23 23 ty 5 i0 hT hi _ 0 0 (Nat.le_refl _) _ (Src.ofSlice w hT a 0 c [] (by simp) (fun j u h => by simp at h) (fun u h => by cases h))
  · obtain ⟨ad, rfl, _⟩ := hc 0 (by omega)
    have hs : Src Try.prog i0.size 23 (.slice (some ad) n c) n ((List.range n).map (fun j => Value.int .u8 (bs j))) w := by
      refine Src.ofSlice w hT ad n c _ (by rw [hlen, hz1, Nat.mul_one]) (fun j v hv => ?_) hone
      simp only [List.getElem?_map, Option.map_eq_some_iff] at hv
      obtain ⟨x, hx, rfl⟩ := hv
      obtain ⟨hj, rfl⟩ := List.getElem?_eq_some_iff.1 hx
      simp only [List.length_range] at hj
      obtain ⟨ad', e, h⟩ := hc j hj
      cases e
      rw [List.getElem_range]
      exact h
    have hcap : Builtin.nextslicecap (0 + n) 0 * i0.bytes ≤ 281474976710656 := by
      rw [hz2, Nat.zero_add]
      unfold Builtin.nextslicecap
      simp
      split <;> omega
    have hold : (Builtin.firstCells i0.size 0 (.slice bo 0 0)).run Try.prog w.drew = .ok ([] : List Value).toArray w.drew := by
      cases bo with
      | none => exact run_firstCells_none w.drew i0.size 0 0 0
      | some a => exact run_firstCells_some w.drew i0.size 0 a 0 0 [] (by simp) (fun j u h => by simp at h)
    have hr := run_append_grow_src (P := Try.prog) w 23 23 ty 5 i0 (.int .u8 0) hT hi hz0 bo 0 0 [] hold (.slice (some ad) n c) n _ hs (by omega) (by omega) hcap
    rw [Nat.zero_add, List.nil_append] at hr
    refine ⟨_, _, _, hr, Or.inr ⟨by omega, rfl⟩, fun _ => ⟨hl, ?_, ?_, fun j hj => ⟨_, rfl, ?_⟩, fun h => by cases h⟩, ((Below.refl _ w).drew).alloc (Nat.le_refl _) _⟩
    · exact grownCap_ge w n 0 5
    · exact grownCap_le_maxLen w n 0 5 (by unfold maxLen; omega)
    · rw [show (⟨w.heap.size, 0, none⟩ : Addr).add j = ⟨w.heap.size, j, none⟩ by unfold Addr.add; split <;> simp_all]
      refine blk_cell (heap_new w.drew _) ?_
      rw [Array.getElem?_append_left (by simp [hlen, hj]), List.getElem?_toArray]
      simp [hj]

/-- Bytes that nobody else holds: made since a world had so many blocks; of no bytes, nil or not. -/
structure Own (N : Nat) (w : World) (v : Value) (n : Nat) (bs : Nat → Nat) : Prop where
  ex : ∃ ao cap, v = .slice ao n cap ∧ BS w ao n cap bs ∧ (ao = none ∨ ∃ g, ao = some ⟨g, 0, none⟩ ∧ N ≤ g ∧ g < w.heap.size)

theorem wpList_append_fresh {ops : Array Oper} {rest : List Oper} {o : Oper} {a : Act} {w : World} {Q : Exit → Act → World → Prop} (hgd : o.guard = none) (s x : Operand)
    (ho : o.op = .call { callee := .builtin .append, args := #[s, x], argTypes := #[23, 23] }) (bo ao : Option Addr) (n c : Nat) (hs : a.eval s = .slice bo 0 0) (hx : a.eval x = .slice ao n c)
    (hn : n ≤ 140737488355328) (bs : Nat → Nat) (hb : BS w ao n c bs)
    (h : ∀ ao' cap w', ((n = 0 ∧ ao' = bo ∧ cap = 0 ∧ w' = w) ∨ (0 < n ∧ ao' = some ⟨w.heap.size, 0, none⟩)) → (0 < n → BS w' ao' n cap bs) → Below w.heap.size w w' → wpList Try.prog ops Q rest (a.put o.dst (.slice ao' n cap)) w') :
    wpList Try.prog ops Q (o :: rest) a w := by
  refine wpList_plain hgd fun K hK => ?_
  obtain ⟨ao', cap, w', hrun, h1, h2, h3⟩ := append_fresh w o.type bo ao n c hn bs hb.lt hb.cell hb.nil
  unfold Oper.wp
  simp [execOp, ho, resolve, invoke, builtin, hs, hx, hrun, Result.andThen]
  exact hK _ _ (h ao' cap w' h1 h2 h3)

theorem BS.empty (w : World) (ao : Option Addr) (bs : Nat → Nat) (hl : ∀ j, bs j < 256) : BS w ao 0 0 bs := ⟨hl, Nat.le_refl _, Nat.zero_le _, fun j hj => absurd hj (by omega), fun _ => rfl⟩

set_option maxHeartbeats 1000000 in
set_option maxRecDepth 100000 in
theorem copyBytes_any {ao : Option Addr} {n c : Nat} {bs : Nat → Nat} (hn : n ≤ 140737488355328) (w : World) (h : BS w ao n c bs) :
    Calls Try.prog 58 #[.slice ao n c] w fun e w' => (∃ v, e = .returned v ∧ Own w.heap.size w' v n bs) ∧ Below w.heap.size w w' := by
  have HB := hideP h
  have HN := hideP hn
  clear h hn
  go_enter Try.func58, Try.ntmps58
  go_wp2_with (at_builtin; refine wpList_append_fresh rfl _ _ rfl none ao n c rfl rfl HN.out bs HB.out ?_)
  intro ao' cap w' h1 h2 h3
  have HO : Hid (Own w.heap.size w' (.slice ao' n cap) n bs) := by
    rcases h1 with ⟨rfl, rfl, rfl, rfl⟩ | ⟨h0, rfl⟩
    · exact ⟨none, 0, rfl, BS.empty _ _ _ HB.out.lt, Or.inl rfl⟩
    · have hB := h2 h0
      obtain ⟨ad, e, hc⟩ := hB.cell 0 h0
      cases e
      exact ⟨_, cap, rfl, hB, Or.inr ⟨_, rfl, Nat.le_refl _, by have := World.block_lt_of_cell? w' _ hc; simpa [Addr.add] using this⟩⟩
  have HL := hideP h3
  clear h1 h2 h3
  go_wp2_with fail
  go_ret
  exact ⟨⟨_, rfl, HO.out⟩, HL.out⟩

set_option maxHeartbeats 1000000 in
set_option maxRecDepth 100000 in
theorem lawBytes_any {ao : Option Addr} {n c : Nat} {bs : Nat → Nat} (hn : n ≤ 140737488355328) (w : World) (h : BS w ao n c bs) :
    Calls Try.prog 21 #[.slice ao n c] w fun e w' => (∃ v, e = .returned v ∧ Own w.heap.size w' v n bs) ∧ Below w.heap.size w w' := by
  have HB := hideP (h.moved ((Below.refl _ w).alloc (Nat.le_refl _) (.cells #[] 5 (0, 0))))
  have HN := hideP hn
  have HLT := hideP h.lt
  clear h hn
  go_enter Try.func21, Try.ntmps21
  go_wp2_with (at_builtin; refine wpList_append_fresh rfl _ _ rfl (some ⟨w.heap.size, 0, none⟩) ao n c rfl rfl HN.out bs HB.out ?_)
  intro ao' cap w' h1 h2 h3
  have hsz : (w.alloc (.cells #[] 5 (0, 0))).heap.size = w.heap.size + 1 := by simp
  have HO : Hid (Own w.heap.size w' (.slice ao' n cap) n bs) := by
    rcases h1 with ⟨rfl, rfl, rfl, rfl⟩ | ⟨h0, rfl⟩
    · exact ⟨_, 0, rfl, BS.empty _ _ _ HLT.out, Or.inr ⟨_, rfl, Nat.le_refl _, by simp⟩⟩
    · have hB := h2 h0
      obtain ⟨ad, e, hc⟩ := hB.cell 0 h0
      cases e
      exact ⟨_, cap, rfl, hB, Or.inr ⟨_, rfl, by omega, by have := World.block_lt_of_cell? w' _ hc; simpa [Addr.add] using this⟩⟩
  have HL : Hid (Below w.heap.size w w') := ((Below.refl _ w).alloc (Nat.le_refl _) _).trans (h3.mono (by omega))
  clear h1 h2 h3 hsz
  go_wp2_with fail
  go_ret
  exact ⟨⟨_, rfl, HO.out⟩, HL.out⟩

end Go.Proofs.Ytigebmidfddbcaa
