/- YtcceaokldphfgaaDiskRoomUptoC02 -/
import Derived.Test.YtcceaokldphfgaaDiskRoomUptoC01
namespace Go.Proofs.Ytcceaokldphfgaa
open Go.RowKit

/-- Integers that can be read: nil, or a slice whose elements are l. -/
def RdI (w : World) (v : Value) (l : List Int) : Prop :=
  (v = .slice none 0 0 ∧ l = []) ∨ ∃ b o c, v = .slice (some ⟨b, o, none⟩) l.length c ∧ b < w.heap.size ∧ ∀ j x, l[j]? = some x → w.cell? ⟨b, o + j, none⟩ = some (.int .i64 x)

set_option maxRecDepth 100000 in
theorem clone_nil (w : World) : Calls Try.prog 63 #[.slice none 0 0] w fun e w' => e = .returned (.slice none 0 0) ∧ w' = w := by
  have hnil := fun w a n c => Lib.run_eql_slice_nil (P := Try.prog) w 22 3 a n c 0 0 Try.underlying22
  go_enter Try.func63, Try.ntmps63
  go_wp2
  go_ret
  exact ⟨rfl, rfl⟩

set_option maxHeartbeats 400000 in
set_option maxRecDepth 100000 in
theorem clone_some (b o c : Nat) (l : List Int) (w : World) (hl : l.length * 8 ≤ 140737488351232) (hr : ∀ j x, l[j]? = some x → w.cell? ⟨b, o + j, none⟩ = some (.int .i64 x)) :
    Calls Try.prog 63 #[.slice (some ⟨b, o, none⟩) l.length c] w fun e w' => ∃ v, e = .returned v ∧ w'.ownsRow w.heap.size 3 1 v l.length (l.map (Value.int .i64)) ∧ Below w.heap.size w w' := by
  obtain ⟨i0, hi, hz0, hz1, hz2⟩ := info_parts Try.info3
  have hnil := fun w a n c => Lib.run_eql_slice_nil (P := Try.prog) w 22 3 a n c 0 0 Try.underlying22
  go_enter Try.func63, Try.ntmps63
  go_wp2_with (at_builtin; refine wpList_append_own _ rfl _ _ 22 rfl w.heap.size 3 i0 (.int .i64 0) 1 8 Try.underlying22 hi hz0 hz1 hz2 rfl (by decide) _ 0 [] rfl ?hown ⟨b, o, none⟩ l.length c (l.map (Value.int .i64)) rfl ?c0 ?c1 ?c2 ?c3 ?c4 ?c5 ?_)
  case hown => exact World.ownsRow_made w #[] 0 (Nat.le_refl _) (by decide) (by simp)
  case c0 => simp
  case c1 =>
    intro j u hu
    simp only [List.getElem?_map, Option.map_eq_some_iff] at hu
    obtain ⟨x, hx, rfl⟩ := hu
    have hc := hr j x hx
    rw [Addr.add_lit]
    exact (World.grownBy_alloc w _ none).cell hc (by simp)
  case c2 => exact ints_oneCell _ _
  case c3 => unfold maxLen; omega
  case c4 => omega
  case c5 => simp
  intro v' w1 hown hgrow _
  go_wp2
  go_ret
  refine ⟨_, rfl, by simpa using hown, ?_⟩
  exact ((Below.refl _ w).alloc (Nat.le_refl _) _).grown hgrow (by simp) (fun k hk => by cases hk; exact Nat.le_refl _)

/-- slices.Clone of integers. -/
theorem clone_any (v : Value) (l : List Int) (w : World) (h : RdI w v l) (hl : l.length * 8 ≤ 140737488351232) :
    Calls Try.prog 63 #[v] w fun e w' => ∃ v, e = .returned v ∧ w'.ownsRow w.heap.size 3 1 v l.length (l.map (Value.int .i64)) ∧ Below w.heap.size w w' := by
  rcases h with ⟨rfl, rfl⟩ | ⟨b, o, c, rfl, _, hr⟩
  · refine (clone_nil w).mono ?_
    rintro e w' ⟨rfl, rfl⟩
    exact ⟨_, rfl, World.ownsRow_nil _ _ _ _, Below.refl _ _⟩
  · exact clone_some b o c l w hl hr

/-- An owned row of integers can be read. -/
theorem RdI.of_own {w : World} {base : Nat} {v : Value} {l : List Int} (h : w.ownsRow base 3 1 v l.length (l.map (Value.int .i64))) : RdI w v l := by
  obtain ⟨hl, ⟨rfl, h0⟩ | ⟨g, cap, cur, rfl, hb, hg, hn, hm, hs, ht⟩⟩ := h
  · exact .inl ⟨rfl, by simpa using h0⟩
  · refine .inr ⟨g, 0, cap, rfl, (Array.getElem?_eq_some_iff.1 hg).1, fun j x hx => ?_⟩
    have hj : j < l.length := by
      rcases Nat.lt_or_ge j l.length with h | h
      · exact h
      · rw [List.getElem?_eq_none h] at hx; cases hx
    have e : (l.map (Value.int .i64))[j]? = some (.int .i64 x) := by simp [hx]
    rw [← ht] at e
    simp only [World.cell?, hg]
    simp only [Nat.mul_one, List.getElem?_take] at e
    rw [if_pos hj] at e
    simpa using e

theorem RdI.kept {w w' : World} {v : Value} {l : List Int} (h : RdI w v l) {B : Nat} (hb : Below B w w') (hv : ∀ b o n c, v = .slice (some ⟨b, o, none⟩) n c → b < B) : RdI w' v l := by
  rcases h with ⟨rfl, rfl⟩ | ⟨b, o, c, rfl, hlt, hr⟩
  · exact .inl ⟨rfl, rfl⟩
  · refine .inr ⟨b, o, c, rfl, Nat.lt_of_lt_of_le hlt hb.size, fun j x hx => ?_⟩
    exact (hb.cell (p := ⟨b, o + j, none⟩) (hv _ _ _ _ rfl)).trans (hr j x hx)

set_option maxHeartbeats 400000 in
set_option maxRecDepth 100000 in
theorem index_some (b o c : Nat) (l : List Int) (v : Int) (w : World) (hl : l.length * 8 ≤ 140737488351232) (hr : ∀ j x, l[j]? = some x → w.cell? ⟨b, o + j, none⟩ = some (.int .i64 x)) :
    Calls Try.prog 81 #[.slice (some ⟨b, o, none⟩) l.length c, .int .i64 v] w fun e w' => (∃ n : Int, e = .returned (.int .i64 n) ∧ (0 ≤ n ↔ v ∈ l)) ∧ w' = w := by
  go_enter Try.func81, Try.ntmps81
  go_wp2
  go_loop [5, 8] (fun _ i => ∃ k : Nat, k ≤ l.length ∧ i = .int .i64 k ∧ ∀ x ∈ l.take k, x ≠ v) (fun _ i => l.length - (intOf i).toNat)
  case atStart => exact ⟨0, Nat.zero_le _, rfl, by simp⟩
  case round =>
    obtain ⟨k, hk, rfl, hno⟩ := hrel
    by_cases hlt : k < l.length
    · have hc := hr k l[k] (by simp [hlt])
      have HN : Hid (∀ x ∈ l.take k, x ≠ v) := hno
      clear hno hr
      by_cases hv : v = l[k]
      · have hb : (v == l[k]) = true := by simp [hv]
        have HV : Hid (v = l[k]) := hv
        clear hv
        go_wp2
        go_ret
        exact ⟨⟨k, rfl, by constructor; intro _; rw [HV.out]; exact List.getElem_mem _; intro _; omega⟩, rfl⟩
      · have hb : (v == l[k]) = false := by simp [hv]
        have HV : Hid (¬ v = l[k]) := hv
        clear hv
        go_wp2
        go_round
        case rel =>
          refine ⟨k + 1, by omega, by go_num, ?_⟩
          intro x hx
          rw [List.take_succ_eq_append_getElem hlt, List.mem_append] at hx
          rcases hx with hx | hx
          · exact HN.out x hx
          · simp at hx; rw [hx]; exact fun e => HV.out e.symm
        case measure => simp [intOf]; omega
    · have hkl : k = l.length := by omega
      subst hkl
      clear hr
      have HN : Hid (∀ x ∈ l.take l.length, x ≠ v) := hno
      clear hno
      go_wp2
      go_ret
      have := HN.out
      refine ⟨⟨-1, rfl, ?_⟩, rfl⟩
      simp only [List.take_length] at this
      constructor
      · intro h; omega
      · intro h; exact absurd rfl (this v h)

set_option maxRecDepth 100000 in
theorem index_nil (v : Int) (w : World) :
    Calls Try.prog 81 #[.slice none 0 0, .int .i64 v] w fun e w' => (∃ n : Int, e = .returned (.int .i64 n) ∧ (0 ≤ n ↔ v ∈ ([] : List Int))) ∧ w' = w := by
  go_enter Try.func81, Try.ntmps81
  go_wp2
  refine wp_loop_rounds 1 ?_
  rw [rounds_succ]
  go_wp2
  go_ret
  exact ⟨⟨-1, rfl, by simp⟩, rfl⟩

theorem index_any (s : Value) (l : List Int) (v : Int) (w : World) (h : RdI w s l) (hl : l.length * 8 ≤ 140737488351232) :
    Calls Try.prog 81 #[s, .int .i64 v] w fun e w' => (∃ n : Int, e = .returned (.int .i64 n) ∧ (0 ≤ n ↔ v ∈ l)) ∧ w' = w := by
  rcases h with ⟨rfl, rfl⟩ | ⟨b, o, c, rfl, _, hr⟩
  · exact index_nil v w
  · exact index_some b o c l v w hl hr

set_option maxRecDepth 100000 in
/-- slices.Contains of integers. -/
theorem contains_any (s : Value) (l : List Int) (v : Int) (w : World) (h : RdI w s l) (hl : l.length * 8 ≤ 140737488351232) :
    Calls Try.prog 75 #[s, .int .i64 v] w fun e w' => e = .returned (.bool (decide (v ∈ l))) ∧ w' = w := by
  have hi := index_any s l v w h hl
  go_enter Try.func75, Try.ntmps75
  go_wp2_with (go_at_call 81; refine hi.mono ?_; rintro e w' ⟨⟨n, rfl, hn⟩, rfl⟩)
  go_ret
  exact ⟨by congr 2, rfl⟩

end Go.Proofs.Ytcceaokldphfgaa
