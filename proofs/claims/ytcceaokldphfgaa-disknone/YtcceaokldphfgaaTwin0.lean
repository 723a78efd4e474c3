import Derived.Test.YtcceaokldphfgaaEach0
namespace Go.Proofs.Ytcceaokldphfgaa
open Go.RowKit Go.Shelf

/-- append to nil: a row in new memory. -/
theorem append_nil_run {w : World} {t e : TypeId} {bytes : Nat} {z : Value} (ht : Try.prog.underlying t = some (.slice e)) (hi : (Try.prog.info? e).map (fun i => (i.zero, i.size, i.bytes)) = some (some z, 1, bytes)) (hz : z.cells.size = 1) (ty : TypeId)
    (ao : Option Addr) (c : Nat) (xs : List Value) (hs : ao = none → xs = [] ∧ c = 0) (hx : ∀ a, ao = some a → ∀ j u, xs[j]? = some u → w.cell? (a.add j) = some u) (h1 : ∀ u ∈ xs, u.oneCell' = true) (h63 : xs.length ≤ 9223372036854775807) (hby : xs.length * bytes ≤ 140737488355328) :
    ∃ v' w', (Builtin.append_ #[t, t] ty #[.slice none 0 0, .slice ao xs.length c]).run Try.prog w = .ok v' w' ∧ w'.ownsRow w.heap.size e 1 v' xs.length xs ∧ Below w.heap.size w w' := by
  obtain ⟨i0, hi0, hz0, hz1, hz2⟩ := info_parts hi
  cases ao with
  | none =>
    obtain ⟨rfl, rfl⟩ := hs rfl
    have := run_append_owned_none (P := Try.prog) (w := w) w.heap.size t ty e i0 1 ht hi0 (.slice none 0 0) 0 [] (World.ownsRow_nil _ _ _ _)
    exact ⟨_, _, this, World.ownsRow_nil _ _ _ _, Below.refl _ _⟩
  | some a =>
    obtain ⟨v', w', q1, q2, q3, _⟩ := run_append_own (P := Try.prog) w w.heap.size t ty e i0 z 1 bytes ht hi0 hz0 hz1 hz2 hz (by decide) (.slice none 0 0) 0 [] (World.ownsRow_nil _ _ _ _) a xs.length c xs (by simp) (hx a rfl) h1 (by unfold maxLen; omega) (by simpa using hby) (Nat.le_refl _)
    refine ⟨v', w', q1, by simpa using q2, (Below.refl _ _).grown q3 (Nat.le_refl _) (fun k h => by cases h)⟩

set_option maxHeartbeats 400000 in
set_option maxRecDepth 100000 in
theorem twin_any (ao : Option Addr) (c : Nat) (l : List UInt8) (w : World) (hs : ao = none → l = [] ∧ c = 0) (hx : ∀ a, ao = some a → ∀ j u, l[j]? = some u → w.cell? (a.add j) = some (byteV u)) (hl : l.length ≤ 140737488355328) :
    Calls Try.prog 32 #[.slice ao l.length c] w fun e w' => ∃ v', e = .returned v' ∧ w'.ownsRow w.heap.size 5 1 v' l.length (l.map byteV) ∧ Below w.heap.size w w' := by
  obtain ⟨v', w', hrun, ho, hb⟩ := append_nil_run (w := w) Try.underlying33 Try.info5 rfl 33 ao c (l.map byteV) (fun e => by obtain ⟨rfl, h⟩ := hs e; exact ⟨rfl, h⟩)
    (fun a e j u hu => by
      simp only [List.getElem?_map, Option.map_eq_some_iff] at hu
      obtain ⟨x, hx1, rfl⟩ := hu
      exact hx a e j x hx1) (byteV_one l) (by simp; omega) (by simp; omega)
  rw [List.length_map] at hrun ho
  have HQ := hideP (And.intro ho hb)
  have HR := hideP hrun
  clear ho hb hx hs hrun
  go_enter Try.func32, Try.ntmps32
  go_wp2_with (at_builtin; refine Lib.wpList_append_run _ rfl _ _ 33 33 rfl _ _ rfl rfl v' w' HR.out ?_)
  go_ret
  exact ⟨_, rfl, HQ.out⟩

end Go.Proofs.Ytcceaokldphfgaa
