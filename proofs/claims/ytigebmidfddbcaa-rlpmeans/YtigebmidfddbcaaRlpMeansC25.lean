/-
  Nodes in memory, and the item that they tell.
-/
import Derived.Test.YtigebmidfddbcaaRlpMeansC24
namespace Go.Proofs.Ytigebmidfddbcaa
open Go.RowKit Go.Shelf

/-- A node: what its fields List, Bytes and Many hold. -/
abbrev Nd := Int × List Nat × Int

mutual
/-- The item that nodes tell, and the nodes behind it. -/
def itemT : Nat → List Nd → Nat → Tree × List Nd
  | 0, _, _ => (.node 0 [] [], [])
  | _ + 1, [], _ => (.node 0 [] [], [])
  | f + 1, x :: r, deep => (.node x.1 x.2.1 (kidsT f x.2.2.toNat r deep).1, (kidsT f x.2.2.toNat r deep).2)

/-- Its kids. -/
def kidsT : Nat → Nat → List Nd → Nat → List Tree × List Nd
  | 0, _, r, _ => ([], r)
  | f + 1, m, r, deep => if 0 < m ∧ r ≠ [] ∧ deep < 200 then ((itemT f r (deep + 1)).1 :: (kidsT f (m - 1) (itemT f r (deep + 1)).2 deep).1, (kidsT f (m - 1) (itemT f r (deep + 1)).2 deep).2) else ([], r)

end

/-- Nodes in a slice. -/
structure NS (w : World) (ns : List Nd) (ao : Option Addr) (c : Nat) : Prop where
  le : ns.length ≤ c
  room : c ≤ maxLen
  nil : ao = none → c = 0
  cell : ∀ j x, ns[j]? = some x → ∃ ad a' c', ao = some ad ∧ w.cell? (ad.add (j * 3)) = some (.int .i64 x.1) ∧ w.cell? (ad.add (j * 3 + 1)) = some (.slice a' x.2.1.length c') ∧ w.cell? (ad.add (j * 3 + 2)) = some (.int .i64 x.2.2) ∧ BS w a' x.2.1.length c' (lb x.2.1)

theorem NS.moved {w w' : World} {ns : List Nd} {ao : Option Addr} {c : Nat} (h : NS w ns ao c) (hb : Below w.heap.size w w') : NS w' ns ao c :=
  ⟨h.le, h.room, h.nil, fun j x hx => by
    obtain ⟨ad, a', c', e, c0, c1, c2, hB⟩ := h.cell j x hx
    have hl := World.block_lt_of_cell? _ _ c0
    rw [add_block] at hl
    have hm : ∀ k, w'.cell? (ad.add k) = w.cell? (ad.add k) := fun k => hb.cell (p := ad.add k) (by rw [add_block]; exact hl)
    exact ⟨ad, a', c', e, (hm _).trans c0, (hm _).trans c1, (hm _).trans c2, hB.moved hb⟩⟩

theorem elemN : (sizeOf (Try.prog.elem 22)).run Try.prog = fun W => .ok 3 W := by
  funext W
  kernel_rfl

theorem sliceN : Try.prog.underlying 22 = some (.slice (Try.prog.elem 22)) := by kernel_rfl

/-- The nodes behind the first. -/
theorem NS.tail {w : World} {x : Nd} {ns : List Nd} {ao : Option Addr} {c : Nat} (h : NS w (x :: ns) ao c) :
    ∃ ao', NS w ns ao' (c - 1) ∧ ∀ W : World, (Instr.sliceAt 22 (.slice ao (ns.length + 1) c) (some (.int .i64 1)) none none).run Try.prog W = .ok (.slice ao' ns.length (c - 1)) W := by
  have hle := h.le
  rw [List.length_cons] at hle
  have hroom := h.room
  obtain ⟨ad, _, _, rfl, _⟩ := h.cell 0 x rfl
  refine ⟨if c = 1 then some ad else some (ad.add 3), ⟨by omega, by omega, fun e => by (split at e <;> cases e), fun j y hy => ?_⟩, fun W => ?_⟩
  · obtain ⟨ad', a', c', e, c0, c1, c2, hB⟩ := h.cell (j + 1) y (by simpa using hy)
    cases e
    have hj := (List.getElem?_eq_some_iff.1 hy).1
    rw [if_neg (by omega)]
    refine ⟨_, a', c', rfl, ?_, ?_, ?_, hB⟩
    · rw [add_add, show 3 + j * 3 = (j + 1) * 3 by omega]; exact c0
    · rw [add_add, show 3 + (j * 3 + 1) = (j + 1) * 3 + 1 by omega]; exact c1
    · rw [add_add, show 3 + (j * 3 + 2) = (j + 1) * 3 + 2 by omega]; exact c2
  · rw [run_sliceAt_slice (P := Try.prog) (w := W) 22 _ _ _ _ sliceN, run_slice_l (P := Try.prog) (w := W) 22 _ (ns.length + 1) c sliceN .i64 1 (by omega) (by omega), elemN]
    by_cases e : c = 1
    · subst e
      simp [Result.andThen, sliced]
    · simp [Result.andThen, sliced, e]

/-- Nodes of which none is too great. -/
def NdOk (ns : List Nd) : Prop := ∀ x ∈ ns, x.2.1.length ≤ 140737488355328

mutual
theorem itemT_rest : ∀ (f : Nat) (ns : List Nd) (deep : Nat), ns ≠ [] → (itemT f ns deep).2.length < ns.length
  | 0, ns, _, h => by
    cases ns with
    | nil => exact absurd rfl h
    | cons x r => simp [itemT]
  | f + 1, [], _, h => absurd rfl h
  | f + 1, x :: r, deep, _ => by
    rw [itemT]
    have := kidsT_rest f x.2.2.toNat r deep
    simp only [List.length_cons]
    omega

theorem kidsT_rest : ∀ (f m : Nat) (ns : List Nd) (deep : Nat), (kidsT f m ns deep).2.length ≤ ns.length
  | 0, _, _, _ => by simp [kidsT]
  | f + 1, m, ns, deep => by
    rw [kidsT]
    split
    · rename_i h
      have h1 := itemT_rest f ns (deep + 1) h.2.1
      have h2 := kidsT_rest f (m - 1) (itemT f ns (deep + 1)).2 deep
      simp only
      omega
    · simp

end

mutual
theorem itemT_fits : ∀ (f : Nat) (ns : List Nd) (deep : Nat), NdOk ns → ns.length ≤ 3518437208884 → (itemT f ns deep).1.fits ∧ NdOk (itemT f ns deep).2
  | 0, ns, _, _, _ => by
    rw [itemT]
    exact ⟨by unfold Tree.fits Tree.fitsK; simp, fun x hx => by cases hx⟩
  | f + 1, [], _, _, _ => by
    rw [itemT]
    exact ⟨by unfold Tree.fits Tree.fitsK; simp, fun x hx => by cases hx⟩
  | f + 1, x :: r, deep, h, hl => by
    rw [itemT]
    rw [List.length_cons] at hl
    have := kidsT_fits f x.2.2.toNat r deep (fun y hy => h y (by simp [hy])) (by omega)
    refine ⟨?_, this.2.2⟩
    unfold Tree.fits
    exact ⟨h x (by simp), by have := this.2.1; omega, this.1⟩

theorem kidsT_fits : ∀ (f m : Nat) (ns : List Nd) (deep : Nat), NdOk ns → ns.length ≤ 3518437208884 → Tree.fitsK (kidsT f m ns deep).1 ∧ (kidsT f m ns deep).1.length ≤ ns.length ∧ NdOk (kidsT f m ns deep).2
  | 0, _, ns, _, h, _ => by
    rw [kidsT]
    exact ⟨by unfold Tree.fitsK; trivial, by simp, h⟩
  | f + 1, m, ns, deep, h, hl => by
    rw [kidsT]
    split
    · rename_i hc
      have h1 := itemT_rest f ns (deep + 1) hc.2.1
      have h2 := itemT_fits f ns (deep + 1) h hl
      have h3 := kidsT_fits f (m - 1) (itemT f ns (deep + 1)).2 deep h2.2 (by omega)
      refine ⟨?_, ?_, h3.2.2⟩
      · unfold Tree.fitsK
        exact ⟨h2.1, h3.1⟩
      · simp only [List.length_cons]
        have := h3.2.1
        omega
    · exact ⟨by unfold Tree.fitsK; trivial, by simp, h⟩

end

end Go.Proofs.Ytigebmidfddbcaa
