/-
  Boxes of words.
-/
import Derived.Test.YtaeadndihchbnaaDoorGasTilesC03
namespace Go.Proofs.YtaeadndihchbnaaDoor
open Go.RowKit Go.Shelf

theorem pureB {P : Program} {f : FuncId} {a : Array Value} {w : World} {v : Value} (h : Calls P f a w fun e w' => e = .returned v ∧ w' = w) : Calls P f a w fun e w' => e = .returned v ∧ Below w.heap.size w w' :=
  h.mono fun _ _ ⟨h1, h2⟩ => ⟨h1, h2 ▸ Below.refl _ _⟩

theorem box1 {w W0 : World} {a : Obj} (h : W0 = w.alloc a) : W0.heap[w.heap.size]? = some a ∧ Below w.heap.size w W0 := by
  subst h
  exact ⟨heap_new _ _, (Below.refl _ w).alloc (Nat.le_refl _) _⟩

theorem box2 {w W0 : World} {a b : Obj} (h : W0 = (w.alloc a).alloc b) : W0.heap[w.heap.size]? = some a ∧ W0.heap[w.heap.size + 1]? = some b ∧ Below w.heap.size w W0 := by
  subst h
  exact ⟨(heap_old _ _ (by simp)).trans (heap_new _ _), heap_new1 _ _ _, ((Below.refl _ w).alloc (Nat.le_refl _) _).alloc (by simp) _⟩

theorem box3 {w W0 : World} {a b c : Obj} (h : W0 = ((w.alloc a).alloc b).alloc c) : W0.heap[w.heap.size]? = some a ∧ W0.heap[w.heap.size + 1]? = some b ∧ W0.heap[w.heap.size + 1 + 1]? = some c ∧ Below w.heap.size w W0 := by
  subst h
  have e : (w.alloc a).heap.size = w.heap.size + 1 := World.size_alloc _ _
  refine ⟨(heap_old _ _ (by simp <;> omega)).trans ((heap_old _ _ (by simp)).trans (heap_new _ _)), (heap_old _ _ (by simp <;> omega)).trans (heap_new1 _ _ _), ?_, (((Below.refl _ w).alloc (Nat.le_refl _) _).alloc (by simp) _).alloc (by simp <;> omega) _⟩
  have := heap_new1 (w.alloc a) b c
  rwa [e] at this

end Go.Proofs.YtaeadndihchbnaaDoor
