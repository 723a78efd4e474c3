/-
  The program's writer: a form that is filled from its end on.
-/
import Derived.Test.YtigebmidfddbcaaRlpMeansC06
namespace Go.Proofs.Ytigebmidfddbcaa
open Go.RowKit

/-- Bytes in a row. -/
def cbs (n : Nat) (g : Nat → Nat) : Array Value := ((List.range n).map (fun j => Value.int .u8 (g j))).toArray

theorem cbs_get (n : Nat) (g : Nat → Nat) {j : Nat} (h : j < n) : (cbs n g)[j]? = some (.int .u8 (g j)) := by
  unfold cbs
  rw [List.getElem?_toArray]
  simp [h]

theorem cbs_set (n : Nat) (g : Nat → Nat) {j : Nat} (v : Nat) : (cbs n g).setIfInBounds j (.int .u8 v) = cbs n (fun i => if i = j then v else g i) := by
  apply Array.ext
  · simp [cbs]
  · intro i h1 h2
    simp only [cbs, List.setIfInBounds_toArray, List.getElem_toArray, List.getElem_set, List.getElem_map, List.getElem_range]
    by_cases h : j = i
    · rw [if_pos h, if_pos h.symm]
    · rw [if_neg h, if_neg (fun e => h e.symm)]

theorem blk_set {w : World} {p t o : Nat} {cs : Array Value} (h : w.heap[p]? = some (.cells cs t (0, 0))) (v : Value) : (w.setCell ⟨p, o, none⟩ v).heap[p]? = some (.cells (cs.setIfInBounds o v) t (0, 0)) := by
  rw [heap_setCell_same w _ _ _ _ _ h]

/-- A writer in memory: its form's row, how many bytes it has, where what is written begins. -/
structure WR (w : World) (P G n a : Nat) (g : Nat → Nat) : Prop where
  p : w.heap[P]? = some (.cells #[.slice (some ⟨G, 0, none⟩) n n, .int .i64 a] 93 (0, 0))
  f : w.heap[G]? = some (.cells (cbs n g) 5 (0, 0))
  ne : P ≠ G
  le : a ≤ n
  room : n ≤ 9223372036854775807

/-- All but two blocks are as they were. -/
structure Fr (P G : Nat) (w w' : World) : Prop where
  below : Below (min P G) w w'
  same : ∀ b, b < w.heap.size → b ≠ P → b ≠ G → w'.heap[b]? = w.heap[b]?

theorem Fr.refl (P G : Nat) (w : World) : Fr P G w w := ⟨Below.refl _ _, fun _ _ _ _ => rfl⟩

theorem Fr.trans {P G : Nat} {w w' w'' : World} (h : Fr P G w w') (h' : Fr P G w' w'') : Fr P G w w'' :=
  ⟨h.below.trans h'.below, fun b h1 h2 h3 => (h'.same b (Nat.lt_of_lt_of_le h1 h.below.size) h2 h3).trans (h.same b h1 h2 h3)⟩

theorem Fr.set {P G : Nat} {w w' : World} (h : Fr P G w w') {p : Addr} (hp : p.block = P ∨ p.block = G) (v : Value) : Fr P G w (w'.setCell p v) :=
  ⟨h.below.setCell (by rcases hp with e | e <;> rw [e] <;> omega) v, fun b h1 h2 h3 => (Below.heap_setCell w' p v b (by rcases hp with e | e <;> rw [e] <;> assumption)).trans (h.same b h1 h2 h3)⟩

theorem Fr.ofBelow {P G : Nat} {w w' : World} (h : Below w.heap.size w w') (hp : P < w.heap.size ∨ G < w.heap.size) : Fr P G w w' :=
  ⟨h.mono (by omega), fun b h1 _ _ => h.block b h1⟩

theorem Fr.drew {P G : Nat} {w w' : World} (h : Fr P G w w') : Fr P G w w'.drew := ⟨h.below.drew, h.same⟩

theorem WR.kept {w w' : World} {P G n a : Nat} {g : Nat → Nat} (h : WR w P G n a g) (hb : Below w.heap.size w w') : WR w' P G n a g :=
  ⟨(hb.block _ (lt_of_block h.p)).trans h.p, (hb.block _ (lt_of_block h.f)).trans h.f, h.ne, h.le, h.room⟩

/-- One byte more. -/
theorem WR.put {w : World} {P G n a v : Nat} {g : Nat → Nat} (h : WR w P G n (a + 1) g) :
    WR (((w.setCell ⟨P, 1, none⟩ (.int .i64 a)).setCell ⟨G, a, none⟩ (.int .u8 v)).drew) P G n a (fun i => if i = a then v else g i) := by
  have hle := h.le
  have h1 := blk_set (o := 1) h.p (.int .i64 a)
  have h2 : (w.setCell ⟨P, 1, none⟩ (.int .i64 a)).heap[G]? = some (.cells (cbs n g) 5 (0, 0)) := (Below.heap_setCell w _ _ _ (by show G ≠ P; exact Ne.symm h.ne)).trans h.f
  have h3 := blk_set (w := w.setCell ⟨P, 1, none⟩ (.int .i64 a)) (o := a) h2 (.int .u8 v)
  rw [cbs_set] at h3
  exact ⟨(Below.heap_setCell (w.setCell ⟨P, 1, none⟩ (.int .i64 a)) _ _ _ (by show P ≠ G; exact h.ne)).trans h1, h3, h.ne, by omega, h.room⟩

set_option maxHeartbeats 4000000 in
set_option maxRecDepth 100000 in
theorem put_any {P G n a v : Nat} {g : Nat → Nat} (w : World) (h : WR w P G n (a + 1) g) :
    Calls Try.prog 81 #[.pointer (some ⟨P, 0, none⟩), .int .u8 v] w fun e w' => e = .returned (.tuple #[]) ∧ WR w' P G n a (fun i => if i = a then v else g i) ∧ Fr P G w w' := by
  have hle := h.le
  have hroom := h.room
  have c0 := blk_cell h.p (o := 0) rfl
  have c1 := blk_cell h.p (o := 1) rfl
  have f1 : ∀ o, w.frozen? ⟨P, o, none⟩ = false := fun o => blk_free h.p
  have cg := blk_cell h.f (cbs_get n g (show a < n by omega))
  have fg : ∀ o, w.frozen? ⟨G, o, none⟩ = false := fun o => blk_free h.f
  have ne1 : ¬ P = G := h.ne
  have ne2 : ¬ G = P := Ne.symm h.ne
  have e1 : IntKind.i64.wrap (((a + 1 : Nat) : Int) - 1) = ((a : Nat) : Int) := by rw [IntKind.wrap_i64]; omega
  have g1 : ((a : Nat) : Int) < ((n : Nat) : Int) := by omega
  have HW := hideP (h.put (v := v))
  have HF : Hid (Fr P G w (((w.setCell ⟨P, 1, none⟩ (.int .i64 a)).setCell ⟨G, a, none⟩ (.int .u8 v)).drew)) := (((Fr.refl P G w).set (Or.inl rfl) _).set (Or.inr rfl) _).drew
  generalize ha1 : a + 1 = a1 at *
  clear h ha1
  go_enter Try.func81, Try.ntmps81
  go_wp2_with fail
  go_region
  go_wp2_with fail
  go_end0
  exact ⟨rfl, HW.out, HF.out⟩

end Go.Proofs.Ytigebmidfddbcaa
