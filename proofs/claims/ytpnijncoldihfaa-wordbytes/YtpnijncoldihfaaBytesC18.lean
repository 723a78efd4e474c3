/-
  The document's long numbers: loads and stores of seventeen cells, to a word, sums.
-/
import Derived.Deep.MidRow
import Derived.Test.YtpnijncoldihfaaBytesC15
import Derived.Test.YtpnijncoldihfaaBytesC17
namespace Go.Proofs.Ytpnijncoldihfaa
open Go.RowKit Go.Shelf

theorem under76 : Try.prog.underlying 76 = some (.array 17 22) := by kernel_rfl

theorem size76 : (Try.prog.info? 76).map (·.size) = some 17 := by kernel_rfl

theorem loadVar17 {w : World} {b : Nat} {g : Nat → Nat} (h : w.rangeAt b 0 (c17 g).toList) : (loadVar 76 ⟨b, 0, none⟩).run Try.prog w = .ok (.agg (c17 g)) w :=
  run_loadVar_mid w b 0 76 (c17 g).toList _ h under76 rfl size76

theorem But.sets {L : Nat} {W : World} : ∀ (vs : List Value) (o : Nat) {V : World}, But L W V → But L W (V.setCells L o vs)
  | [], _, _, h => h
  | v :: r, o, _, h => by rw [World.setCells]; exact But.sets r (o + 1) (h.set o v)

/-- Values written into a row one after another. -/
def putAll (cs : Array Value) (o : Nat) : List Value → Array Value
  | [] => cs
  | v :: r => putAll (cs.setIfInBounds o v) (o + 1) r

theorem blk_sets {p t : Nat} : ∀ (vs : List Value) (o : Nat) {w : World} {cs : Array Value}, w.heap[p]? = some (.cells cs t (0, 0)) → (w.setCells p o vs).heap[p]? = some (.cells (putAll cs o vs) t (0, 0))
  | [], _, _, _, h => h
  | v :: r, o, _, _, h => by rw [World.setCells]; exact blk_sets r (o + 1) (blk_set h v)

theorem putAll17 (g' g : Nat → Nat) : putAll (c17 g') 0 (c17 g).toList = c17 g := by
  simp [c17, putAll]

theorem put_same (a : Act) (d : Nat) (v : Value) (h : d < a.tmps.size) : (a.put (some d) v).eval (.tmp d) = v := by
  simp [Act.put, Act.eval, Array.getD, h]

theorem put_ne (a : Act) {d j : Nat} (v : Value) (h : d ≠ j) : (a.put (some d) v).eval (.tmp j) = a.eval (.tmp j) :=
  Act.eval_put (fun d' hd' e => by cases hd'; cases e; exact h rfl)

theorem results_cell {P : Program} {fn : Func} {ts : Array Value} {w : World} {j ty : Nat} {p : Addr} {v : Value} (hf : fn.results = #[.cell j ty]) (hj : ts.getD j undef = .pointer (some p)) (h : (loadVar ty p).run P w = .ok v w) :
    (results fn ts).run P w = .ok v w := by
  unfold results
  rw [hf]
  rw [Array.getD_eq_getD_getElem?] at hj
  simp [hj, asAddr, h]

theorem results17 {fn : Func} {ts : Array Value} {w : World} {j b : Nat} {g : Nat → Nat} (hf : fn.results = #[.cell j 76]) (hj : ts.getD j undef = .pointer (some ⟨b, 0, none⟩)) (h : w.rangeAt b 0 (c17 g).toList) :
    (results fn ts).run Try.prog w = .ok (.agg (c17 g)) w := results_cell hf hj (loadVar17 h)

/-- Where a walk over two long numbers has come to. -/
structure PI (w wr : World) (A B N k : Nat) : Prop where
  a : wr.heap[w.heap.size]? = some (.cells (c17 (dg A)) 76 (0, 0))
  b : wr.heap[w.heap.size + 1]? = some (.cells (c17 (dg B)) 76 (0, 0))
  r : wr.heap[w.heap.size + 1 + 1]? = some (.cells (c17 (fun _ => 0)) 76 (0, 0))
  o : ∃ g : Nat → Nat, wr.heap[w.heap.size + 1 + 1 + 1]? = some (.cells (c17 g) 76 (0, 0)) ∧ ∀ j, j < k → g j = dg N j
  l : Below w.heap.size w wr

theorem PI.put {w wr : World} {A B N k : Nat} (I : PI w wr A B N k) (hk : k < 17) {s : Nat} (hs : s = dg N k) :
    PI w (wr.drew.setCell ⟨w.heap.size + 1 + 1 + 1, k, none⟩ (.int .u64 s)) A B N (k + 1) := by
  obtain ⟨g, hg, hgk⟩ := I.o
  have o1 : ∀ b, b ≠ w.heap.size + 1 + 1 + 1 → (wr.drew.setCell ⟨w.heap.size + 1 + 1 + 1, k, none⟩ (.int .u64 s)).heap[b]? = wr.heap[b]? := fun b h => Below.heap_setCell wr.drew _ _ b h
  refine ⟨(o1 _ (by omega)).trans I.a, (o1 _ (by omega)).trans I.b, (o1 _ (by omega)).trans I.r, ⟨fun i => if i = k then s else g i, ?_, fun j hj => ?_⟩, I.l.drew.setCell (p := ⟨w.heap.size + 1 + 1 + 1, k, none⟩) (by simp <;> omega) _⟩
  · have := blk_set (w := wr.drew) (o := k) hg (.int .u64 s)
    rw [set17 g s hk] at this
    exact this
  · show (if j = k then s else g j) = _
    by_cases h : j = k
    · rw [if_pos h, h, hs]
    · rw [if_neg h]; exact hgk j (by omega)

theorem PI.start (w : World) (A B N : Nat) : PI w ((((w.alloc (.cells (c17 (dg A)) 76 (0, 0))).alloc (.cells (c17 (dg B)) 76 (0, 0))).alloc (.cells (c17 (fun _ => 0)) 76 (0, 0))).alloc (.cells (c17 (fun _ => 0)) 76 (0, 0))) A B N 0 := by
  refine ⟨?_, ?_, ?_, ⟨fun _ => 0, ?_, fun j hj => absurd hj (by omega)⟩, ?_⟩
  · simp only [World.alloc, Array.getElem?_push, Array.size_push]; simp [Nat.add_assoc]
  · simp only [World.alloc, Array.getElem?_push, Array.size_push]; simp
  · simp only [World.alloc, Array.getElem?_push, Array.size_push]; simp
  · simp only [World.alloc, Array.getElem?_push, Array.size_push]; simp
  · refine Below.alloc ?_ (by simp <;> omega) _
    refine Below.alloc ?_ (by simp <;> omega) _
    refine Below.alloc ?_ (by simp <;> omega) _
    refine Below.alloc ?_ (by simp <;> omega) _
    exact Below.refl _ _

end Go.Proofs.Ytpnijncoldihfaa
