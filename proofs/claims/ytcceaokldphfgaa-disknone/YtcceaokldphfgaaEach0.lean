import Derived.Test.YtcceaokldphfgaaSafe0
namespace Go.Proofs.Ytcceaokldphfgaa
open Go.RowKit Go.Shelf

set_option maxHeartbeats 400000 in
set_option maxRecDepth 100000 in
theorem nob_each {w : World} {p : Option Addr} (h : Nob w p) : Calls Try.prog 25 #[.pointer p] w fun e w' => ∃ b1 b2, e = .returned (.func (.func 53) #[] #[.pointer (some ⟨b1, 0, none⟩), .pointer (some ⟨b2, 0, none⟩)]) ∧ Below w.heap.size w w' ∧ w.heap.size ≤ b1 ∧ w'.cell? ⟨b1, 0, none⟩ = some (.slice none 0 0) := by
  have hb : Below w.heap.size w ((w.alloc (.cells #[.slice none 0 0] 97)).alloc (.cells #[.slice none 0 0] 22)) := ((Below.refl _ w).alloc (Nat.le_refl _) _).alloc (by simp) _
  have hd := nob_dead (nob_still h hb)
  clear h
  go_enter Try.func25, Try.ntmps25
  go_wp2_with fail
  refine hd.mono ?_
  rintro e w' ⟨rfl, rfl⟩
  go_wp2
  go_ret
  refine ⟨_, _, rfl, hb, Nat.le_refl _, ?_⟩
  have h0 : ((w.alloc (.cells #[.slice none 0 0] 97)).alloc (.cells #[.slice none 0 0] 22)).heap[w.heap.size]? = some (.cells #[.slice none 0 0] 97 (0, 0)) :=
    (Below.heap_alloc _ _ _ (by simp)).trans (World.alloc_heap_new w _)
  exact blk_cell h0 rfl

set_option maxHeartbeats 400000 in
set_option maxRecDepth 100000 in
theorem each1_nil (n : Nat) (l b1 b2 : Nat) (W : World) (hBn : W.cell? ⟨b1, 0, none⟩ = some (.slice none 0 0)) :
    CallsIn Fence.wide n Try.prog 53 #[.func (.yield l) #[] #[], .pointer (some ⟨b1, 0, none⟩), .pointer (some ⟨b2, 0, none⟩)] W fun e W' => (∃ v, e = .returned v) ∧ W' = W := by
  refine callsIn_of_wp Try.func53 rfl trivial ?_ rfl
  simp only [Try.ntmps53, List.size_toArray, List.length_cons, List.length_nil, Nat.reduceAdd, Nat.reduceSub, Array.replicate_succ, Array.replicate_zero, List.push_toArray, List.append_toArray, List.nil_append, List.cons_append]
  gi_wp2
  gi_loopw [4, 5, 8] (fun _ _ i wr => i = .int .i64 0 ∧ wr = W) (fun _ _ _ _ => 0)
  case atStart => exact ⟨rfl, rfl⟩
  case round =>
    obtain ⟨rfl, rfl⟩ := hrel
    gi_wp2
    go_end0
    exact ⟨⟨_, rfl⟩, rfl⟩

theorem each_stops (n : Nat) (b1 b2 : Nat) (w : World) (hBn : w.cell? ⟨b1, 0, none⟩ = some (.slice none 0 0)) :
    SeqStopsK Fence.wide n Try.prog 53 #[.pointer (some ⟨b1, 0, none⟩), .pointer (some ⟨b2, 0, none⟩)] (fun x : Of [] => #[ptrV x.1]) (KpR (.slice none 0 0) []) (fun ys => ys = []) (fun pre => pre <+: []) 0 w := by
  intro l J Jx W hW _ _ hY h0
  have hBn' := (hW.cell (p := ⟨b1, 0, none⟩) (World.block_lt_of_cell? w _ hBn)).trans hBn
  refine (each1_nil n l b1 b2 W hBn').mono ?_
  rintro e W' ⟨hv, rfl⟩
  exact ⟨hv, .inl ⟨[], rfl, h0⟩⟩

end Go.Proofs.Ytcceaokldphfgaa
