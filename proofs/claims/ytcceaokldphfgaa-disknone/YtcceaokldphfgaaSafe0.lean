import Derived.Test.YtcceaokldphfgaaNob
namespace Go.Proofs.Ytcceaokldphfgaa
open Go.RowKit Go.Shelf

theorem nob_still {w w' : World} {p : Option Addr} (h : Nob w p) (hb : Below w.heap.size w w') : Nob w' p := by
  rcases h with rfl | ⟨D, rfl, h⟩
  · exact .inl rfl
  · exact .inr ⟨D, rfl, (hb.block D (Array.getElem?_eq_some_iff.1 h).1).trans h⟩

theorem nob_stops (n : Nat) (hn : 1 ≤ n) (Bn : Nat) {w : World} {p : Option Addr} (h : Nob w p) (hBn : w.cell? ⟨Bn, 0, none⟩ = some (.pointer p)) :
    SeqStopsK Fence.wide n Try.prog 73 #[.pointer (some ⟨Bn, 0, none⟩)] (fun x : Of [] => #[ptrV x.1]) (KpR (.slice none 0 0) []) (fun ys => ys = []) (fun pre => pre <+: []) 0 w := by
  rcases h with rfl | ⟨D, rfl, h⟩
  · exact all_stops_none n Bn w hBn
  · exact all_stops n hn Bn D (.slice none 0 0) [] w (by simp) hBn (blk_cell h rfl) (.inl ⟨rfl, rfl⟩)

theorem safe_nob {w : World} {p : Option Addr} (h : Nob w p) (n : Nat) (hn : 8 ≤ n) :
    CallsIn Fence.wide n Try.prog 22 #[.pointer p] w fun e w' => (∃ a c, e = .returned (.slice a 0 c)) ∧ Below w.heap.size w w' := by
  have h1 : 1 ≤ n := by omega
  refine callsIn_of_wp_marks Try.func22 rfl trivial ?_ rfl
  simp only [Try.ntmps22, List.size_toArray, List.length_cons, List.length_nil, Nat.reduceAdd, Nat.reduceSub, Array.replicate_succ, Array.replicate_zero, List.push_toArray, List.append_toArray, List.nil_append, List.cons_append]
  gi_wp2_with (first | (refine ⟨trivial, ?_⟩; gi_at_call 51; refine (all_in _ _ _).mono ?_; rintro e w' ⟨rfl, rfl⟩))
  obtain ⟨W0, hW0⟩ : ∃ W0, (w.alloc (.cells #[.slice none 0 0] 53)).alloc (.cells #[.pointer p] 29) = W0 := ⟨_, rfl⟩
  have hsz : W0.heap.size = w.heap.size + 2 := by rw [← hW0]; simp
  have hB0 : Below w.heap.size w W0 := by rw [← hW0]; exact ((Below.refl _ w).alloc (Nat.le_refl _) _).alloc (by simp) _
  have hd0 := nob_still h hB0
  have hx0 : W0.heap[w.heap.size]? = some (.cells #[.slice none 0 0] 53 (0, 0)) := by
    rw [← hW0]
    exact (Below.heap_alloc _ _ _ (by simp)).trans (World.alloc_heap_new w _)
  have hx1 : W0.cell? ⟨w.heap.size + 1, 0, none⟩ = some (.pointer p) := by
    rw [← hW0]
    have := (cell_new (W := w.alloc (.cells #[.slice none 0 0] 53)) (.pointer p) 29).1
    rwa [World.size_alloc] at this
  rw [hW0]
  clear hW0
  refine wpIn_rangeFunc_ownG rfl h1 (gf := 73) (lb := #[.pointer (some ⟨w.heap.size + 1, 0, none⟩)]) rfl trivial (enters_of Try.func73 (by kernel_rfl) rfl)
    (nob_stops (n - 1) (by omega) (w.heap.size + 1) hd0 hx1) KpR.trans (KpR.putObj (fun g e => by simp [Value.ownBlock] at e)) (Below.refl _ _) (fun _ => rfl)
    (fun pre W => FilesI w pre W)
    (fun _ _ _ => False)
    (filesI_own (by omega))
    (fun _ _ _ _ _ hs _ _ => hs)
    ⟨⟨none, 0, [], hx0, World.ownsRow_nil _ _ _ _⟩, hB0⟩
    (fun x => absurd x.2 (by simp)) ?assign ?body ?done ?stop
  case assign => exact fun l x => absurd x.2 (by simp)
  case body => exact fun l pre x => absurd x.2 (by simp)
  case done =>
    rintro D' ys W hD rfl hI hK
    obtain ⟨a0, c0, cs0, hbx, _⟩ := hI.ex
    have hbc : W.cell? ⟨w.heap.size, 0, none⟩ = some (.slice a0 0 c0) := blk_cell hbx rfl
    have HB : Hid (Below w.heap.size w (W.putObj D' (.deferred none))) := hI.below.trans (belowK_b (w := w) (Nat.le_refl _) W D' _ _ (by omega) hK rfl rfl)
    clear hbx hI
    gi_wp2
    refine ⟨by simp, .inl ⟨_, _, rfl, run_takeDeferred hK, ?_⟩⟩
    exact ⟨_, results_tmp rfl _ _ _, ⟨_, _, rfl⟩, HB.out⟩
  case stop =>
    rintro D c pre W _ _ h _
    exact h.elim

theorem nob_safe {w : World} {p : Option Addr} (h : Nob w p) :
    Calls Try.prog 22 #[.pointer p] w fun e w' => (∃ a c, e = .returned (.slice a 0 c)) ∧ Below w.heap.size w w' :=
  callsIn_wide.1 (safe_nob h 10 (by omega))

end Go.Proofs.Ytcceaokldphfgaa
