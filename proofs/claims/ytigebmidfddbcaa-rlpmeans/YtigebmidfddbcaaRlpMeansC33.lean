/-
  Memory that may be written to: twin's blocks are all such.
-/
import Derived.Test.YtigebmidfddbcaaRlpMeansC27
import Derived.Test.YtigebmidfddbcaaRlpMeansC32
namespace Go.Proofs.Ytigebmidfddbcaa
open Go.RowKit Go.Shelf

/-- From a place on all memory may be written to. -/
def Thaw (N : Nat) (w : World) : Prop := ∀ (k : Nat) (o : Obj), N ≤ k → w.heap[k]? = some o → o.isCells = true → ∃ cs t, o = .cells cs t (0, 0)

theorem Thaw.refl (w : World) : Thaw w.heap.size w := fun k o h1 h2 _ => absurd (lt_of_block h2) (by omega)

theorem Thaw.alloc {N : Nat} {w : World} (h : Thaw N w) (cs : Array Value) (t : TypeId) : Thaw N (w.alloc (.cells cs t (0, 0))) := fun k o h1 h2 h3 => by
  by_cases hk : k < w.heap.size
  · exact h k o h1 ((heap_old w _ hk).symm.trans h2) h3
  · have hl := lt_of_block h2
    rw [World.size_alloc] at hl
    have hk' : k = w.heap.size := by omega
    subst hk'
    rw [heap_new] at h2
    cases h2
    exact ⟨_, _, rfl⟩

theorem Thaw.same {N : Nat} {w w' : World} (h : Thaw N w) (hz : w'.heap = w.heap) : Thaw N w' := fun k o h1 h2 h3 => h k o h1 (by rw [← hz]; exact h2) h3

theorem Thaw.set {N : Nat} {w : World} (h : Thaw N w) (a : Addr) (v : Value) : Thaw N (w.setCell a v) := fun k o h1 h2 h3 => by
  by_cases hk : k = a.block
  · subst hk
    have hl := lt_of_block h2
    rw [World.size_setCell] at hl
    obtain ⟨o0, h0⟩ : ∃ o0, w.heap[a.block]? = some o0 := ⟨_, Array.getElem?_eq_getElem hl⟩
    cases hc : o0.isCells with
    | true =>
      obtain ⟨cs, t, rfl⟩ := h _ _ h1 h0 hc
      simp [World.setCell, Array.getElem?_modify, h0] at h2
      subst h2
      exact ⟨_, _, rfl⟩
    | false =>
      simp only [World.setCell, Array.getElem?_modify, if_true, h0, Option.map_some, Option.some.injEq] at h2
      subst h2
      cases o0 <;> simp [Obj.isCells] at hc h3
  · exact h k o h1 ((Below.heap_setCell _ _ _ _ hk).symm.trans h2) h3

theorem Thaw.call {N : Nat} {W w' : World} (h : Thaw N W) (hb : Below W.heap.size W w') (h' : Thaw W.heap.size w') : Thaw N w' := fun k o h1 h2 h3 => by
  by_cases hk : k < W.heap.size
  · exact h k o h1 ((hb.block k hk).symm.trans h2) h3
  · exact h' k o (by omega) h2 h3

theorem Thaw.mono {N M : Nat} {w : World} (h : Thaw N w) (hM : N ≤ M) : Thaw M w := fun k o h1 h2 h3 => h k o (by omega) h2 h3

theorem Thaw.row {N g : Nat} {w : World} {cs cs' : Array Value} {t : TypeId} (h : Thaw N w) (hg : w.heap[g]? = some (.cells cs t (0, 0))) : Thaw N (w.setRow g cs') := fun k o h1 h2 h3 => by
  by_cases hk : k = g
  · subst hk
    simp [World.setRow, Array.getElem?_modify, hg] at h2
    subst h2
    exact ⟨_, _, rfl⟩
  · refine h k o h1 (Eq.trans ?_ h2) h3
    simp [World.setRow, Array.getElem?_modify, Ne.symm hk]

theorem Thaw.free {N : Nat} {w : World} (h : Thaw N w) {a : Addr} {v : Value} (ha : N ≤ a.block) (hc : w.cell? a = some v) : w.frozen? a = false := by
  obtain ⟨o, ho, hoc⟩ := isCells_of_cell hc
  obtain ⟨cs, t, rfl⟩ := h _ _ ha ho hoc
  simp [World.frozen?, ho]

/-- Bytes behind a slice that has nothing: what comes of memory. -/
theorem fresh_thaw {N : Nat} (w : World) (ty : Nat) (bo : Option Addr) (ao : Option Addr) (n c : Nat) (hn : n ≤ 140737488355328) (bs : Nat → Nat) (hb : BS w ao n c bs) {v' : Value} {w' : World}
    (hrun : (Builtin.append_ #[23, 23] ty #[.slice bo 0 0, .slice ao n c]).run Try.prog w = .ok v' w') (hT : Thaw N w) : Thaw N w' := by
  obtain ⟨i0, hi, hz0, hz1, hz2⟩ := info_parts Try.bytes5
  have hTy : Try.prog.underlying 23 = some (.slice 5) := by kernel_rfl
  by_cases hz : n = 0
  · subst hz
    have hr : (Builtin.append_ #[23, 23] ty #[.slice bo 0 0, .slice ao 0 c]).run Try.prog w = .ok (.slice bo 0 0) w := by
      cases ao with
      | none => exact run_append_nothing (P := Try.prog) w 23 23 ty 5 i0 hTy hi _ 0 0 (Nat.le_refl _) _ (Src.ofNil w hTy c)
      | some a => exact run_append_nothing (P := Try.prog) w 23 23 ty 5 i0 hTy hi _ 0 0 (Nat.le_refl _) _ (Src.ofSlice w hTy a 0 c [] (by simp) (fun j u h => by simp at h) (fun u h => by cases h))
    rw [hr] at hrun
    cases hrun
    exact hT
  · obtain ⟨ad, rfl, _⟩ := hb.cell 0 (by omega)
    have hs : Src Try.prog i0.size 23 (.slice (some ad) n c) n (byR n bs) w := Src.ofSlice w hTy ad n c _ (by rw [byR_len, hz1, Nat.mul_one]) (byR_cells hb) byR_one
    have hcap : Builtin.nextslicecap (0 + n) 0 * i0.bytes ≤ 281474976710656 := by
      rw [hz2, Nat.zero_add]
      unfold Builtin.nextslicecap
      simp
      split <;> omega
    have hold : (Builtin.firstCells i0.size 0 (.slice bo 0 0)).run Try.prog w.drew = .ok ([] : List Value).toArray w.drew := by
      cases bo with
      | none => exact run_firstCells_none w.drew i0.size 0 0 0
      | some a => exact run_firstCells_some w.drew i0.size 0 a 0 0 [] (by simp) (fun j u h => by simp at h)
    have hr := run_append_grow_src (P := Try.prog) w 23 23 ty 5 i0 (.int .u8 0) hTy hi hz0 bo 0 0 [] hold (.slice (some ad) n c) n _ hs (by omega) (by omega) hcap
    rw [hr] at hrun
    cases hrun
    exact (hT.same (w' := w.drew) rfl).alloc _ _

set_option maxHeartbeats 1000000 in
set_option maxRecDepth 100000 in
theorem lawBytes_T {ao : Option Addr} {n c : Nat} {bs : Nat → Nat} (hn : n ≤ 140737488355328) (w : World) (h : BS w ao n c bs) :
    Calls Try.prog 21 #[.slice ao n c] w fun e w' => (∃ v, e = .returned v ∧ Own w.heap.size w' v n bs) ∧ Below w.heap.size w w' ∧ Thaw w.heap.size w' := by
  have hb1 := (Below.refl w.heap.size w).alloc (Nat.le_refl _) (.cells #[] 5 (0, 0))
  have hB := h.moved hb1
  obtain ⟨ao', cap, w', hrun, h1, h2, h3⟩ := append_fresh (w.alloc (.cells #[] 5 (0, 0))) 23 (some ⟨w.heap.size, 0, none⟩) ao n c hn bs hB.lt hB.cell hB.nil
  have HT : Hid (Thaw w.heap.size w') := fresh_thaw _ _ _ _ _ _ hn bs hB hrun ((Thaw.refl w).alloc _ _)
  have hsz : (w.alloc (.cells #[] 5 (0, 0))).heap.size = w.heap.size + 1 := by simp
  have HO : Hid (Own w.heap.size w' (.slice ao' n cap) n bs) := by
    rcases h1 with ⟨rfl, rfl, rfl, rfl⟩ | ⟨h0, rfl⟩
    · exact ⟨_, 0, rfl, BS.empty _ _ _ hB.lt, Or.inr ⟨_, rfl, Nat.le_refl _, by simp⟩⟩
    · have hB := h2 h0
      obtain ⟨ad, e, hc⟩ := hB.cell 0 h0
      cases e
      exact ⟨_, cap, rfl, hB, Or.inr ⟨_, rfl, by omega, by have := World.block_lt_of_cell? w' _ hc; simpa [Addr.add] using this⟩⟩
  have HL : Hid (Below w.heap.size w w') := ((Below.refl _ w).alloc (Nat.le_refl _) _).trans (h3.mono (by omega))
  have HR := hideP hrun
  clear h1 h2 h3 hsz hrun hB hb1 h hn
  go_enter Try.func21, Try.ntmps21
  go_wp2_with (at_builtin; refine wpList_append_run rfl _ _ 23 rfl rfl rfl rfl HR.out ?_)
  go_ret
  exact ⟨⟨_, rfl, HO.out⟩, HL.out, HT.out⟩

/-- One more kid: what comes of memory. -/
theorem kid_thaw {N M : Nat} {w : World} {kv : Value} {ks : List Tree} (h : KR N w kv ks) (hb : (ks.length + 1 + (ks.length + 1) / 4 + 192) * 56 ≤ 281474976710656) {v0 v1 v2 : Value} (hi : ∀ u ∈ [v0, v1, v2], u.oneCell' = true)
    (ad : Addr) (c ty : Nat) (h0 : w.cell? ad = some v0) (h1 : w.cell? (ad.add 1) = some v1) (h2 : w.cell? (ad.add 2) = some v2) {v' : Value} {w' : World}
    (hr : (Builtin.append_ #[24, 24] ty #[kv, .slice (some ad) 1 c]).run Try.prog w = .ok v' w') (hT : Thaw M w) : Thaw M w' := by
  obtain ⟨i0, hif, hz0, hz1, hz2⟩ := info_parts Try.infoItem
  have hTy : Try.prog.underlying 24 = some (.slice 26) := by kernel_rfl
  obtain ⟨vs, hO, h3⟩ := h
  have hnews : ∀ j u, [v0, v1, v2][j]? = some u → w.cell? (ad.add j) = some u := by
    intro j u hu
    match j, hu with
    | 0, hu => cases hu; simpa [Addr.add] using h0
    | 1, hu => cases hu; exact h1
    | 2, hu => cases hu; exact h2
    | (j + 3), hu => simp at hu
  have hs : Src Try.prog i0.size 24 (.slice (some ad) 1 c) 1 [v0, v1, v2] w := Src.ofSlice w hTy ad 1 c _ (by rw [hz1]; rfl) hnews hi
  rcases hO.2 with ⟨rfl, hn0⟩ | ⟨g0, cap0, cur, rfl, hb0, hg0, hle, hroom, hcs, htake⟩
  · have hr2 := run_append_grow_src (P := Try.prog) w 24 24 ty 26 i0 _ hTy hif hz0 none 0 0 [] (run_firstCells_none w.drew i0.size 0 0 0) (.slice (some ad) 1 c) 1 _ hs (by omega) (by omega) (by rw [hz2]; decide)
    rw [hr2] at hr
    cases hr
    exact (hT.same (w' := w.drew) rfl).alloc _ _
  · by_cases hrm : ks.length + 1 ≤ cap0
    · have hr2 := run_append_room (P := Try.prog) w 24 ty 26 i0 hTy hif g0 ks.length cap0 cur hg0 ad 1 c [v0, v1, v2] (by rw [hz1]; rfl) hnews hi hrm (by rw [hz1, hcs]; simp only [List.length_cons, List.length_nil]; omega)
      rw [hr2] at hr
      cases hr
      exact hT.row hg0
    · have hold : (Builtin.firstCells i0.size ks.length (.slice (some ⟨g0, 0, none⟩) ks.length cap0)).run Try.prog w.drew = .ok vs.toArray w.drew := by
        refine run_firstCells_some w.drew i0.size ks.length ⟨g0, 0, none⟩ ks.length cap0 vs (by rw [hz1]; exact hO.1) (fun j u hu => ?_)
        exact hO.cells rfl j u hu
      have hr2 := run_append_grow_src (P := Try.prog) w 24 24 ty 26 i0 _ hTy hif hz0 (some ⟨g0, 0, none⟩) ks.length cap0 vs hold (.slice (some ad) 1 c) 1 _ hs (by omega) (by omega) (by rw [hz2]; exact growslice_fits_wide (by omega) hb)
      rw [hr2] at hr
      cases hr
      exact (hT.same (w' := w.drew) rfl).alloc _ _

end Go.Proofs.Ytigebmidfddbcaa
