/- YtcceaokldphfgaaDiskTwinsC18 -/
import Derived.Test.YtcceaokldphfgaaDiskTwinsC17
namespace Go.Proofs.Ytcceaokldphfgaa
open Go.RowKit Go.Shelf

def noRole : Role := fun _ => none

def roleD (w w' : World) (D : Nat) : Role := fun k => if k < w.heap.size then none else if k = D then some (0, D) else if k < w'.heap.size then some (6, 0) else none

/-- A disk that has just been made. -/
theorem disk_made {w w' : World} {D : Nat} {s : DSt} (hb : Below w.heap.size w w') (hD : w.heap.size ≤ D) (hblk : w'.heap[D]? = some (.cells #[.bool true, .bool s.dead, .int .i64 s.crash, s.keepV, s.failV, s.fullV, .int .i64 s.room, .int .i64 s.ops, s.filesV] 51 (0, 0)))
    (h1 : NewI w w' s.keepV s.keep) (h2 : NewI w w' s.failV s.fail) (h3 : NewI w w' s.fullV s.full) (g1 : ∀ a n c, s.keepV = .slice (some a) n c → a.block ≠ D) (g2 : ∀ a n c, s.failV = .slice (some a) n c → a.block ≠ D) (g3 : ∀ a n c, s.fullV = .slice (some a) n c → a.block ≠ D)
    (l1 : s.keep.length * 8 ≤ 140737488351232) (l2 : s.fail.length * 8 ≤ 140737488351232) (l3 : s.full.length * 8 ≤ 140737488351232) (e1 : ∀ x ∈ s.keep, I64 x) (e2 : ∀ x ∈ s.fail, I64 x) (e3 : ∀ x ∈ s.full, I64 x)
    (hC : I64 s.crash) (hR : I64 s.room) (hO : s.ops = 0) (hfv : s.filesV = .slice none 0 0) (hfs : s.fs = []) :
    DiskOK w' (roleD w w' D) D s ∧ Stp noRole (roleD w w' D) w w' := by
  have hro : ∀ (v : Value) (l : List Int), NewI w w' v l → (∀ a n c, v = .slice (some a) n c → a.block ≠ D) → RoV (roleD w w' D) v := by
    intro v l hN hne a n c e
    have := hN.2 a n c e
    unfold roleD
    rw [if_neg (by omega), if_neg (hne a n c e), if_pos this.2]
  refine ⟨?_, ?_⟩
  · exact {
      rD := by unfold roleD; rw [if_neg (by omega), if_pos rfl]
      blk := hblk
      keep := ⟨h1.1, hro _ _ h1 g1, l1, e1⟩
      fail := ⟨h2.1, hro _ _ h2 g2, l2, e2⟩
      full := ⟨h3.1, hro _ _ h3 g3, l3, e3⟩
      files := by rw [hfv, hfs]; exact World.ownsRow_nil _ _ _ _
      rfiles := by rw [hfv]; intro g e; simp [Value.ownBlock] at e
      each := by rw [hfs]; intro f hf; simp at hf
      nodup := by rw [hfs]; simp
      sorted := by rw [hfs]; exact List.Pairwise.nil
      dom := by
        intro k q e
        unfold roleD at e
        split at e
        · cases e
        · split at e
          · rename_i hk
            rw [hk]
            exact (Array.getElem?_eq_some_iff.1 hblk).1
          · split at e
            · assumption
            · cases e
      few := by rw [hfs]; simp
      iC := hC
      iR := hR
      iO := by rw [hO]; omega
      nch := by rw [hfs, hO]; simp [nchs] }
  · exact ⟨hb.os, hb.tape, hb.output, hb.size, fun k hk => by unfold roleD noRole; rw [if_pos hk], fun k hk _ => hb.block k hk, fun k hk _ => hb.block k hk⟩

set_option maxHeartbeats 1000000 in
set_option maxRecDepth 100000 in
theorem new_any (crash room : Int) (keepV failV fullV : Value) (keep fail full : List Int) (w : World) (h1 : RdI w keepV keep) (h2 : RdI w failV fail) (h3 : RdI w fullV full)
    (l1 : keep.length * 8 ≤ 140737488351232) (l2 : fail.length * 8 ≤ 140737488351232) (l3 : full.length * 8 ≤ 140737488351232)
    (b1 : ∀ a n c, keepV = .slice (some a) n c → a.block < w.heap.size) (b2 : ∀ a n c, failV = .slice (some a) n c → a.block < w.heap.size) (b3 : ∀ a n c, fullV = .slice (some a) n c → a.block < w.heap.size)
    (e1 : ∀ x ∈ keep, I64 x) (e2 : ∀ x ∈ fail, I64 x) (e3 : ∀ x ∈ full, I64 x) (hC : I64 crash) (hR : I64 room) :
    Calls Try.prog 12 #[.agg #[.int .i64 crash, keepV, failV, fullV, .int .i64 room]] w fun r w' => ∃ D, r = .returned (.pointer (some ⟨D, 0, none⟩)) ∧ w.heap.size ≤ D ∧
      Hid (∃ role s, DiskOK w' role D s ∧ Stp noRole role w w' ∧ s.dead = false ∧ s.crash = crash ∧ s.room = room ∧ s.keep = keep ∧ s.fail = fail ∧ s.full = full ∧ s.ops = 0 ∧ s.fs = []) := by
  have hb0 : Below w.heap.size w (w.alloc (.cells #[.int .i64 crash, keepV, failV, fullV, .int .i64 room] 24)) := (Below.refl _ w).alloc (Nat.le_refl _) _
  have hcp := copyPlan_any crash room keepV failV fullV keep fail full (w.alloc (.cells #[.int .i64 crash, keepV, failV, fullV, .int .i64 room] 24)) (h1.same hb0.size (fun a n c e _ => hb0.block _ (b1 a n c e))) (h2.same hb0.size (fun a n c e _ => hb0.block _ (b2 a n c e))) (h3.same hb0.size (fun a n c e _ => hb0.block _ (b3 a n c e))) l1 l2 l3
    (fun a n c e => by have := b1 a n c e; simp; omega) (fun a n c e => by have := b2 a n c e; simp; omega) (fun a n c e => by have := b3 a n c e; simp; omega)
  have hcp2 : Calls Try.prog 31 #[.agg #[.int .i64 crash, keepV, failV, fullV, .int .i64 room]] (w.alloc (.cells #[.int .i64 crash, keepV, failV, fullV, .int .i64 room] 24)) fun e w' => ∃ v1 v2 v3, e = .returned (.agg #[.int .i64 crash, v1, v2, v3, .int .i64 room]) ∧
      Hid (w.heap.size ≤ w'.heap.size ∧ ∃ role s, DiskOK (w'.alloc (.cells #[.bool true, .bool false, .int .i64 crash, v1, v2, v3, .int .i64 room, .int .i64 0, .slice none 0 0] 51)) role w'.heap.size s ∧ Stp noRole role w (w'.alloc (.cells #[.bool true, .bool false, .int .i64 crash, v1, v2, v3, .int .i64 room, .int .i64 0, .slice none 0 0] 51)) ∧ s.dead = false ∧ s.crash = crash ∧ s.room = room ∧ s.keep = keep ∧ s.fail = fail ∧ s.full = full ∧ s.ops = 0 ∧ s.fs = []) := by
    refine hcp.mono ?_
    rintro e w' ⟨v1, v2, v3, rfl, n1, n2, n3, hb⟩
    have hbw : Below w.heap.size w w' := hb0.trans (hb.mono (by simp))
    have hb2 : Below w'.heap.size w' (w'.alloc (.cells #[.bool true, .bool false, .int .i64 crash, v1, v2, v3, .int .i64 room, .int .i64 0, .slice none 0 0] 51)) := (Below.refl _ w').alloc (Nat.le_refl _) _
    have hbw2 := hbw.trans (hb2.mono hbw.size)
    have hN : ∀ (v : Value) (l : List Int), NewI (w.alloc (.cells #[.int .i64 crash, keepV, failV, fullV, .int .i64 room] 24)) w' v l → NewI w (w'.alloc (.cells #[.bool true, .bool false, .int .i64 crash, v1, v2, v3, .int .i64 room, .int .i64 0, .slice none 0 0] 51)) v l ∧ (∀ a n c, v = .slice (some a) n c → a.block ≠ w'.heap.size) := by
      intro v l hN
      have hN2 := hN.later hb2
      exact ⟨⟨hN2.1, fun a n c e => ⟨by have := (hN2.2 a n c e).1; simp at this; omega, (hN2.2 a n c e).2⟩⟩, fun a n c e => by have := (hN.2 a n c e).2; omega⟩
    obtain ⟨m1, k1⟩ := hN _ _ n1
    obtain ⟨m2, k2⟩ := hN _ _ n2
    obtain ⟨m3, k3⟩ := hN _ _ n3
    obtain ⟨q1, q2⟩ := disk_made (D := w'.heap.size) (s := { dead := false, crash := crash, keepV := v1, failV := v2, fullV := v3, room := room, ops := 0, filesV := .slice none 0 0, keep := keep, fail := fail, full := full, fs := [] }) hbw2 hbw.size (World.alloc_heap_new w' _) m1 m2 m3 k1 k2 k3 l1 l2 l3 e1 e2 e3 hC hR rfl rfl rfl
    exact ⟨v1, v2, v3, rfl, hbw.size, _, _, q1, q2, rfl, rfl, rfl, rfl, rfl, rfl, rfl, rfl⟩
  have HC := hideP hcp2
  obtain ⟨a1, n1, c1, e1⟩ : ∃ a n c, keepV = .slice a n c := by rcases h1 with ⟨e, _⟩ | ⟨b, o, c, e, _⟩ <;> exact ⟨_, _, _, e⟩
  obtain ⟨a2, n2, c2, e2⟩ : ∃ a n c, failV = .slice a n c := by rcases h2 with ⟨e, _⟩ | ⟨b, o, c, e, _⟩ <;> exact ⟨_, _, _, e⟩
  obtain ⟨a3, n3, c3, e3⟩ : ∃ a n c, fullV = .slice a n c := by rcases h3 with ⟨e, _⟩ | ⟨b, o, c, e, _⟩ <;> exact ⟨_, _, _, e⟩
  subst e1 e2 e3
  clear hcp hcp2 h1 h2 h3 b1 b2 b3 hb0
  go_enter Try.func12, Try.ntmps12
  go_wp2_with fail
  refine HC.out.mono ?_
  rintro e w1 ⟨v1, v2, v3, rfl, HF⟩
  go_wp2
  go_ret
  exact ⟨_, rfl, HF.out.1, HF.out.2⟩

end Go.Proofs.Ytcceaokldphfgaa
