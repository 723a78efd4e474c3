/- YtcceaokldphfgaaDiskTwinsC46 -/
import Derived.Test.YtcceaokldphfgaaDiskTwinsC45
namespace Go.Proofs.Ytcceaokldphfgaa
open Go.RowKit Go.Shelf

/-- The clone as it begins: the plan, and no file. -/
theorem cloneD_begin {w W : World} {role : Role} {D T B : Nat} {s : DSt} {v1 v2 v3 : Value} (hd : DiskOK w role D s) (hb : Below w.heap.size w W) (hT : w.heap.size ≤ T)
    (hblk : W.heap[T]? = some (.cells #[.bool true, .bool s.dead, .int .i64 s.crash, v1, v2, v3, .int .i64 s.room, .int .i64 s.ops, .slice none 0 0] 51 (0, 0))) (hB : w.heap.size ≤ B) (hBb : W.heap[B]? = some (.cells #[.pointer (some ⟨T, 0, none⟩)] 29 (0, 0)))
    (n1 : NewI w W v1 s.keep) (n2 : NewI w W v2 s.fail) (n3 : NewI w W v3 s.full) (g1 : ∀ a n c, v1 = .slice (some a) n c → a.block ≠ T) (g2 : ∀ a n c, v2 = .slice (some a) n c → a.block ≠ T) (g3 : ∀ a n c, v3 = .slice (some a) n c → a.block ≠ T) : CloneD w s T B [] W := by
  have hTB : B ≠ T := fun e => by rw [e, hblk] at hBb; simp at hBb
  have hro : ∀ (v : Value) (l : List Int), NewI w W v l → (∀ a n c, v = .slice (some a) n c → a.block ≠ T) → RoV (roleD w W T) v := by
    intro v l hN hne a n c e
    have := hN.2 a n c e
    unfold roleD
    rw [if_neg (by omega), if_neg (hne a n c e), if_pos this.2]
  have hTl := (Array.getElem?_eq_some_iff.1 hblk).1
  have hBl := (Array.getElem?_eq_some_iff.1 hBb).1
  have hdom : ∀ k q, roleD w W T k = some q → w.heap.size ≤ k ∧ k < W.heap.size := fun k q e => by
    unfold roleD at e
    split at e
    · cases e
    · split at e
      · rename_i hk; subst hk; exact ⟨by omega, hTl⟩
      · split at e
        · exact ⟨by omega, by assumption⟩
        · cases e
  refine ⟨⟨roleD w W T, { dead := s.dead, crash := s.crash, keepV := v1, failV := v2, fullV := v3, room := s.room, ops := s.ops, filesV := .slice none 0 0, keep := s.keep, fail := s.fail, full := s.full, fs := [] }, ?_, ⟨fun k q e => (hdom k q e).1, fun k q e => (hdom k q e).2⟩, ?_, hBb, rfl⟩, hb⟩
  · exact {
      rD := by unfold roleD; rw [if_neg (by omega), if_pos rfl]
      blk := hblk
      keep := ⟨n1.1, hro _ _ n1 g1, hd.keep.len, hd.keep.each⟩
      fail := ⟨n2.1, hro _ _ n2 g2, hd.fail.len, hd.fail.each⟩
      full := ⟨n3.1, hro _ _ n3 g3, hd.full.len, hd.full.each⟩
      files := World.ownsRow_nil _ _ _ _
      rfiles := by intro g e; simp [Value.ownBlock] at e
      each := by intro f hf; simp at hf
      nodup := by simp
      dom := fun k q e => (hdom k q e).2 }
  · unfold roleD
    rw [if_neg (by omega), if_neg hTB, if_pos hBl]

/-- What CloneD keeps while the iterator's own memory changes. -/
theorem cloneD_own {w : World} {s : DSt} {T B n : Nat} (hB : w.heap.size ≤ n) : OwnFrom n (fun (pre : List (Of s.fs)) W => CloneD w s T B pre W) := by
  intro pre W W' row h hg hr
  have hn : ∀ r, row = some r → ¬ isC W r := by
    rintro r e ⟨cs, t, fr, hc⟩
    obtain ⟨_, o, ho, hcc⟩ := hr r e
    rw [hc] at ho
    cases ho
    simp [Obj.isCells] at hcc
  obtain ⟨role', s', h1, h2, h3, h4, h5⟩ := h.ex
  have hk : ∀ k q, role' k = some q → isC W k → W'.heap[k]? = W.heap[k]? := fun k q e hc => hg.block k (h1.dom k q e) (fun e' => hn _ e'.symm hc)
  exact ⟨⟨role', s', h1.kept hg.size hk (fun _ _ e => e) (fun k q e => Nat.lt_of_lt_of_le (h1.dom k q e) hg.size), ⟨h2.lo, fun k q e => Nat.lt_of_lt_of_le (h2.hi k q e) hg.size⟩, h3, (hk B _ h3 ⟨_, _, _, h4⟩).trans h4, h5⟩, h.below.grown hg h.below.size (fun k e => Nat.le_trans hB (hr k e).1)⟩

end Go.Proofs.Ytcceaokldphfgaa
