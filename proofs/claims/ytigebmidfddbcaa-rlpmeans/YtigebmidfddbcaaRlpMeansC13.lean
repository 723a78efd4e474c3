/-
  Encode: the form of an item, or why there is none.
-/
import Derived.Laws.MakeOwn
import Derived.Test.YtigebmidfddbcaaRlpMeansC12
namespace Go.Proofs.Ytigebmidfddbcaa
open Go.RowKit Go.Shelf

theorem chk_zero {l : Int} {nb nk w : Nat} (h : chk l nb nk w = 0) : (l = 0 ∧ nk = 0) ∨ (l = 1 ∧ nb = 0) := by
  unfold chk at h
  repeat' split at h
  all_goals first | omega | (simp_all; done) | (rename_i h1; simp at h1; omega)

mutual
theorem Tree.meas_enc : ∀ (t : Tree) (w : Nat), (t.meas w).2 = 0 → (t.meas w).1 = t.enc.length
  | .node l b k, w, h => by
    unfold Tree.meas at h ⊢
    unfold Tree.enc
    by_cases hc : chk l b.length k.length w = 0
    · rw [if_neg (by simp [hc])] at h ⊢
      by_cases h1 : b.length = 1 ∧ lb b 0 < 128
      · rw [if_pos h1, if_pos h1, List.length_append]
        rcases chk_zero hc with ⟨_, hk⟩ | ⟨_, hb⟩
        · obtain rfl := List.eq_nil_of_length_eq_zero hk
          simp [Tree.encs, h1.1]
        · omega
      · rw [if_neg h1] at h ⊢
        rw [if_neg h1]
        by_cases h2 : (Tree.measK k (w + 1) b.length).2 = 0
        · rw [if_neg (by simp [h2])]
          have := Tree.measK_enc k (w + 1) b.length h2
          rw [List.length_append, hdB_length, this, List.length_append]
        · rw [if_pos h2] at h
          exact absurd h h2
    · rw [if_pos hc] at h
      exact absurd h hc

theorem Tree.measK_enc : ∀ (k : List Tree) (w acc : Nat), (Tree.measK k w acc).2 = 0 → (Tree.measK k w acc).1 = acc + (Tree.encs k).length
  | [], w, acc, _ => by simp [Tree.measK, Tree.encs]
  | t :: ts, w, acc, h => by
    unfold Tree.measK at h ⊢
    by_cases h1 : (Tree.meas t w).2 = 0
    · rw [if_neg (by simp [h1])] at h ⊢
      have h3 := Tree.measK_enc ts w _ h
      have h2 := Tree.meas_enc t w h1
      rw [h3, h2, Tree.encs_cons, List.length_append]
      omega
    · rw [if_pos h1] at h
      exact absurd h h1

end

mutual
theorem Tree.enc_le : ∀ (t : Tree), t.wt < 9223372036854775807 → t.enc.length ≤ t.wt
  | .node l b k, h => by
    unfold Tree.wt at h ⊢
    unfold Tree.enc
    have h1 := Tree.encs_le k (by omega)
    have h2 := (hsz_le (n := (b ++ Tree.encs k).length) (by rw [List.length_append]; omega)).2
    split
    · rw [List.length_append]; omega
    · rw [List.length_append, hdB_length]
      rw [List.length_append] at h2 ⊢
      omega

theorem Tree.encs_le : ∀ (k : List Tree), Tree.wts k < 9223372036854775807 → (Tree.encs k).length ≤ Tree.wts k
  | [], _ => by simp [Tree.encs, Tree.wts]
  | t :: ts, h => by
    unfold Tree.wts at h ⊢
    have h1 := Tree.enc_le t (by omega)
    have h2 := Tree.encs_le ts (by omega)
    rw [Tree.encs_cons, List.length_append]
    omega

end

theorem made_bytes (n : Nat) : madeCells (Value.cells (.int .u8 0)) n = cbs n (fun _ => 0) := by
  apply Array.ext
  · simp [madeCells, cbs]
  · intro i h1 h2
    simp [madeCells, cbs, Value.cells, Nat.mod_one]

theorem cbs_congr {n : Nat} {g h : Nat → Nat} (e : ∀ i, i < n → g i = h i) : cbs n g = cbs n h := by
  unfold cbs
  refine congrArg List.toArray (List.map_congr_left fun i hi => ?_)
  rw [e i (List.mem_range.1 hi)]

/-- A row of noughts. -/
theorem make_bytes (n : Nat) (hn : n ≤ 140737488355328) (W : World) : (Instr.makeSlice 23 (.int .i64 (n : Int)) (.int .i64 (n : Int))).run Try.prog W = .ok (.slice (some ⟨W.heap.size, 0, none⟩) n n) (W.alloc (.cells (cbs n (fun _ => 0)) 5)) := by
  obtain ⟨i0, hi, hz0, hz1, hz2⟩ := info_parts Try.bytes5
  have hT : Try.prog.underlying 23 = some (.slice 5) := by kernel_rfl
  have := run_make (P := Try.prog) W 23 5 i0 (.int .u8 0) hT hi hz0 .i64 .i64 n n (by omega) (Int.le_refl _) (by rw [hz2]; omega) (by omega)
  rw [this, hz1, Nat.mul_one, Int.toNat_natCast, made_bytes]

set_option maxHeartbeats 1000000 in
set_option maxRecDepth 100000 in
theorem size_any {t : Tree} {v : Value} (w : World) (hI : IsItem w t v) (hW : t.wt ≤ 140737488355328) (hN : t.num ≤ 140737488355328) :
    Calls Try.prog 16 #[v] w fun e w' => e = .returned (.tuple #[.int .i64 (t.meas 0).1, .int .i64 (t.meas 0).2]) ∧ Below w.heap.size w w' := by
  cases t with
  | node l b k =>
  have hc := fun W (hb : Below w.heap.size w W) => measure_all (Tree.node l b k).num (.node l b k) 0 v W (Nat.le_refl _) (hI.moved hb) (by omega) (by omega)
  obtain ⟨ao, c, ao', c', rfl, _, _, _⟩ := hI.form
  have hb1 : Below w.heap.size w (w.alloc (.cells #[.int .i64 l, .slice ao b.length c, .slice ao' k.length c'] 26 (0, 0))) := (Below.refl _ w).alloc (Nat.le_refl _) _
  have HC := hideP (hc _ hb1)
  have HB := hideP hb1
  clear hI hW hN hc hb1
  generalize (Tree.node l b k).meas 0 = r at *
  go_enter Try.func16, Try.ntmps16
  go_wp2_with fail
  refine HC.out.mono ?_
  rintro e w' ⟨rfl, hb⟩
  have HL : Hid (Below w.heap.size w w') := HB.out.trans (hb.mono (by simp))
  clear hb
  go_wp2_with fail
  go_ret2
  exact ⟨rfl, HL.out⟩

/-- What Encode answers. -/
def EncOut (N : Nat) (w' : World) (t : Tree) (r : Value) : Prop :=
  ((t.meas 0).2 ≠ 0 ∧ r = .slice none 0 0) ∨ ((t.meas 0).2 = 0 ∧ ∃ G, r = .slice (some ⟨G, 0, none⟩) t.enc.length t.enc.length ∧ N ≤ G ∧ w'.heap[G]? = some (.cells (cbs t.enc.length (lb t.enc)) 5 (0, 0)))

set_option maxHeartbeats 4000000 in
set_option maxRecDepth 100000 in
theorem encode_any {t : Tree} {v : Value} (w : World) (hI : IsItem w t v) (hW : t.wt ≤ 140737488355328) (hN : t.num ≤ 140737488355328) :
    Calls Try.prog 15 #[v] w fun e w' => (∃ r, e = .returned (.tuple #[r, .int .i64 (t.meas 0).2]) ∧ EncOut w.heap.size w' t r) ∧ Below w.heap.size w w' := by
  cases t with
  | node l b k =>
  have hle := Tree.enc_le (.node l b k) (by omega)
  have hme := Tree.meas_enc (.node l b k) 0
  have hcI := fun W P G n a g => item_all (Tree.node l b k).num (.node l b k) w W v P G n a g (Nat.le_refl _) hI
  have hcS := fun W (hb : Below w.heap.size w W) => size_any W (hI.moved hb) hW hN
  obtain ⟨ao, c, ao', c', rfl, _, _, _⟩ := hI.form
  have hb1 : Below w.heap.size w (w.alloc (.cells #[.int .i64 l, .slice ao b.length c, .slice ao' k.length c'] 26 (0, 0))) := (Below.refl _ w).alloc (Nat.le_refl _) _
  have hbx : (w.alloc (.cells #[.int .i64 l, .slice ao b.length c, .slice ao' k.length c'] 26 (0, 0))).heap[w.heap.size]? = some (.cells #[.int .i64 l, .slice ao b.length c, .slice ao' k.length c'] 26 (0, 0)) := heap_new _ _
  have HC := hideP (hcS _ hb1)
  have HB := hideP hb1
  have HCI := hideP hcI
  have HBX := hideP hbx
  generalize ht : Tree.node l b k = t at *
  have HT := hideP ht
  generalize hm2 : (t.meas 0).2 = m2 at *
  have HM2 := hideP hm2
  have HME := hideP hme
  have HLE := hideP hle
  have HW := hideP hW
  clear hI hW hN hcS hb1 ht hm2 hme hcI hbx hle
  by_cases h0 : m2 = 0
  · subst h0
    rw [HME.out rfl] at HC
    have hmk := make_bytes t.enc.length (Nat.le_trans HLE.out HW.out)
    generalize hn : t.enc.length = n at *
    have HNN := hideP hn
    clear hn
    go_enter Try.func15, Try.ntmps15
    go_wp2_with fail
    refine HC.out.mono ?_
    rintro e w' ⟨rfl, hb⟩
    have HL : Hid (Below w.heap.size w w') := HB.out.trans (hb.mono (by simp))
    have hbx' := (hb.block _ (by simp)).trans HBX.out
    clear hb
    have hlt := lt_of_block hbx'
    generalize hW2 : (w'.alloc (.cells (cbs n fun _ => 0) 5)).alloc (.cells #[.slice (some ⟨w'.heap.size, 0, none⟩) n n, .int .i64 n] 93) = W2
    have hsz : (w'.alloc (.cells (cbs n fun _ => 0) 5)).heap.size = w'.heap.size + 1 := by simp
    have hbW : Below w'.heap.size w' W2 := by
      rw [← hW2]; exact ((Below.refl _ w').alloc (Nat.le_refl _) _).alloc (by omega) _
    have hG : W2.heap[w'.heap.size]? = some (.cells (cbs n fun _ => 0) 5 (0, 0)) := by
      rw [← hW2]; exact (heap_old _ _ (by omega)).trans (heap_new _ _)
    have hP : W2.heap[w'.heap.size + 1]? = some (.cells #[.slice (some ⟨w'.heap.size, 0, none⟩) n n, .int .i64 n] 93 (0, 0)) := by
      rw [← hW2, ← hsz]; exact heap_new _ _
    obtain ⟨y0, y1, y2⟩ := cells3 ((hbW.block _ hlt).trans hbx')
    have hcall := HCI.out W2 (w'.heap.size + 1) w'.heap.size n 0 (fun _ => 0) (HL.out.trans (hbW.mono (by omega))) (by omega) (by omega) (by rw [Nat.zero_add]; exact ⟨hP, hG, by omega, by omega, by have h1 := HLE.out; have h2 := HW.out; omega⟩)
    have HCALL := hideP hcall
    have HBW := hideP hbW
    rw [← hW2] at y0 y1 y2
    have HW2 := hideP hW2
    clear hcall hbW hG hP hsz hbx' hlt hW2
    go_wp2_with fail
    rw [HW2.out]
    refine HCALL.out.mono ?_
    rintro e w3 ⟨rfl, hr, hf⟩
    have z0 := blk_cell hr.p (o := 0) rfl
    have HF := hideP hf
    have HR := hideP hr
    clear hr hf
    go_wp2_with fail
    go_ret2
    have hlt : w.heap.size ≤ w'.heap.size := HL.out.size
    refine ⟨⟨_, rfl, Or.inr ⟨HM2.out, w'.heap.size, by rw [HNN.out]; rfl, hlt, ?_⟩⟩, ?_⟩
    · rw [HNN.out, HR.out.f]
      refine congrArg (fun x => some (Obj.cells x 5 (0, 0))) (cbs_congr fun i hi => ?_)
      unfold wrt lb
      rw [if_pos ⟨Nat.zero_le _, by rw [HNN.out]; omega⟩, Nat.sub_zero]
    · exact (HL.out.trans (HBW.out.mono hlt)).trans (HF.out.below.mono (by omega))
  · have h0' : ¬ ((m2 : Nat) : Int) = 0 := by omega
    generalize (t.meas 0).1 = m1 at *
    go_enter Try.func15, Try.ntmps15
    go_wp2_with fail
    refine HC.out.mono ?_
    rintro e w' ⟨rfl, hb⟩
    have HL : Hid (Below w.heap.size w w') := HB.out.trans (hb.mono (by simp))
    clear hb
    go_wp2_with fail
    go_ret2
    exact ⟨⟨_, rfl, Or.inl ⟨by rw [HM2.out]; exact h0, rfl⟩⟩, HL.out⟩

end Go.Proofs.Ytigebmidfddbcaa
