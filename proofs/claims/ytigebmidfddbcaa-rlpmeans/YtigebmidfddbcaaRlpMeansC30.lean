/-
  Items of numbers and words, and what they tell.
-/
import Derived.Test.YtigebmidfddbcaaRlpMeansC29
namespace Go.Proofs.Ytigebmidfddbcaa
open Go.RowKit Go.Shelf

theorem rn_lt8 (l : Int) (n : Nat) (bs : Nat → Nat) (hbs : ∀ j, bs j < 256) : (rn l n bs 8).1 < 18446744073709551616 := by
  unfold rn
  by_cases h1 : l ≠ 0
  · rw [if_pos h1]; decide
  · rw [if_neg h1]
    by_cases h2 : 8 < n
    · rw [if_pos h2]; decide
    · rw [if_neg h2]
      by_cases h3 : 0 < n ∧ bs 0 = 0
      · rw [if_pos h3]; decide
      · rw [if_neg h3]
        show rdv bs n n < _
        exact Nat.lt_of_lt_of_le (rdv_lt bs n hbs n) (Nat.le_trans (Nat.pow_le_pow_right (by decide) (show 8 * n ≤ 64 by omega)) (by decide))

theorem wv_first {X : Nat} (h : X < 18446744073709551616) : ∃ a b c : Int, wv X = .agg #[.int .u64 X, .int .u64 a, .int .u64 b, .int .u64 c] := by
  rw [wv_limb]
  have h0 : limb X 0 = X := by
    unfold limb
    rw [Nat.pow_zero, Nat.div_one, Nat.mod_eq_of_lt h]
  rw [h0]
  exact ⟨_, _, _, rfl⟩

set_option maxHeartbeats 4000000 in
set_option maxRecDepth 100000 in
theorem asNumber_any {l : Int} {ao ao' : Option Addr} {n c nk c' : Nat} {bs : Nat → Nat} (w : World) (h : BS w ao n c bs) :
    Calls Try.prog 27 #[.agg #[.int .i64 l, .slice ao n c, .slice ao' nk c']] w fun e w' => e = .returned (.tuple #[.int .u64 (rn l n bs 8).1, .int .i64 (rn l n bs 8).2]) ∧ Below w.heap.size w w' := by
  have cr := fun W (hW : Below w.heap.size w W) => readNumber_any (l := l) (ao' := ao') (nk := nk) (c' := c') (most := 8) W (h.moved hW) (by omega)
  obtain ⟨a, b, d, hr⟩ := wv_first (rn_lt8 l n bs h.lt)
  simp only [hr] at cr
  have CR := hideP cr
  clear cr hr h
  generalize (rn l n bs 8).1 = q0 at *
  generalize (rn l n bs 8).2 = q1 at *
  go_enter Try.func27, Try.ntmps27
  go_wp2_with fail
  refine at_world_q (fun W0 hW0 => ?_)
  have HBW : Hid (Below w.heap.size w W0) := by
    show Below _ _ _
    rw [hW0]
    repeat first | exact Below.refl _ _ | (refine Below.alloc ?_ (by simp <;> omega) _)
  clear hW0
  refine (CR.out _ HBW.out).mono ?_
  rintro e W1 ⟨rfl, hb⟩
  replace HBW := hideP (HBW.out.trans (hb.mono HBW.out.size))
  have HEND : Hid (∀ o, Below w.heap.size w (W1.alloc o)) := fun o => HBW.out.alloc HBW.out.size o
  clear hb
  go_wp2_with fail
  go_ret2
  exact ⟨rfl, HEND.out _⟩

set_option maxHeartbeats 4000000 in
set_option maxRecDepth 100000 in
theorem asWhole_any {l : Int} {ao ao' : Option Addr} {n c nk c' : Nat} {bs : Nat → Nat} (w : World) (h : BS w ao n c bs) :
    Calls Try.prog 29 #[.agg #[.int .i64 l, .slice ao n c, .slice ao' nk c']] w fun e w' => e = .returned (.tuple #[wv (rn l n bs 32).1, .int .i64 (rn l n bs 32).2]) ∧ Below w.heap.size w w' := by
  have cr := fun W (hW : Below w.heap.size w W) => readNumber_any (l := l) (ao' := ao') (nk := nk) (c' := c') (most := 32) W (h.moved hW) (by omega)
  obtain ⟨r0, r1, r2, r3, hr⟩ := wv_form (rn l n bs 32).1
  simp only [hr] at cr ⊢
  have CR := hideP cr
  clear cr hr h
  generalize (rn l n bs 32).2 = q1 at *
  go_enter Try.func29, Try.ntmps29
  go_wp2_with fail
  refine at_world_q (fun W0 hW0 => ?_)
  have HBr : W0.heap[w.heap.size + 1]? = some (.cells #[.int .u64 0, .int .u64 0, .int .u64 0, .int .u64 0] 59 (0, 0)) := by
    rw [hW0]; exact heap_new1 _ _ _
  have HBW : Hid (Below w.heap.size w W0) := by
    show Below _ _ _
    rw [hW0]
    repeat first | exact Below.refl _ _ | (refine Below.alloc ?_ (by simp <;> omega) _)
  clear hW0
  refine (CR.out _ HBW.out).mono ?_
  rintro e W1 ⟨rfl, hb⟩
  replace HBr := (hb.block _ (lt_of_block HBr)).trans HBr
  replace HBW := hideP (HBW.out.trans (hb.mono HBW.out.size))
  obtain ⟨j0, j1, j2, j3⟩ := cells4 HBr
  have jf : ∀ o, W1.frozen? ⟨w.heap.size + 1, o, none⟩ = false := fun o => blk_free HBr
  clear hb HBr
  go_wp2_with fail
  refine bodyPost_ret (v := .tuple #[.agg #[.int .u64 r0, .int .u64 r1, .int .u64 r2, .int .u64 r3], .int .i64 q1]) (by simp [results, Try.results29, go_sem, j0, j1, j2, j3, World.cell?_setCell_same]) rfl ⟨rfl, ?_⟩
  repeat first | exact HBW.out | (refine Below.setCell ?_ (by simp <;> omega) _)

/-- An item whose bytes are the least ones of a number, in memory of its own. -/
structure LItem (N : Nat) (w : World) (X : Nat) (v : Value) : Prop where
  ex : ∃ g o n c, v = .agg #[.int .i64 0, .slice (some ⟨g, o, none⟩) n c, .slice none 0 0] ∧ N ≤ g ∧ LB X n ∧ BS w (some ⟨g, o, none⟩) n c (lowB X n)

theorem LItem.set {N R : Nat} {w w' : World} {X : Nat} {v : Value} (h : LItem N w X v) (hR : R < N) (hs : ∀ b, b ≠ R → w'.heap[b]? = w.heap[b]?) : LItem N w' X v := by
  obtain ⟨g, o, n, c, rfl, hg, hn, hB⟩ := h.ex
  refine ⟨g, o, n, c, rfl, hg, hn, hB.lt, hB.le, hB.room, fun j hj => ?_, hB.nil⟩
  obtain ⟨ad, e, hcj⟩ := hB.cell j hj
  cases e
  exact ⟨_, rfl, by rw [Addr.add_mid] at hcj ⊢; exact (World.cell?_of_block (w := w) (a := ⟨g, o + j, none⟩) (hs g (by omega))).trans hcj⟩

theorem LItem.mono {N M : Nat} {w : World} {X : Nat} {v : Value} (h : LItem N w X v) (hM : M ≤ N) : LItem M w X v := by
  obtain ⟨g, o, n, c, rfl, hg, hn, hB⟩ := h.ex
  exact ⟨g, o, n, c, rfl, by omega, hn, hB⟩

theorem lowB_lt (X n j : Nat) : lowB X n j < 256 := byt_lt _ _

set_option maxHeartbeats 4000000 in
set_option maxRecDepth 100000 in
theorem whole_any (X : Nat) (w : World) : Calls Try.prog 38 #[wv X] w fun e w' => (∃ v, e = .returned v ∧ LItem w.heap.size w' X v) ∧ Below w.heap.size w w' := by
  have cl := fun W => least_any X W
  obtain ⟨x0, x1, x2, x3, hx⟩ := wv_form X
  simp only [hx] at cl ⊢
  have CL := hideP cl
  clear cl hx
  go_enter Try.func38, Try.ntmps38
  go_wp2_with fail
  refine at_world_q (fun W0 hW0 => ?_)
  have HBr : W0.heap[w.heap.size + 1]? = some (.cells #[.int .i64 0, .slice none 0 0, .slice none 0 0] 26 (0, 0)) := by
    rw [hW0]; exact heap_new1 _ _ _
  have HBW : Hid (Below w.heap.size w W0) := by
    show Below _ _ _
    rw [hW0]
    repeat first | exact Below.refl _ _ | (refine Below.alloc ?_ (by simp <;> omega) _)
  clear hW0
  refine (CL.out _).mono ?_
  rintro e W1 ⟨⟨v, rfl, hv⟩, hb⟩
  have hsz0 := lt_of_block HBr
  replace HBr := (hb.block _ (lt_of_block HBr)).trans HBr
  replace HBW := hideP (HBW.out.trans (hb.mono HBW.out.size))
  obtain ⟨n, cap, g, off, rfl, hn, hgN, hg, hcap, hc32, hc⟩ := hv.ex
  have hg1 : g ≠ w.heap.size + 1 := by omega
  obtain ⟨j0, j1, j2⟩ := cells3 HBr
  have jf : ∀ o, W1.frozen? ⟨w.heap.size + 1, o, none⟩ = false := fun o => blk_free HBr
  have hB : BS W1 (some ⟨g, off, none⟩) n cap (lowB X n) := ⟨lowB_lt X n, hcap, by unfold maxLen; omega, fun j hj => ⟨_, rfl, by rw [Addr.add_mid]; exact hc j hj⟩, fun h => by cases h⟩
  have hit : LItem (w.heap.size + 1 + 1) W1 X (.agg #[.int .i64 0, .slice (some ⟨g, off, none⟩) n cap, .slice none 0 0]) := ⟨g, off, n, cap, rfl, by omega, hn, hB⟩
  have HIT : Hid (∀ W', (∀ b, b ≠ w.heap.size + 1 → W'.heap[b]? = W1.heap[b]?) → LItem w.heap.size W' X (.agg #[.int .i64 0, .slice (some ⟨g, off, none⟩) n cap, .slice none 0 0])) := fun W' hs => (hit.set (by omega) hs).mono (by omega)
  clear hv hn hgN hg hcap hc32 hc hB hsz0 hg1 hb HBr hit
  go_wp2_with fail
  refine bodyPost_ret (v := .agg #[.int .i64 0, .slice (some ⟨g, off, none⟩) n cap, .slice none 0 0]) (by simp [results, Try.results38, go_sem, j0, j1, j2, World.cell?_setCell_same]) rfl ⟨⟨_, rfl, HIT.out _ (fun b hb => ?_)⟩, ?_⟩
  · repeat first | rfl | (refine (Below.heap_setCell _ _ _ _ hb).trans ?_)
  · repeat first | exact HBW.out | (refine Below.setCell ?_ (by simp <;> omega) _)

set_option maxHeartbeats 4000000 in
set_option maxRecDepth 100000 in
theorem number_any (X : Nat) (hX : X < 18446744073709551616) (w : World) : Calls Try.prog 36 #[.int .u64 X] w fun e w' => (∃ v, e = .returned v ∧ LItem w.heap.size w' X v) ∧ Below w.heap.size w w' := by
  have co := fun W => of_any X hX W
  have cw := fun W => whole_any X W
  obtain ⟨x0, x1, x2, x3, hx⟩ := wv_form X
  simp only [hx] at co cw
  have CO := hideP co
  have CW := hideP cw
  clear co cw hx hX
  go_enter Try.func36, Try.ntmps36
  go_wp2_with fail
  refine at_world_q (fun W0 hW0 => ?_)
  have HBr : W0.heap[w.heap.size]? = some (.cells #[.int .i64 0, .slice none 0 0, .slice none 0 0] 26 (0, 0)) := by
    rw [hW0]; exact heap_new _ _
  have HBW : Hid (Below w.heap.size w W0) := by
    show Below _ _ _
    rw [hW0]
    exact (Below.refl _ _).alloc (Nat.le_refl _) _
  clear hW0
  refine (CO.out _).mono ?_
  rintro e W1 ⟨rfl, hb⟩
  replace HBr := (hb.block _ (lt_of_block HBr)).trans HBr
  replace HBW := hideP (HBW.out.trans (hb.mono HBW.out.size))
  clear hb
  go_wp2_with fail
  refine (CW.out _).mono ?_
  rintro e W2 ⟨⟨v, rfl, hv⟩, hb⟩
  have hsz1 := lt_of_block HBr
  replace HBr := (hb.block _ (lt_of_block HBr)).trans HBr
  replace HBW := hideP (HBW.out.trans (hb.mono HBW.out.size))
  obtain ⟨j0, j1, j2⟩ := cells3 HBr
  have jf : ∀ o, W2.frozen? ⟨w.heap.size, o, none⟩ = false := fun o => blk_free HBr
  have HIT : Hid (∀ W', (∀ b, b ≠ w.heap.size → W'.heap[b]? = W2.heap[b]?) → LItem w.heap.size W' X v) := fun W' hs => (hv.set (by omega) hs).mono (by omega)
  obtain ⟨g, o, n, c, rfl, _, _, _⟩ := hv.ex
  clear hv hb hsz1 HBr
  go_wp2_with fail
  refine bodyPost_ret (v := .agg #[.int .i64 0, .slice (some ⟨g, o, none⟩) n c, .slice none 0 0]) (by simp [results, Try.results36, go_sem, j0, j1, j2, World.cell?_setCell_same]) rfl ⟨⟨_, rfl, HIT.out _ (fun b hb => ?_)⟩, ?_⟩
  · repeat first | rfl | (refine (Below.heap_setCell _ _ _ _ hb).trans ?_)
  · repeat first | exact HBW.out | (refine Below.setCell ?_ (by simp <;> omega) _)

end Go.Proofs.Ytigebmidfddbcaa
