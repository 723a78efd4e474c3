/-
  Numbers that items tell.
-/
import Derived.Test.YtigebmidfddbcaaRlpMeansC28
import Derived.Test.YtigebmidfddbcaaRlpMeansC15
namespace Go.Proofs.Ytigebmidfddbcaa
open Go.RowKit Go.Shelf

/-- An address within a block, or none. -/
def Flat (ao : Option Addr) : Prop := ao = none ∨ ∃ g o, ao = some ⟨g, o, none⟩

theorem BS.flat {w : World} {ao : Option Addr} {n c : Nat} {bs : Nat → Nat} (h : BS w ao n c bs) (h0 : 0 < n) : Flat ao := by
  obtain ⟨ad, rfl, hc⟩ := h.cell 0 h0
  rw [show ad.add 0 = ad from rfl] at hc
  obtain ⟨g, o, s⟩ := ad
  cases s with
  | none => exact Or.inr ⟨g, o, rfl⟩
  | some x =>
    unfold World.cell? at hc
    split at hc
    · simp at hc
    · cases hc

set_option maxHeartbeats 4000000 in
set_option maxRecDepth 100000 in
theorem read_zero (ao : Option Addr) (c : Nat) (w : World) : Calls Try.prog 76 #[.slice ao 0 c] w fun e w' => e = .returned (.tuple #[wv 0, .int .i64 0]) ∧ Below w.heap.size w w' := by
  go_enter Try.func76, Try.ntmps76
  go_wp2_with fail
  go_loopw [12] (fun i wr => i = .int .i64 0 ∧ wr = (w.alloc (.cells #[.int .u64 0, .int .u64 0, .int .u64 0, .int .u64 0] 59 (0, 0))).alloc (.cells #[.int .u64 0, .int .u64 0, .int .u64 0, .int .u64 0] 59 (0, 0))) (fun _ _ => 0)
  case atStart => exact ⟨rfl, rfl⟩
  case round =>
    obtain ⟨rfl, rfl⟩ := hrel
    go_wp2_with fail
    refine bodyPost_ret (v := .tuple #[.agg #[.int .u64 0, .int .u64 0, .int .u64 0, .int .u64 0], .int .i64 0]) (by simp [results, Try.results76, go_sem]) rfl ⟨rfl, ?_⟩
    repeat first | exact Below.refl _ _ | (refine Below.alloc ?_ (by simp <;> omega) _) | (refine Below.setCell ?_ (by simp <;> omega) _)

theorem read_BS {ao : Option Addr} {n c : Nat} {bs : Nat → Nat} (w : World) (h : BS w ao n c bs) (hn : n ≤ 32) : Calls Try.prog 76 #[.slice ao n c] w fun e w' => e = .returned (.tuple #[wv (rdv bs n n), .int .i64 0]) ∧ Below w.heap.size w w' := by
  by_cases h0 : n = 0
  · subst h0
    exact read_zero ao c w
  · rcases h.flat (by omega) with rfl | ⟨g, o, rfl⟩
    · have hc := h.nil rfl
      have hle := h.le
      omega
    · obtain ⟨ad, e, hc⟩ := h.cell 0 (by omega)
      cases e
      have hg : g < w.heap.size := by
        have := World.block_lt_of_cell? w _ hc
        simpa [Addr.add] using this
      refine read_any bs h.lt n c g o hn w hg (fun j hj => ?_)
      obtain ⟨ad, e, hc⟩ := h.cell j hj
      cases e
      rw [Addr.add_mid] at hc
      exact hc

/-- The number that an item tells, and the error. -/
def rn (l : Int) (n : Nat) (bs : Nat → Nat) (most : Nat) : Nat × Nat :=
  if l ≠ 0 then (0, 45) else if most < n then (0, 46) else if 0 < n ∧ bs 0 = 0 then (0, 42) else (rdv bs n n, 0)

set_option maxHeartbeats 4000000 in
set_option maxRecDepth 100000 in
theorem readNumber_any {l : Int} {ao ao' : Option Addr} {n c nk c' most : Nat} {bs : Nat → Nat} (w : World) (h : BS w ao n c bs) (hm : most ≤ 32) :
    Calls Try.prog 61 #[.agg #[.int .i64 l, .slice ao n c, .slice ao' nk c'], .int .i64 most] w fun e w' => e = .returned (.tuple #[wv (rn l n bs most).1, .int .i64 (rn l n bs most).2]) ∧ Below w.heap.size w w' := by
  have END : Hid (∀ o1 o2, Below w.heap.size w ((w.alloc o1).alloc o2)) := fun o1 o2 => ((Below.refl _ w).alloc (Nat.le_refl _) _).alloc (by simp) _
  by_cases h1 : l = 0
  · subst h1
    by_cases h2 : most < n
    · have HR : Hid (rn 0 n bs most = (0, 46)) := by show _ = _; unfold rn; rw [if_neg (fun h => h rfl), if_pos h2]
      have g : (n : Int) > (most : Int) := by omega
      have g' : (most : Int) < (n : Int) := by omega
      clear h hm h2
      go_enter Try.func61, Try.ntmps61
      go_wp2_with fail
      refine bodyPost_ret (v := .tuple #[.agg #[.int .u64 0, .int .u64 0, .int .u64 0, .int .u64 0], .int .i64 46]) (by simp [results, Try.results61, go_sem]) rfl ⟨by rw [HR.out]; rfl, ?_⟩
      repeat first | exact Below.refl _ _ | (refine Below.alloc ?_ (by simp <;> omega) _) | (refine Below.setCell ?_ (by simp <;> omega) _)
    · have g : ¬ (n : Int) > (most : Int) := by omega
      have g' : ¬ (most : Int) < (n : Int) := by omega
      by_cases h3 : 0 < n ∧ bs 0 = 0
      · have HR : Hid (rn 0 n bs most = (0, 42)) := by show _ = _; unfold rn; rw [if_neg (fun h => h rfl), if_neg h2, if_pos h3]
        obtain ⟨ad, rfl, hc0⟩ := h.cell 0 h3.1
        have hc : w.cell? ad = some (.int .u8 (bs 0)) := by simpa [Addr.add] using hc0
        rw [h3.2] at hc
        have hc' : w.cell? ad = some (.int .u8 0) := hc
        have hcl : ad.block < w.heap.size := World.block_lt_of_cell? w _ hc
        have g3 : (n : Int) > 0 := by omega
        have g3' : (0 : Int) < (n : Int) := by omega
        clear h hm h2 h3 hc0 hc
        go_enter Try.func61, Try.ntmps61
        go_wp2_with fail
        refine bodyPost_ret (v := .tuple #[.agg #[.int .u64 0, .int .u64 0, .int .u64 0, .int .u64 0], .int .i64 42]) (by simp [results, Try.results61, go_sem]) rfl ⟨by rw [HR.out]; rfl, ?_⟩
        repeat first | exact Below.refl _ _ | (refine Below.alloc ?_ (by simp <;> omega) _) | (refine Below.setCell ?_ (by simp <;> omega) _)
      · have HR : Hid (rn 0 n bs most = (rdv bs n n, 0)) := by show _ = _; unfold rn; rw [if_neg (fun h => h rfl), if_neg h2, if_neg h3]
        have cr := fun W (hW : Below w.heap.size w W) => read_BS W (h.moved hW) (by omega)
        obtain ⟨r0, r1, r2, r3, hr⟩ := wv_form (rdv bs n n)
        simp only [hr] at cr
        have HWR := hideP hr
        have CR := hideP cr
        have TAIL : Hid (∀ W0 : World, Below w.heap.size w W0 → W0.heap[w.heap.size + 1]? = some (.cells #[.int .u64 0, .int .u64 0, .int .u64 0, .int .u64 0] 59 (0, 0)) → True) := fun _ _ _ => trivial
        by_cases h0 : n = 0
        · subst h0
          have g3 : ¬ ((0 : Nat) : Int) > 0 := by omega
          clear h hm h2 h3 cr hr TAIL
          go_enter Try.func61, Try.ntmps61
          go_wp2_with fail
          refine at_world_q (fun W0 hW0 => ?_)
          have HBr : W0.heap[w.heap.size + 1]? = some (.cells #[.int .u64 0, .int .u64 0, .int .u64 0, .int .u64 0] 59 (0, 0)) := by
            rw [hW0]; exact heap_new1 _ _ _
          have HBW : Hid (Below w.heap.size w W0) := by rw [hW0]; exact END.out _ _
          clear hW0
          refine (CR.out _ HBW.out).mono ?_
          rintro e W1 ⟨rfl, hb⟩
          replace HBr := (hb.block _ (lt_of_block HBr)).trans HBr
          replace HBW := hideP (HBW.out.trans (hb.mono HBW.out.size))
          obtain ⟨j0, j1, j2, j3⟩ := cells4 HBr
          have jf : ∀ o, W1.frozen? ⟨w.heap.size + 1, o, none⟩ = false := fun o => blk_free HBr
          clear hb HBr
          go_wp2_with fail
          refine bodyPost_ret (v := .tuple #[.agg #[.int .u64 r0, .int .u64 r1, .int .u64 r2, .int .u64 r3], .int .i64 0]) (by simp [results, Try.results61, go_sem, j0, j1, j2, j3, World.cell?_setCell_same]) rfl ⟨by rw [HR.out]; show _ = Ending.returned (.tuple #[wv (rdv bs 0 0), .int .i64 0]); rw [HWR.out], ?_⟩
          repeat first | exact HBW.out | (refine Below.setCell ?_ (by simp <;> omega) _)
        · have hb0 : bs 0 ≠ 0 := fun e => h3 ⟨by omega, e⟩
          obtain ⟨ad, rfl, hc0⟩ := h.cell 0 (by omega)
          have hc : w.cell? ad = some (.int .u8 (bs 0)) := by simpa [Addr.add] using hc0
          have hcl : ad.block < w.heap.size := World.block_lt_of_cell? w _ hc
          have g3 : (n : Int) > 0 := by omega
          have g3' : (0 : Int) < (n : Int) := by omega
          have g4 : ¬ ((bs 0 : Nat) : Int) = 0 := by omega
          have g4' : (((bs 0 : Nat) : Int) == 0) = false := beq_eq_false_iff_ne.2 g4
          generalize hq : bs 0 = q at *
          clear h hm h2 h3 cr hr TAIL hc0 h0 hb0 hq
          go_enter Try.func61, Try.ntmps61
          go_wp2_with fail
          refine at_world_q (fun W0 hW0 => ?_)
          have HBr : W0.heap[w.heap.size + 1]? = some (.cells #[.int .u64 0, .int .u64 0, .int .u64 0, .int .u64 0] 59 (0, 0)) := by
            rw [hW0]; exact heap_new1 _ _ _
          have HBW : Hid (Below w.heap.size w W0) := by rw [hW0]; exact END.out _ _
          clear hW0
          refine (CR.out _ HBW.out).mono ?_
          rintro e W1 ⟨rfl, hb⟩
          replace HBr := (hb.block _ (lt_of_block HBr)).trans HBr
          replace HBW := hideP (HBW.out.trans (hb.mono HBW.out.size))
          obtain ⟨j0, j1, j2, j3⟩ := cells4 HBr
          have jf : ∀ o, W1.frozen? ⟨w.heap.size + 1, o, none⟩ = false := fun o => blk_free HBr
          clear hb HBr hc hcl
          go_wp2_with fail
          refine bodyPost_ret (v := .tuple #[.agg #[.int .u64 r0, .int .u64 r1, .int .u64 r2, .int .u64 r3], .int .i64 0]) (by simp [results, Try.results61, go_sem, j0, j1, j2, j3, World.cell?_setCell_same]) rfl ⟨by rw [HR.out]; show _ = Ending.returned (.tuple #[wv (rdv bs n n), .int .i64 0]); rw [HWR.out], ?_⟩
          repeat first | exact HBW.out | (refine Below.setCell ?_ (by simp <;> omega) _)
  · have HR : Hid (rn l n bs most = (0, 45)) := by show _ = _; unfold rn; rw [if_pos h1]
    have g : (l == 0) = false := beq_eq_false_iff_ne.2 h1
    clear h hm
    go_enter Try.func61, Try.ntmps61
    go_wp2_with fail
    refine bodyPost_ret (v := .tuple #[.agg #[.int .u64 0, .int .u64 0, .int .u64 0, .int .u64 0], .int .i64 45]) (by simp [results, Try.results61, go_sem]) rfl ⟨by rw [HR.out]; rfl, ?_⟩
    repeat first | exact Below.refl _ _ | (refine Below.alloc ?_ (by simp <;> omega) _) | (refine Below.setCell ?_ (by simp <;> omega) _)

end Go.Proofs.Ytigebmidfddbcaa
