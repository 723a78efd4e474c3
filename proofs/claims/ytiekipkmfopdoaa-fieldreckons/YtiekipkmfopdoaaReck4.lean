/-
  Whether a number may be a modulus; lists and arrays of 4 words; a ring's modulus.
-/
import Derived.Test.YtiekipkmfopdoaaRRoot
import Derived.Test.YtiekipkmfopdoaaRNew
import Derived.Test.YtiekipkmfopdoaaEqw4
import Derived.Test.YtiekipkmfopdoaaRoot4
import Derived.Test.YtiekipkmfopdoaaMeth34
namespace Go.Proofs.Ytiekipkmfopdoaa.W4
open Go.RowKit Go.Shelf

theorem LW_box {w : World} {b X : Nat} (h : w.heap[b]? = some (.cells (cs (limb X)) 24 (0, 0))) : LW w (.slice (some ⟨b, 0, none⟩) 4 4) 4 (limb X) :=
  ⟨b, 0, 4, rfl, Nat.le_refl _, by decide, lt_of_block h, fun j hj => by rw [Nat.zero_add]; exact blk_cell h (get (limb X) hj)⟩

set_option maxHeartbeats 1000000 in
set_option maxRecDepth 100000 in
theorem listL_any (X : Nat) (w : World) : Calls Try.prog 30 #[wv X] w fun r w' => (∃ v, r = .returned v ∧ LW w' v 4 (limb X)) ∧ Below w.heap.size w w' := by
  unfold wv cs
  go_enter Try.func30, Try.ntmps30
  refine wp_seqH (fun K0 HK0 => ?_)
  go_wp2_with fail
  refine HK0.out _ _ ?_
  refine at_world (fun W0 hW0 => ?_)
  have hA : W0.heap[w.heap.size]? = some (.cells (cs (limb X)) 24 (0, 0)) := by
    rw [hW0]
    exact heap_new _ _
  have HBW : Hid (Below w.heap.size w W0) := by
    show Below _ _ _
    rw [hW0]
    repeat first | exact Below.refl _ _ | (refine Below.alloc ?_ (by simp <;> omega) _)
  obtain ⟨g, cap, w', hrun, hO, hb⟩ := append_list (by decide) (by decide) (LW_box hA)
  have HU : Hid (LW w' (.slice (some ⟨g, 0, none⟩) 4 cap) 4 (limb X)) := by
    rcases hO with ⟨_, ⟨h, _⟩ | ⟨g2, cap2, cur, e, h1, h2, h3, h4, h5, h6⟩⟩
    · cases h
    · cases e
      refine ⟨g, 0, cap, rfl, h3, h4, lt_of_block h2, fun j hj => ?_⟩
      rw [Nat.zero_add]
      refine blk_cell h2 ?_
      rw [Nat.mul_one] at h6
      have e : cur[j]? = (cur.toList.take 4)[j]? := by
        rw [List.getElem?_take, if_pos hj, Array.getElem?_toList]
      rw [e, h6, wl_get hj]
  have HB := hideP hb
  clear hW0 hA hO hb
  go_wp2_with (refine wpList_append_run rfl _ _ 27 rfl rfl rfl rfl hrun ?_)
  go_ret
  exact ⟨⟨_, rfl, HU.out⟩, HBW.out.trans (HB.out.mono HBW.out.size)⟩

theorem arrayAt_any (g o c : Nat) (W : World) : (Instr.arrayAt 24 (.slice (some ⟨g, o, none⟩) 4 c)).run Try.prog W = .ok (.pointer (some ⟨g, o, none⟩)) W := by
  simp [Instr.arrayAt, run_underlying under]

set_option maxHeartbeats 400000 in
set_option maxRecDepth 100000 in
theorem arrL_any (f : Nat → Nat) (w : World) (v : Value) (h : LW w v 4 f) : Calls Try.prog 13 #[v] w fun r w' => r = .returned (.agg (cs f)) ∧ Below w.heap.size w w' := by
  obtain ⟨g, o, c, rfl, _, _, hlt, hc⟩ := h.ex
  have HC := hideP hc
  clear h hc
  go_enter Try.func13, Try.ntmps13
  refine wp_seqH (fun K0 HK0 => ?_)
  go_wp2_with fail
  refine HK0.out _ _ ?_
  refine at_world (fun W0 hW0 => ?_)
  have hD : W0.heap[w.heap.size]? = some (.cells (cs (fun _ => 0)) 24 (0, 0)) := by
    rw [hW0]
    exact heap_new _ _
  have HBW : Hid (Below w.heap.size w W0) := by
    show Below _ _ _
    rw [hW0]
    exact (Below.refl _ _).alloc (Nat.le_refl _) _
  have hg0 : W0.rangeAt g o (cs f).toList := fun j v hv => by
    have hj : j < 4 := by
      have := (List.getElem?_eq_some_iff.1 hv).1
      simpa [cs] using this
    rw [Array.getElem?_toList, get f hj] at hv
    cases hv
    exact (HBW.out.cell (p := ⟨g, o + j, none⟩) hlt).trans (HC.out j hj)
  have har := arrayAt_any g o c
  clear hW0
  refine wp_seqH (fun K1 HK1 => ?_)
  refine wp_region_list ?_
  refine wpList_plain rfl fun K hK => ?_
  go_simp
  refine hK _ _ ?_
  refine wpList_plain rfl fun K hK => ?_
  go_simp
  refine hK _ _ ?_
  refine wpList_load_mid rfl 24 (.tmp 4) rfl g o rfl (cs f).toList _ hg0 under rfl (info _) ?_
  refine endSlotQ HK1.out (fun _ _ h => h) rfl rfl rfl rfl under rfl (info _) (one _) (by have h1 := thereOf hD; rw [cs_size] at h1 ⊢; exact h1) ?_
  intro wS hBut
  exact ⟨rfl, HBW.out.trans hBut.below⟩

/-- Whether a number may be a modulus. -/
def mayB (m : Nat) : Bool := decide (m % 2 = 1 ∧ 3 ≤ m)

set_option maxHeartbeats 1000000 in
set_option maxRecDepth 100000 in
theorem may_any (m : Nat) (hm : m < R) (b : Nat) (w : World) (hb : w.heap[b]? = some (.cells (cs (limb m)) 24 (0, 0))) : Calls Try.prog 27 #[.slice (some ⟨b, 0, none⟩) 4 4] w fun e w' => e = .returned (.bool (mayB m)) ∧ w = w' := by
  have hcs : ∀ j, j < 4 → w.cell? ⟨b, j, none⟩ = some (.int .u64 (limb m j)) := fun j hj => blk_cell hb (get (limb m) hj)
  have c0 := hcs 0 (by decide)
  have hl0 : limb m 0 = m % 18446744073709551616 := by simp [limb]
  have h0l := limb_lt m 0
  by_cases he : m % 2 = 0
  · have e1 : ((limb m 0 : Int)).tmod 2 = 0 := by rw [Int.tmod_eq_emod_of_nonneg (by omega)]; omega
    have e2 : IntKind.u64.wrap (0 : Int) = 0 := rfl
    have HE : Hid (mayB m = false) := by
      show _ = _
      unfold mayB
      rw [decide_eq_false_iff_not]
      omega
    clear hb he hl0 h0l hcs hm
    go_enter Try.func27, Try.ntmps27
    go_wp2
    go_ret
    exact ⟨by rw [HE.out]; rfl, rfl⟩
  · have e1 : ((limb m 0 : Int)).tmod 2 = 1 := by rw [Int.tmod_eq_emod_of_nonneg (by omega)]; omega
    have e2 : IntKind.u64.wrap (1 : Int) = 1 := rfl
    have HCS := hideP hcs
    have HE : Hid (m % 2 = 1 ∧ m < R ∧ limb m 0 = m % 18446744073709551616) := ⟨by omega, hm, hl0⟩
    clear hb he hl0 h0l hcs hm
    go_enter Try.func27, Try.ntmps27
    go_wp2_with fail
    go_loopw [3, 14] (fun h i wr => wr = w ∧ ∃ k hv : Nat, k ≤ 3 ∧ i = .int .i64 k ∧ h = .int .u64 hv ∧ hv < 18446744073709551616 ∧ (hv = 0 ↔ ∀ j, 1 ≤ j → j < k + 1 → limb m j = 0)) (fun _ i _ => 3 - (intOf i).toNat)
    case atStart => exact ⟨rfl, 0, 0, by omega, rfl, rfl, by decide, ⟨fun _ j h1 h2 => absurd h2 (by omega), fun _ => rfl⟩⟩
    case round =>
      obtain ⟨rfl, k, hv, hk, rfl, rfl, hvl, hiff⟩ := hrel
      by_cases hlt : k < 3
      · have ca := HCS.out (1 + k) (by omega)
        have hx := limb_lt m (1 + k)
        have hor := bits_or_u64_nat hv (limb m (1 + k)) hvl hx
        have hlt' : (k : Int) < 3 := by omega
        have e4 : IntKind.i64.wrap ((k : Int) + 1) = (k : Int) + 1 := by rw [IntKind.wrap_i64]; omega
        have HKS : Hid (k + 1 ≤ 3) := hlt
        have HN : Hid (hv ||| limb m (1 + k) < 18446744073709551616 ∧ (hv ||| limb m (1 + k) = 0 ↔ ∀ j, 1 ≤ j → j < k + 1 + 1 → limb m j = 0)) := by
          refine ⟨Nat.or_lt_two_pow (n := 64) hvl hx, ?_⟩
          rw [Nat.or_eq_zero_iff, hiff]
          constructor
          · rintro ⟨h1, h2⟩ j h3 h4
            by_cases e : j = 1 + k
            · rw [e]; exact h2
            · exact h1 j h3 (by omega)
          · intro h
            exact ⟨fun j h1 h2 => h j h1 (by omega), h (1 + k) (by omega) (by omega)⟩
        generalize hv ||| limb m (1 + k) = nv at *
        generalize limb m (1 + k) = x at *
        clear hk hlt hx hvl hiff
        go_wp2_with fail
        exact ⟨⟨trivial, k + 1, nv, HKS.out, by go_num, rfl, HN.out.1, HN.out.2⟩, by have := HKS.out; simp [intOf]; omega⟩
      · have hkn : k = 3 := by omega
        have hnl : ¬ (k : Int) < 3 := by omega
        rw [hkn] at hiff
        obtain ⟨q1, q2, q3⟩ := HE.out
        by_cases hz : hv = 0
        · subst hz
          have hall := hiff.1 rfl
          have hmm : m = limb m 0 := by
            have h1 := top_zero_m (N := m) (m := 4) (by rw [← R_eq]; exact q2) (4 - 1) 1 (by omega) (fun j h1 h2 => hall j h1 (by omega))
            rw [Nat.pow_one] at h1
            rw [q3, Nat.mod_eq_of_lt h1]
          have hd : mayB m = decide ((3 : Int) ≤ (limb m 0 : Int)) := by
            unfold mayB
            rw [decide_eq_decide, ← hmm]
            omega
          have HD := hideP hd
          clear hk hlt hkn hiff hvl q1 q2 q3 hall hmm hd HE
          generalize limb m 0 = m0 at *
          go_wp2
          go_ret
          exact ⟨by rw [HD.out]; rfl, rfl⟩
        · have hzi : ¬ (hv : Int) = 0 := by omega
          have hd : mayB m = true := by
            unfold mayB
            rw [decide_eq_true_iff]
            refine ⟨q1, ?_⟩
            apply Nat.le_of_not_lt
            intro hlt3
            apply hz
            rw [hiff]
            intro j h1 h2
            exact limb_high (n := 1) (by rw [Nat.pow_one]; omega) h1
          have HD := hideP hd
          clear hk hlt hkn hiff hvl q1 q2 q3 hd HE hz
          go_wp2
          go_ret
          exact ⟨by rw [HD.out]; rfl, rfl⟩

set_option maxHeartbeats 1000000 in
set_option maxRecDepth 100000 in
theorem modulus_any {p m : Nat} {w : World} (hgood : Good w p m) : Calls Try.prog 28 #[.pointer (some ⟨p, 0, none⟩)] w fun e w' => e = .returned (.agg (cs (limb m))) ∧ Below w.heap.size w w' := by
  have hp := hgood.lt
  obtain ⟨f, hMF, hr⟩ := hgood.ex
  have HIS := hideP (fun w (hr : RingAt w p m f (el m 1) (el m R)) => isMade_good hr hMF)
  have HR := hideP hr
  clear hr hMF hgood
  go_enter Try.func28, Try.ntmps28
  refine wp_seqH (fun K0 HK0 => ?_)
  go_wp2_with fail
  refine HK0.out _ _ ?_
  refine at_world (fun W0 hW0 => ?_)
  have hD : W0.heap[w.heap.size]? = some (.cells (cs (fun _ => 0)) 24 (0, 0)) := by
    rw [hW0]
    exact heap_new _ _
  have HBW : Hid (Below w.heap.size w W0) := by
    show Below _ _ _
    rw [hW0]
    repeat first | exact Below.refl _ _ | (refine Below.alloc ?_ (by simp <;> omega) _)
  clear hW0
  have HR0 := hideP (HR.out.belowN hp HBW.out)
  refine wp_seqH (fun K1 HK1 => ?_)
  refine wp_seqH (fun K2 HK2 => ?_)
  go_wp2_with (go_at_call 76; refine (HIS.out _ HR0.out).mono ?_; rintro e w' ⟨rfl, rfl⟩)
  refine HK2.out _ _ ?_
  refine wp_cond_true rfl ?_
  refine wp_region_list ?_
  iterate 3 (refine wpList_plain rfl (fun K hK => ?_); go_simp; refine hK _ _ ?_; clear hK K)
  refine wpList_load_mid rfl 24 (.tmp 7) rfl p 0 rfl (cs (limb m)).toList _ HR0.out.mod under rfl (info _) ?_
  refine wpList_store_mid rfl 24 (.tmp 2) (.tmp 8) rfl w.heap.size 0 (cs (limb m)) rfl rfl (there_cs hD _) (info _) (one _) ?_
  refine wpList_nil ?_
  refine HK1.out _ _ ?_
  have g1 := blk_sets (cs (limb m)).toList 0 hD
  rw [putAll_cs] at g1
  have hB1 := But.sets (cs (limb m)).toList 0 (But.refl w.heap.size W0)
  (try simp only [put_none])
  refine endRowQ (fun _ _ h => h) rfl rfl rfl (by decide) (by show 9 < 10; decide) rfl under rfl (info _) (one _) (rangeOf g1) (there_cs g1 _) ?_
  intro wS hBut
  exact ⟨rfl, HBW.out.trans (hB1.below.trans hBut.below)⟩

end Go.Proofs.Ytiekipkmfopdoaa.W4
