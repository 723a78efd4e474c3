/-
  A sum below twice the modulus, brought below it.
-/
import Derived.Test.YtppijhcfodccfaaGreatCurveNoneC32
import Derived.Test.YtppijhcfodccfaaGreatCurveNoneC34
import Derived.Test.YtppijhcfodccfaaGreatCurveNoneC23
import Derived.Test.YtppijhcfodccfaaGreatCurveNoneC04
import Derived.Test.YtppijhcfodccfaaGreatCurveNoneC28
namespace Go.Proofs.YtppijhcfodccfaaGreat.P4
open Go.RowKit Go.Shelf

/-- A point, so many times: what comes. -/
def mulP (m : Nat) (b x y : K) (i : Bool) (k : Nat) : P3 := if goodN m b x y i = 0 then outS m (timesP m x y i k) else (k0, k0, false)

theorem multiply_any {w : World} {g p m : Nat} {b : K} (hG : GAt w g p m b) (x y : K) (hx : Fits x) (hy : Fits y) (i : Bool) (k : Nat) (hk : k < 2 ^ 256) : Calls Tryz.prog 122 #[.pointer (some ⟨g, 0, none⟩), .agg (pt x y i), .agg (W4.cs (limb k))] w fun e w' => e = .returned (.tuple #[.agg (ptS (mulP m b x y i k)), .int .i64 (goodN m b x y i)]) ∧ Below w.heap.size w w' := by
  unfold mulP
  rcases goodN_cases m b x y i with h | h | h
  · rw [h, if_pos rfl]; exact multiply_0 hG x y hx hy i k hk h
  · rw [h, if_neg (by decide)]; exact multiply_70 hG x y hx hy i k h
  · rw [h, if_neg (by decide)]; exact multiply_71 hG x y hx hy i k h

set_option maxHeartbeats 4000000 in
set_option maxRecDepth 100000 in
theorem Mul_any {w : World} {c g p m : Nat} {b bx bY : K} {kk : Nat} (hG : CAt w c g p m b bx bY kk) (x y : K) (hx : Fits x) (hy : Fits y) (i : Bool) (k : Nat) (hk : k < 2 ^ 256) : Calls Tryz.prog 43 #[.pointer (some ⟨c, 0, none⟩), .agg (pt x y i), .agg (W4.cs (limb k))] w fun e w' => e = .returned (.tuple #[.agg (ptS (mulP m b x y i k)), .int .i64 (goodN m b x y i)]) ∧ Below w.heap.size w w' := by
  have hcl := hG.clt
  have hg := hG.ga.glt
  have hp := hG.ga.plt
  have HG9 := hideP hG
  clear hG
  go_enter Tryz.func43, Tryz.ntmps43
  refine wp_seqH (fun K0 HK0 => ?_)
  go_wp2_with fail
  refine HK0.out _ _ ?_
  clear HK0 K0
  refine at_world (fun W0 hW0 => ?_)
  have hb0 : W0.heap[w.heap.size]? = some (.cells (pt (x) (y) (i)) 34 (0, 0)) := by
    rw [hW0]
    exact ((heap_old _ _ (by simp <;> omega)).trans ((heap_old _ _ (by simp <;> omega)).trans (heap_new _ _)))
  have hb1 : W0.heap[w.heap.size + 1]? = some (.cells (W4.cs (limb k)) 65 (0, 0)) := by
    rw [hW0]
    exact ((heap_old _ _ (by simp <;> omega)).trans (heap_new1 _ _ _))
  have hbr : ∃ C : Array Value, W0.heap[w.heap.size + 1 + 1]? = some (.cells C 34 (0, 0)) ∧ C.size = 9 := by
    rw [hW0]
    exact ⟨_, heap_new2 _ _ _ _, rfl⟩
  have hbw : Below w.heap.size w W0 := by
    rw [hW0]
    repeat first | exact Below.refl _ _ | (refine Below.alloc ?_ (by simp <;> omega) _)
  clear hW0
  have HG := hideP (HG9.out.below hbw)
  clear HG9
  have HBW := hideP hbw
  clear hbw
  generalize hN : w.heap.size = N at *
  clear hN
  generalize hB1 : N + 1 = B1 at *
  generalize hB2 : B1 + 1 = B2 at *
  have o1 : N < B1 := by omega
  have o2 : B1 < B2 := by omega
  clear hB2
  clear hB1
  have H0 := hideP hb0
  clear hb0
  have H1 := hideP hb1
  clear hb1
  obtain ⟨Cr, hbr, s_B2⟩ := hbr
  have Hr := hideP hbr
  clear hbr
  refine wp_seqH (fun K1 HK1 => ?_)
  refine wp_region_heldS (S := fun V => Below W0.heap.size W0 V) (by kernel_rfl) (Below.refl _ _).drew (fun hS => ?_)
  refine wpAnyH_takeL (i := 0) (v := ?_) rfl (by kernel_rfl) (by kernel_rfl) (by kernel_rfl) (fun _ _ _ h => h) (Or.inl ⟨by kernel_rfl, ?_⟩) hS ?_
  rotate_left
  · intro V hV
    go_simp
    (try with_reducible rfl)
  simp only [put_list, List.set_cons_succ, List.set_cons_zero]
  refine wpAnyH_takeL (i := 2) (v := .agg (pt (x) (y) (i))) rfl (by kernel_rfl) (by kernel_rfl) (by kernel_rfl) (fun _ _ _ h => h) (yields_loadC (by kernel_rfl) 34 _ rfl (N) (0) rfl (pt (x) (y) (i)) _ (fun V hV => rangeOf ((hV.block _ (lt_of_block H0.out)).trans H0.out)) underA rfl (infoA (pt_size _ _ _))) hS ?_
  simp only [put_list, List.set_cons_succ, List.set_cons_zero]
  refine wpAnyH_takeL (i := 4) (v := .agg (W4.cs (limb k))) rfl (by kernel_rfl) (by kernel_rfl) (by kernel_rfl) (fun _ _ _ h => h) (yields_loadC (by kernel_rfl) 65 _ rfl (B1) (0) rfl (W4.cs (limb k)) _ (fun V hV => rangeOf ((hV.block _ (lt_of_block H1.out)).trans H1.out)) underWd rfl (infoWd (W4.cs_size _))) hS ?_
  simp only [put_list, List.set_cons_succ, List.set_cons_zero]

  refine regionR (r := 2) 3 3 (fun jz => match jz with | 0 => 1 | 1 => 3 | _ => 5) (fun jz => match jz with | 0 => 12 | 1 => 14 | _ => 16) (fun jz => match jz with | 0 => .pointer (some ⟨g, 0, none⟩) | 1 => .agg (pt (x) (y) (i)) | _ => .tuple #[.agg (ptS (mulP m b x y i k)), .int .i64 (goodN m b x y i)]) (fun iz pz => #[true, decide (0 < iz), true, decide (1 < iz), true, decide (2 < iz), false, false, false, pz, false, false] : Nat → Bool → Array Bool) (fun pz => #[true, true, true, true, true, true, true, true, true, pz, false, false] : Bool → Array Bool) ?Tq #[.int .u64 0, .int .u64 0, .int .u64 0, .int .u64 0, .int .u64 0, .int .u64 0, .int .u64 0, .int .u64 0, .bool false] 125 9 8 (by kernel_rfl) (by decide) (by kernel_rfl) hS ?hc ?h1 ?hq0 ?hq1 ?hend
  case hc =>
    intro iz hi T w2 K hW2 hT hK
    match iz, hi with
    | 0, _ =>
      have t11 : T[11]? = some (.pointer (some ⟨c, 0, none⟩)) := hT 11 (by decide)
      refine wpOp_stepT (i := 1) rfl (fun K' hK' => ?_)
      refine ite_wp (by kernel_rfl) ?_
      refine wp_callD (av := #[.pointer (some ⟨c, 0, none⟩)]) _ _ 12 rfl rfl (by simp only [List.map_toArray, List.map_cons, List.map_nil, eval_get t11]) (enters_of Tryz.func84 (by kernel_rfl) rfl) (group_any (HG.out.below hW2)) ?_
      intro w3 hb
      exact hK' _ _ (hK w3 hb)
    | 1, _ =>
      have t13 : T[13]? = some (.agg (pt (x) (y) (i))) := hT 13 (by decide)
      refine wpOp_stepT (i := 3) rfl (fun K' hK' => ?_)
      refine ite_wp (by kernel_rfl) ?_
      refine wp_callD (av := #[.agg (pt (x) (y) (i))]) _ _ 14 rfl rfl (by simp only [List.map_toArray, List.map_cons, List.map_nil, eval_get t13]) (enters_of Tryz.func103 (by kernel_rfl) rfl) (from_any (x) (y) (i) _) ?_
      intro w3 hb
      exact hK' _ _ (hK w3 hb)
    | 2, _ =>
      have t12 : T[12]? = some (.pointer (some ⟨g, 0, none⟩)) := hT 12 (by decide)
      have t14 : T[14]? = some (.agg (pt (x) (y) (i))) := hT 14 (by decide)
      have t15 : T[15]? = some (.agg (W4.cs (limb k))) := hT 15 (by decide)
      refine wpOp_stepT (i := 5) rfl (fun K' hK' => ?_)
      refine ite_wp (by kernel_rfl) ?_
      refine wp_callD (av := #[.pointer (some ⟨g, 0, none⟩), .agg (pt (x) (y) (i)), .agg (W4.cs (limb k))]) _ _ 16 rfl rfl (by simp only [List.map_toArray, List.map_cons, List.map_nil, eval_get t12, eval_get t14, eval_get t15]) (enters_of Tryz.func122 (by kernel_rfl) rfl) (multiply_any ((HG.out.below hW2).ga) x y hx hy i k hk) ?_
      intro w3 hb
      exact hK' _ _ (hK w3 hb)
    | k' + 3, h => exact absurd h (by omega)
  case h1 =>
    intro T w2 K hK
    refine wpOp_stepT rfl (fun K' hK' => ?_)
    have HK' := hideP hK'
    have HK9 := hideP hK
    clear hK hK'
    go_simp
    exact HK'.out _ _ HK9.out
  case hq0 =>
    intro w2 hS hq
    simp only [TC, List.set_cons_succ, List.set_cons_zero]
    refine wpAnyH_takeL (i := 6) (v := ?_) rfl (by kernel_rfl) (by kernel_rfl) (by kernel_rfl) (fun _ _ _ h => h) (Or.inl ⟨by kernel_rfl, ?_⟩) hS ?_
    rotate_left
    · intro V hV
      go_simp
      (try with_reducible rfl)
    simp only [put_list, List.set_cons_succ, List.set_cons_zero]
    refine wpAnyH_takeL (i := 7) (v := ?_) rfl (by kernel_rfl) (by kernel_rfl) (by kernel_rfl) (fun _ _ _ h => h) (Or.inl ⟨by kernel_rfl, ?_⟩) hS ?_
    rotate_left
    · intro V hV
      go_simp
      (try with_reducible rfl)
    simp only [put_list, List.set_cons_succ, List.set_cons_zero]
    refine wpAnyH_takeL (i := 8) (v := ?_) rfl (by kernel_rfl) (by kernel_rfl) (by kernel_rfl) (fun _ _ _ h => h) (Or.inl ⟨by kernel_rfl, ?_⟩) hS ?_
    rotate_left
    · intro V hV
      go_simp
      (try with_reducible rfl)
    simp only [put_list, List.set_cons_succ, List.set_cons_zero]
    exact hq
  case hq1 =>
    intro w2 b1 hS hq
    simp only [TC, List.set_cons_succ, List.set_cons_zero]
    refine wpAnyH_takeL (i := 6) (v := ?_) rfl (by kernel_rfl) (by kernel_rfl) (by kernel_rfl) (fun _ _ _ h => h) (Or.inl ⟨by kernel_rfl, ?_⟩) hS ?_
    rotate_left
    · intro V hV
      go_simp
      (try with_reducible rfl)
    simp only [put_list, List.set_cons_succ, List.set_cons_zero]
    refine wpAnyH_takeL (i := 7) (v := ?_) rfl (by kernel_rfl) (by kernel_rfl) (by kernel_rfl) (fun _ _ _ h => h) (Or.inl ⟨by kernel_rfl, ?_⟩) hS ?_
    rotate_left
    · intro V hV
      go_simp
      (try with_reducible rfl)
    simp only [put_list, List.set_cons_succ, List.set_cons_zero]
    refine wpAnyH_takeL (i := 8) (v := ?_) rfl (by kernel_rfl) (by kernel_rfl) (by kernel_rfl) (fun _ _ _ h => h) (Or.inl ⟨by kernel_rfl, ?_⟩) hS ?_
    rotate_left
    · intro V hV
      go_simp
      (try with_reducible rfl)
    simp only [put_list, List.set_cons_succ, List.set_cons_zero]
    exact hq
  intro x6 B5 hS lB5 hB5
  simp only [List.set_cons_succ, List.set_cons_zero]
  refine wpAnyH_ready (rs := [10]) (by kernel_rfl) (by simp) (AllReadyH.cons rfl (fun K hK => ?_) AllReadyH.nil)
  refine ite_wp (by kernel_rfl) ?_
  refine wp_store_midN 125 (.tmp 8) (.tmp 17) rfl rfl (B5) 0 (ptS (mulP m b x y i k)) rfl rfl (there_of hB5 (zcp_size.trans (ptS_size _).symm)) (infoPt (ptS_size _)) (ptS_one _) ?_
  have hB59 := blk_sets (ptS (mulP m b x y i k)).toList 0 hB5
  rw [putAll_eq (zcp_size.trans (ptS_size _).symm)] at hB59
  have hB1 := But.sets (ptS (mulP m b x y i k)).toList 0 (But.refl B5 x6)
  have hSB := hS.trans (hB1.below.mono lB5)
  clear hB1 hB5
  have hB5 := hB59
  clear hB59
  generalize World.setCells x6 B5 0 (ptS (mulP m b x y i k)).toList = x7 at *
  refine hK.out _ _ hSB (fun hS => ?_)
  clear hK K hSB
  refine wpAnyH_takeL (i := 11) (v := ?_) rfl (by kernel_rfl) (by kernel_rfl) (by kernel_rfl) (fun _ _ _ h => h) (Or.inl ⟨by kernel_rfl, ?_⟩) hS ?_
  rotate_left
  · intro V hV
    go_simp
    (try with_reducible rfl)
  simp only [put_list, List.set_cons_succ, List.set_cons_zero]
  refine wpAnyH_done (by kernel_rfl) ?_ _
  (try simp only [put_none])
  refine HK1.out _ _ ?_
  clear HK1 K1
  have HG9 := hideP (HG.out.below hS)
  have H09 := hideP ((hS.block _ (lt_of_block H0.out)).trans H0.out)
  have H19 := hideP ((hS.block _ (lt_of_block H1.out)).trans H1.out)
  have Hr9 := hideP ((hS.block _ (lt_of_block Hr.out)).trans Hr.out)
  have HBW9 := hideP (HBW.out.trans (hS.mono (Nat.le_of_lt (lt_of_block H0.out))))
  have oB5 : B2 < B5 := by have := lt_of_block Hr.out; omega
  clear hS HG HBW H0 H1 Hr lB5
  have HG := HG9
  clear HG9
  have HBW := HBW9
  clear HBW9
  have H0 := H09
  clear H09
  have H1 := H19
  clear H19
  have Hr := Hr9
  clear Hr9
  have HB5 := hideP hB5
  clear hB5
  as_aux_lemma =>
    refine wp_seqH (fun K1 HK1 => ?_)
    refine wp_region_list ?_
    have hS := Below.refl x7.heap.size x7
    refine wpList_load_midD rfl 125 (.tmp 8) 19 rfl rfl (B5) (0) (ptS (mulP m b x y i k)) rfl _ (rangeOf ((hS.block _ (lt_of_block HB5.out)).trans HB5.out)) underPt rfl (infoPt (ptS_size _)) ?_
    simp only [List.set_cons_succ, List.set_cons_zero]
    refine wpList_oper rfl (fun K hK => ?_)
    refine wp_callD (av := #[.agg (ptS (mulP m b x y i k))]) _ _ 20 rfl rfl (by simp only [List.map_toArray, List.map_cons, List.map_nil]; rfl) (enters_of Tryz.func83 (by kernel_rfl) rfl) (to_any (mulP m b x y i k).1 (mulP m b x y i k).2.1 (mulP m b x y i k).2.2 _) ?_
    intro x8 hbc
    refine hK _ _ ?_
    clear hK K
    have hS9 := hS.trans (hbc.mono hS.size)
    clear hS hbc
    have hS := hS9
    clear hS9
    simp only [List.set_cons_succ, List.set_cons_zero]
    refine wpList_oper rfl (fun K hK => ?_)
    go_simp
    refine hK _ _ ?_
    clear hK K
    have hQ := (KQ.start Hr.out s_B2).call hS
    refine wpList_store_midD rfl 34 (.tmp 6) (.tmp 20) rfl rfl (B2) 0 (ptS (mulP m b x y i k)) rfl rfl (hQ.there (ptS_size _)) (infoA (ptS_size _)) (ptS_one _) ?_
    have g1 := hQ.put (C := ptS (mulP m b x y i k)) (ptS_size _)
    have hS9 := hQ.store (C := ptS (mulP m b x y i k)) (ptS_size _)
    clear hS hQ
    have hS := hS9
    clear hS9
    generalize World.setCells _ (B2) 0 (ptS (mulP m b x y i k)).toList = x9 at g1 hS ⊢
    refine wpList_oper rfl (fun K hK => ?_)
    go_simp
    refine hK _ _ ?_
    clear hK K
    refine wpList_nil ?_
    refine HK1.out _ _ ?_
    clear HK1 K1
    refine wp_ret ?_
    exact bodyPost_ret_by (results_pair rfl rfl rfl (loadC _ B2 0 34 (ptS (mulP m b x y i k)) _ (rangeOf g1) underA rfl (infoA (ptS_size _)))) rfl ⟨rfl, HBW.out.trans (hS.below.mono (by omega))⟩

end Go.Proofs.YtppijhcfodccfaaGreat.P4

namespace Go.Proofs.YtppijhcfodccfaaGreat.W6
open Go.RowKit Go.Shelf

theorem putAll_cs (g' g : Nat → Nat) : putAll (cs g') 0 (cs g).toList = cs g := by
  simp [cs, putAll]

theorem there_cs {w : World} {b t : Nat} {g : Nat → Nat} (h : w.heap[b]? = some (.cells (cs g) t (0, 0))) (g' : Nat → Nat) : w.there b 0 (cs g').size := by
  have h1 := thereOf h
  rw [cs_size] at h1 ⊢
  exact h1

/-- The cells of a ring: its modulus, what fills, one, the radix. -/
def rc (m f o r : Nat) : Array Value := #[.int .u64 (limb m 0), .int .u64 (limb m 1), .int .u64 (limb m 2), .int .u64 (limb m 3), .int .u64 (limb m 4), .int .u64 (limb m 5), .int .u64 f, .int .u64 (limb o 0), .int .u64 (limb o 1), .int .u64 (limb o 2), .int .u64 (limb o 3), .int .u64 (limb o 4), .int .u64 (limb o 5), .int .u64 (limb r 0), .int .u64 (limb r 1), .int .u64 (limb r 2), .int .u64 (limb r 3), .int .u64 (limb r 4), .int .u64 (limb r 5)]

/-- A ring lies there. -/
structure RingAt (w : World) (p m f o r : Nat) : Prop where
  heap : w.heap[p]? = some (.cells (rc m f o r) 244 (0, 0))

section
variable {w w' : World} {p m f o r : Nat}
theorem RingAt.below (h : RingAt w p m f o r) (hb : Below w.heap.size w w') : RingAt w' p m f o r := ⟨(hb.block p (lt_of_block h.heap)).trans h.heap⟩

theorem RingAt.belowN (h : RingAt w p m f o r) {N : Nat} (hp : p < N) (hb : Below N w w') : RingAt w' p m f o r := ⟨(hb.block p hp).trans h.heap⟩

theorem RingAt.drew (h : RingAt w p m f o r) : RingAt w.drew p m f o r := ⟨h.heap⟩

theorem RingAt.lt (h : RingAt w p m f o r) : p < w.heap.size := lt_of_block h.heap

theorem RingAt.mod (h : RingAt w p m f o r) : w.rangeAt p 0 (cs (limb m)).toList := World.rangeAt_of_block h.heap 0 6

theorem RingAt.one (h : RingAt w p m f o r) : w.rangeAt p (6 + 1) (cs (limb o)).toList := World.rangeAt_of_block h.heap (6 + 1) 6

theorem RingAt.radix (h : RingAt w p m f o r) : w.rangeAt p (2 * 6 + 1) (cs (limb r)).toList := World.rangeAt_of_block h.heap (2 * 6 + 1) 6

theorem RingAt.fill (h : RingAt w p m f o r) : w.cell? ⟨p, 6, none⟩ = some (.int .u64 f) := blk_cell h.heap rfl

theorem RingAt.limbAt (h : RingAt w p m f o r) {j : Nat} (hj : j < 6) : w.cell? ⟨p, j, none⟩ = some (.int .u64 (limb m j)) := by
  have h1 := h.mod j (.int .u64 (limb m j)) (by rw [Array.getElem?_toList]; exact get _ hj)
  rwa [Nat.zero_add] at h1

end

end Go.Proofs.YtppijhcfodccfaaGreat.W6

namespace Go.Proofs.YtppijhcfodccfaaGreat.W6
open Go.RowKit Go.Shelf

theorem red_mod {Z m c : Nat} (hZ : Z < R) (hm : m < R) (hc : Z + R * c < 2 * m) : (Z + R * c) % m = if c = 0 ∧ less1 Z m = 1 then Z else Z + R * less1 Z m - m := by
  unfold less1
  by_cases h0 : c = 0
  · subst h0
    by_cases h1 : Z < m
    · simp [h1, Nat.mod_eq_of_lt h1]
    · have : Z % m = Z - m := by rw [Nat.mod_eq_sub_mod (by omega), Nat.mod_eq_of_lt (by omega)]
      simp [h1, this]
  · have hR : R * 1 ≤ R * c := Nat.mul_le_mul_left _ (by omega)
    have hc1 : c = 1 := by
      apply Nat.le_antisymm _ (by omega)
      apply Nat.le_of_not_lt
      intro h
      have := Nat.mul_le_mul_left R (show 2 ≤ c by omega)
      omega
    subst hc1
    have hl : Z < m := by omega
    rw [Nat.mod_eq_sub_mod (by omega), Nat.mod_eq_of_lt (by omega)]
    simp [hl]

set_option maxHeartbeats 2000000 in
set_option maxRecDepth 100000 in
theorem reduce_any (p m f o r Z c : Nat) (w : World) (hr : RingAt w p m f o r) (hm : m < R) (hZ : Z < R) (hc : Z + R * c < 2 * m) :
    Calls Tryz.prog 225 #[.pointer (some ⟨p, 0, none⟩), wv Z, .int .u64 c] w fun e w' => e = .returned (wv ((Z + R * c) % m)) ∧ Below w.heap.size w w' := by
  have HC := hideP (fun w => minus_any Z m hZ hm w)
  have hc2 : c ≤ 1 := by
    apply Nat.le_of_not_lt
    intro h
    have := Nat.mul_le_mul_left R (show 2 ≤ c by omega)
    omega
  rw [red_mod hZ hm hc]
  have hl1 : less1 Z m = 0 ∨ less1 Z m = 1 := by unfold less1; split <;> simp
  clear hm hZ hc
  generalize Z + R * less1 Z m - m = D at *
  generalize less1 Z m = b at *
  have hp : p < w.heap.size := hr.lt
  have HR := hideP hr
  clear hr
  unfold wv at HC ⊢
  go_enter Tryz.func225, Tryz.ntmps225
  go_wp2_with fail
  rename_i Q' K hK
  have HK := hideP hK
  clear hK
  refine at_world (fun W0 hW0 => ?_)
  have hA : W0.heap[w.heap.size]? = some (.cells (cs (limb Z)) 28 (0, 0)) := by
    rw [hW0]
    exact (heap_old _ _ (by simp)).trans (heap_new _ _)
  have hD : W0.heap[w.heap.size + 1]? = some (.cells (cs (fun _ => 0)) 28 (0, 0)) := by
    rw [hW0]
    exact heap_new1 _ _ _
  have HBW : Hid (Below w.heap.size w W0) := by
    show Below _ _ _
    rw [hW0]
    repeat first | exact Below.refl _ _ | (refine Below.alloc ?_ (by simp <;> omega) _)
  clear hW0
  have HR0 := hideP (HR.out.belowN hp HBW.out)
  have HA := hideP hA
  have HD := hideP hD
  clear hA hD HR
  refine wp_region_heldS (S := fun V => Below W0.heap.size W0 V) (by kernel_rfl) ((Below.refl _ _).drew) (fun hS => ?_)
  refine wpAnyH_takeL (i := 0) (v := .agg (cs (limb Z))) rfl (by kernel_rfl) (by kernel_rfl) (by kernel_rfl) (fun _ _ _ h => h) (yieldsIf_load_mid (by kernel_rfl) 28 _ rfl (w.heap.size) (0) rfl (cs (limb Z)).toList _ (fun V hV => rangeOf ((hV.block _ (lt_of_block HA.out)).trans HA.out)) under rfl (info _)) hS ?_
  simp only [put_list, List.set_cons_succ, List.set_cons_zero]
  refine wpAnyH_takeL (i := 1) (v := ?_) rfl (by kernel_rfl) (by kernel_rfl) (by kernel_rfl) (fun _ _ _ h => h) (Or.inl ⟨by kernel_rfl, ?_⟩) hS ?_
  rotate_left
  · intro V hV
    go_simp
    (try with_reducible rfl)
  simp only [put_list, List.set_cons_succ, List.set_cons_zero]
  refine wpAnyH_takeL (i := 2) (v := ?_) rfl (by kernel_rfl) (by kernel_rfl) (by kernel_rfl) (fun _ _ _ h => h) (Or.inl ⟨by kernel_rfl, ?_⟩) hS ?_
  rotate_left
  · intro V hV
    go_simp
    (try with_reducible rfl)
  simp only [put_list, List.set_cons_succ, List.set_cons_zero]
  refine wpAnyH_takeL (i := 3) (v := ?_) rfl (by kernel_rfl) (by kernel_rfl) (by kernel_rfl) (fun _ _ _ h => h) (Or.inl ⟨by kernel_rfl, ?_⟩) hS ?_
  rotate_left
  · intro V hV
    go_simp
    (try with_reducible rfl)
  simp only [put_list, List.set_cons_succ, List.set_cons_zero]
  refine wpAnyH_takeL (i := 4) (v := .agg (cs (limb m))) rfl (by kernel_rfl) (by kernel_rfl) (by kernel_rfl) (fun _ _ _ h => h) (yieldsIf_load_mid (by kernel_rfl) 28 _ rfl (p) (0) rfl (cs (limb m)).toList _ (fun V hV => (HR0.out.below hV).mod) under rfl (info _)) hS ?_
  simp only [put_list, List.set_cons_succ, List.set_cons_zero]
  refine wpAnyH_ready (rs := [5, 9]) (by kernel_rfl) (by simp) (AllReadyH.cons rfl (fun K hK => ?_) (AllReadyH.cons rfl (fun K hK => ?_) AllReadyH.nil))
  · go_simp
    refine (HC.out _).mono ?_
    rintro e w1 ⟨rfl, hbc⟩
    refine hK.out _ _ (hS.trans (hbc.mono hS.size)) (fun hS => ?_)
    clear hK K hbc
    refine wpAnyH_takeL (i := 6) (v := ?_) rfl (by kernel_rfl) (by kernel_rfl) (by kernel_rfl) (fun _ _ _ h => h) (Or.inl ⟨by kernel_rfl, ?_⟩) hS ?_
    rotate_left
    · intro V hV
      go_simp
      (try with_reducible rfl)
    simp only [put_list, List.set_cons_succ, List.set_cons_zero]
    refine wpAnyH_takeL (i := 7) (v := ?_) rfl (by kernel_rfl) (by kernel_rfl) (by kernel_rfl) (fun _ _ _ h => h) (Or.inl ⟨by kernel_rfl, ?_⟩) hS ?_
    rotate_left
    · intro V hV
      go_simp
      (try with_reducible rfl)
    simp only [put_list, List.set_cons_succ, List.set_cons_zero]
    refine wpAnyH_takeL (i := 8) (v := ?_) rfl (by kernel_rfl) (by kernel_rfl) (by kernel_rfl) (fun _ _ _ h => h) (Or.inl ⟨by kernel_rfl, ?_⟩) hS ?_
    rotate_left
    · intro V hV
      go_simp
      (try with_reducible rfl)
    simp only [put_list, List.set_cons_succ, List.set_cons_zero]
    refine wpAnyH_ready (rs := [9]) (by kernel_rfl) (by simp) (AllReadyH.cons rfl (fun K hK => ?_) AllReadyH.nil)
    go_simp
    refine hK.out _ _ (hS.alloc hS.size _) (fun hS2 => ?_)
    clear hK K
    refine at_worldH (fun w2 hw2 => ?_)
    have h1 : w2.heap[w1.heap.size]? = some (.cells (cs (fun _ => 0)) 28 (0, 0)) := by rw [hw2]; exact heap_new _ _
    have l1 := hS.size
    rw [← hw2] at hS2
    clear hw2 hS
    have hS := hS2
    clear hS2
    generalize hbb : w1.heap.size = b1 at h1 l1 ⊢
    clear hbb
    refine wpAnyH_ready (rs := [10]) (by kernel_rfl) (by simp) (AllReadyH.cons rfl (fun K hK => ?_) AllReadyH.nil)
    refine ite_wp (by kernel_rfl) ?_
    refine wp_store_midN 28 (.tmp 7) (.tmp 16) rfl rfl b1 0 (cs (limb D)) rfl rfl (there_cs h1 _) (info _) (one _) ?_
    have g1 := blk_sets (cs (limb D)).toList 0 h1
    rw [putAll_cs] at g1
    have hB1 := But.sets (cs (limb D)).toList 0 (But.refl b1 w2)
    have hSB := hS.trans (hB1.below.mono l1)
    clear h1 hB1
    generalize w2.setCells b1 0 (cs (limb D)).toList = w3 at g1 hSB ⊢
    refine hK.out _ _ hSB (fun hS => ?_)
    clear hK K hSB
    refine wpAnyH_ready (rs := [11]) (by kernel_rfl) (by simp) (AllReadyH.cons rfl (fun K hK => ?_) AllReadyH.nil)
    go_simp
    refine hK.out _ _ hS (fun hS => ?_)
    clear hK K
    refine wpAnyH_done (by kernel_rfl) ?_ _
    (try simp only [put_none])
    have HBS := hideP (HBW.out.trans (hS.mono HBW.out.size))
    have HA3 := hideP ((hS.block _ (lt_of_block HA.out)).trans HA.out)
    have HD3 := hideP ((hS.block _ (lt_of_block HD.out)).trans HD.out)
    have HG := hideP g1
    clear g1 hS l1
    refine HK.out _ _ ?_
    refine wp_seqH (fun K1 HK1 => ?_)
    refine wp_seqH (fun K2 HK2 => ?_)
    by_cases hc0 : c = 0
    · subst hc0
      rcases hl1 with rfl | rfl
      · go_wp2_with fail
        refine HK2.out _ _ ?_
        refine wp_cond_false rfl (wp_skip ?_)
        refine HK1.out _ _ ?_
        refine endRowQ (fun _ _ h => h) rfl rfl rfl (by decide) (by show 25 < 26; decide) rfl under rfl (info _) (one _) (rangeOf HG.out) (there_cs HD3.out _) ?_
        intro wS hBut
        exact ⟨rfl, HBS.out.trans (hBut.below.mono (by omega))⟩
      · go_wp2_with fail
        refine HK2.out _ _ ?_
        refine wp_cond_true rfl ?_
        have hQ : ∀ a w, Q' .ret a w → Exit.then K1 Q' .ret a w := fun _ _ h => h
        refine endRowQ hQ rfl rfl rfl (by decide) (by show 24 < 26; decide) rfl under rfl (info _) (one _) (rangeOf HA3.out) (there_cs HD3.out _) ?_
        intro wS hBut
        exact ⟨rfl, HBS.out.trans (hBut.below.mono (by omega))⟩
    · have hc1 : c = 1 := by omega
      subst hc1
      clear hc0 hc2
      go_wp2_with fail
      refine HK2.out _ _ ?_
      refine wp_cond_false rfl (wp_skip ?_)
      refine HK1.out _ _ ?_
      refine endRowQ (fun _ _ h => h) rfl rfl rfl (by decide) (by show 25 < 26; decide) rfl under rfl (info _) (one _) (rangeOf HG.out) (there_cs HD3.out _) ?_
      intro wS hBut
      exact ⟨rfl, HBS.out.trans (hBut.below.mono (by omega))⟩
  · go_simp
    refine hK.out _ _ (hS.alloc hS.size _) (fun hS2 => ?_)
    clear hK K
    refine at_worldH (fun w1 hw1 => ?_)
    have h1 : w1.heap[W0.heap.size]? = some (.cells (cs (fun _ => 0)) 28 (0, 0)) := by rw [hw1]; exact heap_new _ _
    have l1 := Nat.le_refl W0.heap.size
    rw [← hw1] at hS2
    clear hw1 hS
    have hS := hS2
    clear hS2
    refine wpAnyH_ready (rs := [5]) (by kernel_rfl) (by simp) (AllReadyH.cons rfl (fun K hK => ?_) AllReadyH.nil)
    go_simp
    refine (HC.out _).mono ?_
    rintro e w2 ⟨rfl, hbc⟩
    have h2 := (hbc.block _ (lt_of_block h1)).trans h1
    refine hK.out _ _ (hS.trans (hbc.mono hS.size)) (fun hS2 => ?_)
    clear hK K hbc h1 hS
    have hS := hS2
    have h1 := h2
    clear hS2 h2
    refine wpAnyH_takeL (i := 6) (v := ?_) rfl (by kernel_rfl) (by kernel_rfl) (by kernel_rfl) (fun _ _ _ h => h) (Or.inl ⟨by kernel_rfl, ?_⟩) hS ?_
    rotate_left
    · intro V hV
      go_simp
      (try with_reducible rfl)
    simp only [put_list, List.set_cons_succ, List.set_cons_zero]
    refine wpAnyH_takeL (i := 7) (v := ?_) rfl (by kernel_rfl) (by kernel_rfl) (by kernel_rfl) (fun _ _ _ h => h) (Or.inl ⟨by kernel_rfl, ?_⟩) hS ?_
    rotate_left
    · intro V hV
      go_simp
      (try with_reducible rfl)
    simp only [put_list, List.set_cons_succ, List.set_cons_zero]
    refine wpAnyH_takeL (i := 8) (v := ?_) rfl (by kernel_rfl) (by kernel_rfl) (by kernel_rfl) (fun _ _ _ h => h) (Or.inl ⟨by kernel_rfl, ?_⟩) hS ?_
    rotate_left
    · intro V hV
      go_simp
      (try with_reducible rfl)
    simp only [put_list, List.set_cons_succ, List.set_cons_zero]
    refine wpAnyH_ready (rs := [10]) (by kernel_rfl) (by simp) (AllReadyH.cons rfl (fun K hK => ?_) AllReadyH.nil)
    refine ite_wp (by kernel_rfl) ?_
    refine wp_store_midN 28 (.tmp 7) (.tmp 16) rfl rfl (W0.heap.size) 0 (cs (limb D)) rfl rfl (there_cs h1 _) (info _) (one _) ?_
    have g1 := blk_sets (cs (limb D)).toList 0 h1
    rw [putAll_cs] at g1
    have hB1 := But.sets (cs (limb D)).toList 0 (But.refl (W0.heap.size) w2)
    have hSB := hS.trans (hB1.below.mono l1)
    clear h1 hB1
    generalize w2.setCells (W0.heap.size) 0 (cs (limb D)).toList = w3 at g1 hSB ⊢
    refine hK.out _ _ hSB (fun hS => ?_)
    clear hK K hSB
    refine wpAnyH_ready (rs := [11]) (by kernel_rfl) (by simp) (AllReadyH.cons rfl (fun K hK => ?_) AllReadyH.nil)
    go_simp
    refine hK.out _ _ hS (fun hS => ?_)
    clear hK K
    refine wpAnyH_done (by kernel_rfl) ?_ _
    (try simp only [put_none])
    have HBS := hideP (HBW.out.trans (hS.mono HBW.out.size))
    have HA3 := hideP ((hS.block _ (lt_of_block HA.out)).trans HA.out)
    have HD3 := hideP ((hS.block _ (lt_of_block HD.out)).trans HD.out)
    have HG := hideP g1
    clear g1 hS l1
    refine HK.out _ _ ?_
    refine wp_seqH (fun K1 HK1 => ?_)
    refine wp_seqH (fun K2 HK2 => ?_)
    by_cases hc0 : c = 0
    · subst hc0
      rcases hl1 with rfl | rfl
      · go_wp2_with fail
        refine HK2.out _ _ ?_
        refine wp_cond_false rfl (wp_skip ?_)
        refine HK1.out _ _ ?_
        refine endRowQ (fun _ _ h => h) rfl rfl rfl (by decide) (by show 25 < 26; decide) rfl under rfl (info _) (one _) (rangeOf HG.out) (there_cs HD3.out _) ?_
        intro wS hBut
        exact ⟨rfl, HBS.out.trans (hBut.below.mono (by omega))⟩
      · go_wp2_with fail
        refine HK2.out _ _ ?_
        refine wp_cond_true rfl ?_
        have hQ : ∀ a w, Q' .ret a w → Exit.then K1 Q' .ret a w := fun _ _ h => h
        refine endRowQ hQ rfl rfl rfl (by decide) (by show 24 < 26; decide) rfl under rfl (info _) (one _) (rangeOf HA3.out) (there_cs HD3.out _) ?_
        intro wS hBut
        exact ⟨rfl, HBS.out.trans (hBut.below.mono (by omega))⟩
    · have hc1 : c = 1 := by omega
      subst hc1
      clear hc0 hc2
      go_wp2_with fail
      refine HK2.out _ _ ?_
      refine wp_cond_false rfl (wp_skip ?_)
      refine HK1.out _ _ ?_
      refine endRowQ (fun _ _ h => h) rfl rfl rfl (by decide) (by show 25 < 26; decide) rfl under rfl (info _) (one _) (rangeOf HG.out) (there_cs HD3.out _) ?_
      intro wS hBut
      exact ⟨rfl, HBS.out.trans (hBut.below.mono (by omega))⟩

end Go.Proofs.YtppijhcfodccfaaGreat.W6
