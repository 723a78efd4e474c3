/-
  A sum below twice the modulus, brought below it.
-/
import Derived.Test.YtcbdbnfgnonacaaGreatCurveBn1C29
import Derived.Test.YtcbdbnfgnonacaaGreatCurveBn1C11
import Derived.Test.YtcbdbnfgnonacaaGreatCurveBn1C22
namespace Go.Proofs.YtcbdbnfgnonacaaGreat
open Go.RowKit Go.Shelf


set_option maxHeartbeats 4000000 in
set_option maxRecDepth 100000 in
theorem fromBn1_any (x y : P4.K) (hx : P4.Fits x) (hy : P4.Fits y) (i : Bool) (w : World) : Calls Tryz.prog 15 #[.agg (P4.pt x y i)] w fun e w' => e = .returned (.agg (pn (x) (0) (y) (0) i)) ∧ Below w.heap.size w w' := by
  go_enter Tryz.func15, Tryz.ntmps15
  refine wp_seqH (fun K0 HK0 => ?_)
  go_wp2_with fail
  refine HK0.out _ _ ?_
  clear HK0 K0
  refine wp_seqH (fun K0 HK0 => ?_)
  go_wp2_with fail
  refine HK0.out _ _ ?_
  clear HK0 K0
  refine at_world (fun W0 hW0 => ?_)
  have hb0 : W0.heap[w.heap.size]? = some (.cells (P4.pt x y i) 34 (0, 0)) := by
    rw [hW0]
    exact ((heap_old _ _ (by simp <;> omega)).trans ((heap_old _ _ (by simp <;> omega)).trans (heap_new _ _)))
  have hbr : ∃ C : Array Value, W0.heap[w.heap.size + 1]? = some (.cells C 30 (0, 0)) ∧ C.size = 25 := by
    rw [hW0]
    exact ⟨_, (heap_old _ _ (by simp <;> omega)).trans (heap_new1 _ _ _), rfl⟩
  have hb2 : W0.heap[w.heap.size + 1 + 1]? = some (.cells (pn 0 0 0 0 false) 30 (0, 0)) := by
    rw [hW0, ← zpn]
    exact heap_new2 _ _ _ _
  have hbw : Below w.heap.size w W0 := by
    rw [hW0]
    repeat first | exact Below.refl _ _ | (refine Below.alloc ?_ (by simp <;> omega) _)
  clear hW0
  obtain ⟨C, hC, hs⟩ := hbr
  have HC := hideP hC
  have H0 := hideP hb0
  have H2 := hideP hb2
  have HBW := hideP hbw
  clear hC hb0 hb2 hbw
  generalize w.heap.size = N at *
  generalize hB1 : N + 1 = B1 at *
  generalize hB2 : B1 + 1 = B2 at *
  have o1 : N < B1 := by omega
  have o2 : B1 < B2 := by omega
  clear hB2 hB1
  refine wp_seqH (fun K1 HK1 => ?_)
  refine region_late [4] (fun V => Below W0.heap.size W0 V) (by kernel_rfl) (Below.refl _ _).drew (fun hS => ?_)
  refine anyZ_take (i := 0) (g := 12) (v := ?_) rfl (by kernel_rfl) (by kernel_rfl) (by kernel_rfl) (by kernel_rfl) (by kernel_rfl) (fun _ _ _ h => h) (Or.inl ⟨by kernel_rfl, ?_⟩) hS ?_
  rotate_left
  · intro V hV
    go_simp
    (try with_reducible rfl)
  simp only [put_list, List.set_cons_succ, List.set_cons_zero]
  refine anyZ_take (i := 1) (g := 12) (v := .slice (some ⟨B2, 0, none⟩) 6 6) rfl (by kernel_rfl) (by kernel_rfl) (by kernel_rfl) (by kernel_rfl) (by kernel_rfl) (fun _ _ _ h => h) (Or.inl ⟨by kernel_rfl, ?_⟩) hS ?_
  · intro V hV
    go_simp
    (try with_reducible rfl)
  simp only [put_list, List.set_cons_succ, List.set_cons_zero]
  refine anyZ_take (i := 2) (g := 12) (v := ?_) rfl (by kernel_rfl) (by kernel_rfl) (by kernel_rfl) (by kernel_rfl) (by kernel_rfl) (fun _ _ _ h => h) (Or.inl ⟨by kernel_rfl, ?_⟩) hS ?_
  rotate_left
  · intro V hV
    go_simp
    (try with_reducible rfl)
  simp only [put_list, List.set_cons_succ, List.set_cons_zero]
  refine anyZ_take (i := 3) (g := 12) (v := .slice (some ⟨N, 0, none⟩) 4 4) rfl (by kernel_rfl) (by kernel_rfl) (by kernel_rfl) (by kernel_rfl) (by kernel_rfl) (fun _ _ _ h => h) (Or.inl ⟨by kernel_rfl, ?_⟩) hS ?_
  · intro V hV
    go_simp
    (try with_reducible rfl)
  simp only [put_list, List.set_cons_succ, List.set_cons_zero]
  refine anyZ_one (i := 4) (by kernel_rfl) rfl (fun K hK => ?_)
  refine ite_wp (by kernel_rfl) ?_
  have f2 := (hS.block _ (lt_of_block H2.out)).trans H2.out
  have f0 := (hS.block _ (lt_of_block H0.out)).trans H0.out
  refine wp_copyD (.tmp 5) (.tmp 7) 8 rfl rfl rfl rfl (copy_pn (x := x) _ f2 (pn_size _ _ _ _ _) (by omega) (P4.pt_x f0)) ?_
  have g1 := blk_sets (P4.nv (x)).toList 0 f2
  rw [pn_put0 hx (0) (0) (0) false] at g1
  have hB1 := (But.sets (P4.nv (x)).toList 0 (But.refl B2 W0.drew))
  generalize World.setCells W0.drew B2 0 (P4.nv (x)).toList = x1 at g1 hB1 ⊢
  refine hK.out _ _ (fun h => absurd (by decide) h) ?_
  clear hK K
  refine anyZ_done (by kernel_rfl) ?_ _
  (try simp only [put_none])
  refine HK1.out _ _ ?_
  clear HK1 K1
  have H0' := hideP ((hB1.same _ (by omega)).trans f0)
  have HC' := hideP ((hB1.same _ (by omega)).trans ((hS.block _ (lt_of_block HC.out)).trans HC.out))
  have HBW' := hideP (HBW.out.trans ((hS.mono (Nat.le_of_lt (lt_of_block H0.out))).trans (hB1.below.mono (by omega))))
  have H2' := hideP g1
  clear H0 HC HBW H2 f0 f2 hS hB1 g1
  have H0 := H0'
  have HC := HC'
  have HBW := HBW'
  have H2 := H2'
  clear H0' HC' HBW' H2'
  refine wp_seqH (fun K1 HK1 => ?_)
  refine region_late [4] (fun V => Below x1.heap.size x1 V) (by kernel_rfl) (Below.refl _ _).drew (fun hS => ?_)
  refine anyZ_take (i := 0) (g := 12) (v := ?_) rfl (by kernel_rfl) (by kernel_rfl) (by kernel_rfl) (by kernel_rfl) (by kernel_rfl) (fun _ _ _ h => h) (Or.inl ⟨by kernel_rfl, ?_⟩) hS ?_
  rotate_left
  · intro V hV
    go_simp
    (try with_reducible rfl)
  simp only [put_list, List.set_cons_succ, List.set_cons_zero]
  refine anyZ_take (i := 1) (g := 12) (v := .slice (some ⟨B2, 12, none⟩) 6 6) rfl (by kernel_rfl) (by kernel_rfl) (by kernel_rfl) (by kernel_rfl) (by kernel_rfl) (fun _ _ _ h => h) (Or.inl ⟨by kernel_rfl, ?_⟩) hS ?_
  · intro V hV
    go_simp
    (try with_reducible rfl)
  simp only [put_list, List.set_cons_succ, List.set_cons_zero]
  refine anyZ_take (i := 2) (g := 12) (v := ?_) rfl (by kernel_rfl) (by kernel_rfl) (by kernel_rfl) (by kernel_rfl) (by kernel_rfl) (fun _ _ _ h => h) (Or.inl ⟨by kernel_rfl, ?_⟩) hS ?_
  rotate_left
  · intro V hV
    go_simp
    (try with_reducible rfl)
  simp only [put_list, List.set_cons_succ, List.set_cons_zero]
  refine anyZ_take (i := 3) (g := 12) (v := .slice (some ⟨N, 4, none⟩) 4 4) rfl (by kernel_rfl) (by kernel_rfl) (by kernel_rfl) (by kernel_rfl) (by kernel_rfl) (fun _ _ _ h => h) (Or.inl ⟨by kernel_rfl, ?_⟩) hS ?_
  · intro V hV
    go_simp
    (try with_reducible rfl)
  simp only [put_list, List.set_cons_succ, List.set_cons_zero]
  refine anyZ_one (i := 4) (by kernel_rfl) rfl (fun K hK => ?_)
  refine ite_wp (by kernel_rfl) ?_
  have f2 := (hS.block _ (lt_of_block H2.out)).trans H2.out
  have f0 := (hS.block _ (lt_of_block H0.out)).trans H0.out
  refine wp_copyD (.tmp 10) (.tmp 12) 13 rfl rfl rfl rfl (copy_pn (x := y) _ f2 (pn_size _ _ _ _ _) (by omega) (P4.pt_y f0)) ?_
  have g1 := blk_sets (P4.nv (y)).toList 12 f2
  rw [pn_put2 hy (x) (0) (0) false] at g1
  have hB1 := (But.sets (P4.nv (y)).toList 12 (But.refl B2 x1.drew))
  generalize World.setCells x1.drew B2 12 (P4.nv (y)).toList = x2 at g1 hB1 ⊢
  refine hK.out _ _ (fun h => absurd (by decide) h) ?_
  clear hK K
  refine anyZ_done (by kernel_rfl) ?_ _
  (try simp only [put_none])
  refine HK1.out _ _ ?_
  clear HK1 K1
  have H0' := hideP ((hB1.same _ (by omega)).trans f0)
  have HC' := hideP ((hB1.same _ (by omega)).trans ((hS.block _ (lt_of_block HC.out)).trans HC.out))
  have HBW' := hideP (HBW.out.trans ((hS.mono (Nat.le_of_lt (lt_of_block H0.out))).trans (hB1.below.mono (by omega))))
  have H2' := hideP g1
  clear H0 HC HBW H2 f0 f2 hS hB1 g1
  have H0 := H0'
  have HC := HC'
  have HBW := HBW'
  have H2 := H2'
  clear H0' HC' HBW' H2'
  refine wp_seqH (fun K1 HK1 => ?_)
  refine wp_region_list ?_
  refine wpList_oper rfl (fun K hK => ?_)
  go_simp
  refine hK _ _ ?_
  clear hK K
  refine wpList_oper rfl (fun K hK => ?_)
  have hf := P4.pt_i H0.out
  go_simp
  refine hK _ _ ?_
  clear hK K hf
  refine wpList_oper rfl (fun K hK => ?_)
  go_simp
  refine hK _ _ ?_
  clear hK K
  refine wpList_oper rfl (fun K hK => ?_)
  have hf := pn_i H2.out
  have hfr : x2.frozen? ⟨B2, 24, none⟩ = false := blk_free H2.out
  go_simp
  refine hK _ _ ?_
  clear hK K hf hfr
  refine at_worldL (fun x9 hx9 => ?_)
  have g9 : x9.heap[B2]? = some (.cells (pn (x) (0) (y) (0) i) 30 (0, 0)) := by
    rw [hx9, ← pn_seti _ _ _ _ false i]
    exact blk_set H2.out _
  have hb9 : But B2 x2 x9 := by
    rw [hx9]
    exact (But.refl B2 x2).set _ _
  clear hx9
  have hC9 := (hb9.same _ (by omega)).trans HC.out
  have HBW9 := hideP (HBW.out.trans (hb9.below.mono (by omega)))
  clear H2 H0 HBW HC hb9
  refine wpList_nil ?_
  refine HK1.out _ _ ?_
  clear HK1 K1
  refine wp_seqH (fun K1 HK1 => ?_)
  refine wp_region_list ?_
  refine wpList_load_midD rfl 30 (.tmp 3) 17 rfl rfl B2 0 (pn (x) (0) (y) (0) i) rfl _ (rangeOf g9) underPn rfl (infoPn (pn_size _ _ _ _ _)) ?_
  simp only [List.set_cons_succ, List.set_cons_zero]
  have hQ := KQ.start hC9 hs
  refine wpList_store_midD rfl 30 (.tmp 2) (.tmp 17) rfl rfl B1 0 (pn (x) (0) (y) (0) i) rfl rfl (hQ.there (pn_size _ _ _ _ _)) (infoPn (pn_size _ _ _ _ _)) (pn_one _ _ _ _ _) ?_
  have g1 := hQ.put (C := pn (x) (0) (y) (0) i) (pn_size _ _ _ _ _)
  have hS := hQ.store (C := pn (x) (0) (y) (0) i) (pn_size _ _ _ _ _)
  generalize World.setCells x9 B1 0 (pn (x) (0) (y) (0) i).toList = x10 at g1 hS ⊢
  refine wpList_nil ?_
  refine HK1.out _ _ ?_
  refine wp_ret ?_
  exact bodyPost_ret_by (results_cell rfl rfl (loadC _ B1 0 30 (pn (x) (0) (y) (0) i) _ (rangeOf g1) underPn rfl (infoPn (pn_size _ _ _ _ _)))) rfl ⟨rfl, HBW9.out.trans (hS.below.mono (by omega))⟩

end Go.Proofs.YtcbdbnfgnonacaaGreat

namespace Go.Proofs.YtcbdbnfgnonacaaGreat.W6
open Go.RowKit Go.Shelf

/-- Where a difference has come to. -/
structure MI (W wr : World) (D : Nat) (x y gk : Nat → Nat) (k c : Nat) : Prop where
  lt : ∀ j, gk j < 18446744073709551616
  sum : val x k + 18446744073709551616 ^ k * c = val gk k + val y k
  c : c ≤ 1
  cells : wr.heap[D]? = some (.cells (cs gk) 28 (0, 0))
  but : But D W wr

theorem MI.put {W wr : World} {D : Nat} {x y gk : Nat → Nat} {k c s c' : Nat} (I : MI W wr D x y gk k c) (hk : k < 6) (hs : s < 18446744073709551616) (hc : c' ≤ 1)
    (e : x k + 18446744073709551616 * c' = s + y k + c) :
    MI W (wr.drew.setCell ⟨D, k, none⟩ (.int .u64 s)) D x y (fun i => if i = k then s else gk i) (k + 1) c' := by
  refine ⟨fun j => ?_, ?_, hc, ?_, I.but.drew.set _ _⟩
  · split
    · exact hs
    · exact I.lt j
  · have h1 : val (fun j => if j = k then s else gk j) k = val gk k := val_congr k (fun j hj => by rw [if_neg (by omega)])
    show val x k + x k * 18446744073709551616 ^ k + 18446744073709551616 ^ (k + 1) * c' = val (fun j => if j = k then s else gk j) k + (if k = k then s else gk k) * 18446744073709551616 ^ k + (val y k + y k * 18446744073709551616 ^ k)
    rw [h1, if_pos rfl, Nat.pow_succ]
    have h2 := I.sum
    grind
  · have h3 : wr.drew.heap[D]? = some (.cells (cs gk) 28 (0, 0)) := I.cells
    have := blk_set (o := k) h3 (.int .u64 s)
    rw [set gk s hk] at this
    exact this

set_option maxHeartbeats 2000000 in
set_option maxRecDepth 100000 in
theorem minus_raw (x y : Nat → Nat) (hx : ∀ j, x j < 18446744073709551616) (hy : ∀ j, y j < 18446744073709551616) (w : World) :
    Calls Tryz.prog 223 #[.agg (cs x), .agg (cs y)] w fun e w' => ∃ (g : Nat → Nat) (c : Nat), e = .returned (.tuple #[.agg (cs g), .int .u64 c]) ∧ (∀ j, g j < 18446744073709551616) ∧ c ≤ 1 ∧
      val x 6 + R * c = val g 6 + val y 6 ∧ Below w.heap.size w w' := by
  have HX := hideP hx
  have HY := hideP hy
  clear hx hy
  unfold cs
  go_enter Tryz.func223, Tryz.ntmps223
  go_wp2_with fail
  rename_i Q' K hK
  have HK := hideP hK
  clear hK
  refine at_world (fun W0 hW0 => ?_)
  have hA : W0.heap[w.heap.size]? = some (.cells (cs x) 28 (0, 0)) := by
    rw [hW0]
    exact (heap_old _ _ (by simp <;> omega)).trans ((heap_old _ _ (by simp)).trans (heap_new _ _))
  have hB : W0.heap[w.heap.size + 1]? = some (.cells (cs y) 28 (0, 0)) := by
    rw [hW0]
    exact (heap_old _ _ (by simp)).trans (heap_new1 _ _ _)
  have hD : W0.heap[w.heap.size + 1 + 1]? = some (.cells (cs (fun _ => 0)) 28 (0, 0)) := by
    rw [hW0]
    exact heap_new2 _ _ _ _
  have HBW : Hid (Below w.heap.size w W0) := by
    show Below _ _ _
    rw [hW0]
    repeat first | exact Below.refl _ _ | (refine Below.alloc ?_ (by simp <;> omega) _)
  clear hW0
  have HI0 : Hid (MI W0 W0 (w.heap.size + 1 + 1) x y (fun _ => 0) 0 0) := ⟨fun _ => by decide, by simp [val], by omega, hD, But.refl _ _⟩
  have HA := hideP hA
  have HB := hideP hB
  clear hA hB hD
  go_loopw [5, 9] (fun c i wr => ∃ (k cv : Nat) (gk : Nat → Nat), k ≤ 6 ∧ i = .int .i64 k ∧ c = .int .u64 cv ∧ MI W0 wr (w.heap.size + 1 + 1) x y gk k cv) (fun _ i _ => 6 - (intOf i).toNat)
  case atStart => exact ⟨0, 0, fun _ => 0, Nat.zero_le _, rfl, rfl, HI0.out⟩
  case round =>
    obtain ⟨k, cv, gk, hk, rfl, rfl, I⟩ := hrel
    have HI := hideP I
    clear I
    by_cases hlt : k < 6
    · obtain ⟨s, c', hs, hc', e2, hsb⟩ := sub64_ex (x k) (y k) cv (HX.out _) (HY.out _) HI.out.c
      have ca := (HI.out.but.cell (o := k) (show w.heap.size ≠ w.heap.size + 1 + 1 by omega)).trans (blk_cell HA.out (get x hlt))
      have cb := (HI.out.but.cell (o := k) (show w.heap.size + 1 ≠ w.heap.size + 1 + 1 by omega)).trans (blk_cell HB.out (get y hlt))
      have fr : ∀ o, wr.frozen? ⟨w.heap.size + 1 + 1, o, none⟩ = false := fun o => blk_free HI.out.cells
      have cd := blk_cell HI.out.cells (get gk hlt)
      have HN := hideP (HI.out.put hlt hs hc' e2)
      have hlt' : (k : Int) < 6 := by omega
      have e4 : IntKind.i64.wrap ((k : Int) + 1) = (k : Int) + 1 := by rw [IntKind.wrap_i64]; omega
      have HKS : Hid (k + 1 ≤ 6) := hlt
      clear e2 hs hc' hk hlt
      go_wp2_with fail
      go_region
      go_wp2_with fail
      refine ⟨⟨k + 1, c', _, HKS.out, by go_num, rfl, HN.out⟩, by have := HKS.out; simp [intOf]; omega⟩
    · have hkn : k = 6 := by omega
      have hnl : ¬ (k : Int) < 6 := by omega
      have HJ : Hid (MI W0 wr (w.heap.size + 1 + 1) x y gk 6 cv) := hkn ▸ HI.out
      clear hk hlt hkn HI
      go_wp2_with fail
      refine HK.out _ _ ?_
      refine endKeepQ (fun _ _ h => h) rfl rfl rfl (by decide) (by decide) (by decide) (by decide) (by decide) (by show 26 < 28; decide) (by show 27 < 28; decide) (by show 5 < 28; decide) rfl under rfl (info _) (one _) (rangeOf HJ.out.cells) (thereOf HJ.out.cells) ?_
      intro wS hBut
      refine ⟨gk, cv, rfl, HJ.out.lt, HJ.out.c, by rw [R_eq]; exact HJ.out.sum, HBW.out.trans ((HJ.out.but.below.trans hBut.below).mono (by omega))⟩

/-- Whether one is below the other, as a limb. -/
def less1 (X Y : Nat) : Nat := if X < Y then 1 else 0

theorem minus_any (X Y : Nat) (hX : X < R) (hY : Y < R) (w : World) :
    Calls Tryz.prog 223 #[wv X, wv Y] w fun e w' => e = .returned (.tuple #[wv (X + R * less1 X Y - Y), .int .u64 (less1 X Y)]) ∧ Below w.heap.size w w' := by
  refine (minus_raw (limb X) (limb Y) (limb_lt X) (limb_lt Y) w).mono ?_
  rintro e w' ⟨g, c, rfl, hg, hc, hs, hb⟩
  refine ⟨?_, hb⟩
  rw [val_limbs hX, val_limbs hY] at hs
  have hl := val_ltR (fun j _ => hg j)
  rw [wv_val (fun j _ => hg j)]
  generalize val g 6 = Z at hs hl
  have hR : c = less1 X Y ∧ Z = X + R * less1 X Y - Y := by
    unfold less1
    have hc' : c = 0 ∨ c = 1 := by omega
    rcases hc' with rfl | rfl
    · rw [if_neg (by omega)]; omega
    · rw [if_pos (by omega)]; omega
  rw [hR.1, hR.2]

end Go.Proofs.YtcbdbnfgnonacaaGreat.W6

namespace Go.Proofs.YtcbdbnfgnonacaaGreat.W6
open Go.RowKit Go.Shelf

theorem putAll_cs (g' g : Nat → Nat) : putAll (cs g') 0 (cs g).toList = cs g := by
  simp [cs, putAll]

theorem there_cs {w : World} {b t : Nat} {g : Nat → Nat} (h : w.heap[b]? = some (.cells (cs g) t (0, 0))) (g' : Nat → Nat) : w.there b 0 (cs g').size := by
  have h1 := thereOf h
  rw [cs_size] at h1 ⊢
  exact h1

/-- The cells of a ring: its modulus, what fills, one, the radix. -/
def rc (m f o r : Nat) : Array Value := #[.int .u64 (limb m 0), .int .u64 (limb m 1), .int .u64 (limb m 2), .int .u64 (limb m 3), .int .u64 (limb m 4), .int .u64 (limb m 5), .int .u64 f, .int .u64 (limb o 0), .int .u64 (limb o 1), .int .u64 (limb o 2), .int .u64 (limb o 3), .int .u64 (limb o 4), .int .u64 (limb o 5), .int .u64 (limb r 0), .int .u64 (limb r 1), .int .u64 (limb r 2), .int .u64 (limb r 3), .int .u64 (limb r 4), .int .u64 (limb r 5)]

/-- A ring lies there. -/
structure RingAt (w : World) (p m f o r : Nat) : Prop where
  heap : w.heap[p]? = some (.cells (rc m f o r) 244 (0, 0))

section
variable {w w' : World} {p m f o r : Nat}
theorem RingAt.below (h : RingAt w p m f o r) (hb : Below w.heap.size w w') : RingAt w' p m f o r := ⟨(hb.block p (lt_of_block h.heap)).trans h.heap⟩

theorem RingAt.belowN (h : RingAt w p m f o r) {N : Nat} (hp : p < N) (hb : Below N w w') : RingAt w' p m f o r := ⟨(hb.block p hp).trans h.heap⟩

theorem RingAt.drew (h : RingAt w p m f o r) : RingAt w.drew p m f o r := ⟨h.heap⟩

theorem RingAt.lt (h : RingAt w p m f o r) : p < w.heap.size := lt_of_block h.heap

theorem RingAt.mod (h : RingAt w p m f o r) : w.rangeAt p 0 (cs (limb m)).toList := World.rangeAt_of_block h.heap 0 6

theorem RingAt.one (h : RingAt w p m f o r) : w.rangeAt p (6 + 1) (cs (limb o)).toList := World.rangeAt_of_block h.heap (6 + 1) 6

theorem RingAt.radix (h : RingAt w p m f o r) : w.rangeAt p (2 * 6 + 1) (cs (limb r)).toList := World.rangeAt_of_block h.heap (2 * 6 + 1) 6

theorem RingAt.fill (h : RingAt w p m f o r) : w.cell? ⟨p, 6, none⟩ = some (.int .u64 f) := blk_cell h.heap rfl

theorem RingAt.limbAt (h : RingAt w p m f o r) {j : Nat} (hj : j < 6) : w.cell? ⟨p, j, none⟩ = some (.int .u64 (limb m j)) := by
  have h1 := h.mod j (.int .u64 (limb m j)) (by rw [Array.getElem?_toList]; exact get _ hj)
  rwa [Nat.zero_add] at h1

end

end Go.Proofs.YtcbdbnfgnonacaaGreat.W6

namespace Go.Proofs.YtcbdbnfgnonacaaGreat.W6
open Go.RowKit Go.Shelf

theorem red_mod {Z m c : Nat} (hZ : Z < R) (hm : m < R) (hc : Z + R * c < 2 * m) : (Z + R * c) % m = if c = 0 ∧ less1 Z m = 1 then Z else Z + R * less1 Z m - m := by
  unfold less1
  by_cases h0 : c = 0
  · subst h0
    by_cases h1 : Z < m
    · simp [h1, Nat.mod_eq_of_lt h1]
    · have : Z % m = Z - m := by rw [Nat.mod_eq_sub_mod (by omega), Nat.mod_eq_of_lt (by omega)]
      simp [h1, this]
  · have hR : R * 1 ≤ R * c := Nat.mul_le_mul_left _ (by omega)
    have hc1 : c = 1 := by
      apply Nat.le_antisymm _ (by omega)
      apply Nat.le_of_not_lt
      intro h
      have := Nat.mul_le_mul_left R (show 2 ≤ c by omega)
      omega
    subst hc1
    have hl : Z < m := by omega
    rw [Nat.mod_eq_sub_mod (by omega), Nat.mod_eq_of_lt (by omega)]
    simp [hl]

set_option maxHeartbeats 2000000 in
set_option maxRecDepth 100000 in
theorem reduce_any (p m f o r Z c : Nat) (w : World) (hr : RingAt w p m f o r) (hm : m < R) (hZ : Z < R) (hc : Z + R * c < 2 * m) :
    Calls Tryz.prog 225 #[.pointer (some ⟨p, 0, none⟩), wv Z, .int .u64 c] w fun e w' => e = .returned (wv ((Z + R * c) % m)) ∧ Below w.heap.size w w' := by
  have HC := hideP (fun w => minus_any Z m hZ hm w)
  have hc2 : c ≤ 1 := by
    apply Nat.le_of_not_lt
    intro h
    have := Nat.mul_le_mul_left R (show 2 ≤ c by omega)
    omega
  rw [red_mod hZ hm hc]
  have hl1 : less1 Z m = 0 ∨ less1 Z m = 1 := by unfold less1; split <;> simp
  clear hm hZ hc
  generalize Z + R * less1 Z m - m = D at *
  generalize less1 Z m = b at *
  have hp : p < w.heap.size := hr.lt
  have HR := hideP hr
  clear hr
  unfold wv at HC ⊢
  go_enter Tryz.func225, Tryz.ntmps225
  go_wp2_with fail
  rename_i Q' K hK
  have HK := hideP hK
  clear hK
  refine at_world (fun W0 hW0 => ?_)
  have hA : W0.heap[w.heap.size]? = some (.cells (cs (limb Z)) 28 (0, 0)) := by
    rw [hW0]
    exact (heap_old _ _ (by simp)).trans (heap_new _ _)
  have hD : W0.heap[w.heap.size + 1]? = some (.cells (cs (fun _ => 0)) 28 (0, 0)) := by
    rw [hW0]
    exact heap_new1 _ _ _
  have HBW : Hid (Below w.heap.size w W0) := by
    show Below _ _ _
    rw [hW0]
    repeat first | exact Below.refl _ _ | (refine Below.alloc ?_ (by simp <;> omega) _)
  clear hW0
  have HR0 := hideP (HR.out.belowN hp HBW.out)
  have HA := hideP hA
  have HD := hideP hD
  clear hA hD HR
  refine wp_region_heldS (S := fun V => Below W0.heap.size W0 V) (by kernel_rfl) ((Below.refl _ _).drew) (fun hS => ?_)
  refine wpAnyH_takeL (i := 0) (v := .agg (cs (limb Z))) rfl (by kernel_rfl) (by kernel_rfl) (by kernel_rfl) (fun _ _ _ h => h) (yieldsIf_load_mid (by kernel_rfl) 28 _ rfl (w.heap.size) (0) rfl (cs (limb Z)).toList _ (fun V hV => rangeOf ((hV.block _ (lt_of_block HA.out)).trans HA.out)) under rfl (info _)) hS ?_
  simp only [put_list, List.set_cons_succ, List.set_cons_zero]
  refine wpAnyH_takeL (i := 1) (v := ?_) rfl (by kernel_rfl) (by kernel_rfl) (by kernel_rfl) (fun _ _ _ h => h) (Or.inl ⟨by kernel_rfl, ?_⟩) hS ?_
  rotate_left
  · intro V hV
    go_simp
    (try with_reducible rfl)
  simp only [put_list, List.set_cons_succ, List.set_cons_zero]
  refine wpAnyH_takeL (i := 2) (v := ?_) rfl (by kernel_rfl) (by kernel_rfl) (by kernel_rfl) (fun _ _ _ h => h) (Or.inl ⟨by kernel_rfl, ?_⟩) hS ?_
  rotate_left
  · intro V hV
    go_simp
    (try with_reducible rfl)
  simp only [put_list, List.set_cons_succ, List.set_cons_zero]
  refine wpAnyH_takeL (i := 3) (v := ?_) rfl (by kernel_rfl) (by kernel_rfl) (by kernel_rfl) (fun _ _ _ h => h) (Or.inl ⟨by kernel_rfl, ?_⟩) hS ?_
  rotate_left
  · intro V hV
    go_simp
    (try with_reducible rfl)
  simp only [put_list, List.set_cons_succ, List.set_cons_zero]
  refine wpAnyH_takeL (i := 4) (v := .agg (cs (limb m))) rfl (by kernel_rfl) (by kernel_rfl) (by kernel_rfl) (fun _ _ _ h => h) (yieldsIf_load_mid (by kernel_rfl) 28 _ rfl (p) (0) rfl (cs (limb m)).toList _ (fun V hV => (HR0.out.below hV).mod) under rfl (info _)) hS ?_
  simp only [put_list, List.set_cons_succ, List.set_cons_zero]
  refine wpAnyH_ready (rs := [5, 9]) (by kernel_rfl) (by simp) (AllReadyH.cons rfl (fun K hK => ?_) (AllReadyH.cons rfl (fun K hK => ?_) AllReadyH.nil))
  · go_simp
    refine (HC.out _).mono ?_
    rintro e w1 ⟨rfl, hbc⟩
    refine hK.out _ _ (hS.trans (hbc.mono hS.size)) (fun hS => ?_)
    clear hK K hbc
    refine wpAnyH_takeL (i := 6) (v := ?_) rfl (by kernel_rfl) (by kernel_rfl) (by kernel_rfl) (fun _ _ _ h => h) (Or.inl ⟨by kernel_rfl, ?_⟩) hS ?_
    rotate_left
    · intro V hV
      go_simp
      (try with_reducible rfl)
    simp only [put_list, List.set_cons_succ, List.set_cons_zero]
    refine wpAnyH_takeL (i := 7) (v := ?_) rfl (by kernel_rfl) (by kernel_rfl) (by kernel_rfl) (fun _ _ _ h => h) (Or.inl ⟨by kernel_rfl, ?_⟩) hS ?_
    rotate_left
    · intro V hV
      go_simp
      (try with_reducible rfl)
    simp only [put_list, List.set_cons_succ, List.set_cons_zero]
    refine wpAnyH_takeL (i := 8) (v := ?_) rfl (by kernel_rfl) (by kernel_rfl) (by kernel_rfl) (fun _ _ _ h => h) (Or.inl ⟨by kernel_rfl, ?_⟩) hS ?_
    rotate_left
    · intro V hV
      go_simp
      (try with_reducible rfl)
    simp only [put_list, List.set_cons_succ, List.set_cons_zero]
    refine wpAnyH_ready (rs := [9]) (by kernel_rfl) (by simp) (AllReadyH.cons rfl (fun K hK => ?_) AllReadyH.nil)
    go_simp
    refine hK.out _ _ (hS.alloc hS.size _) (fun hS2 => ?_)
    clear hK K
    refine at_worldH (fun w2 hw2 => ?_)
    have h1 : w2.heap[w1.heap.size]? = some (.cells (cs (fun _ => 0)) 28 (0, 0)) := by rw [hw2]; exact heap_new _ _
    have l1 := hS.size
    rw [← hw2] at hS2
    clear hw2 hS
    have hS := hS2
    clear hS2
    generalize hbb : w1.heap.size = b1 at h1 l1 ⊢
    clear hbb
    refine wpAnyH_ready (rs := [10]) (by kernel_rfl) (by simp) (AllReadyH.cons rfl (fun K hK => ?_) AllReadyH.nil)
    refine ite_wp (by kernel_rfl) ?_
    refine wp_store_midN 28 (.tmp 7) (.tmp 16) rfl rfl b1 0 (cs (limb D)) rfl rfl (there_cs h1 _) (info _) (one _) ?_
    have g1 := blk_sets (cs (limb D)).toList 0 h1
    rw [putAll_cs] at g1
    have hB1 := But.sets (cs (limb D)).toList 0 (But.refl b1 w2)
    have hSB := hS.trans (hB1.below.mono l1)
    clear h1 hB1
    generalize w2.setCells b1 0 (cs (limb D)).toList = w3 at g1 hSB ⊢
    refine hK.out _ _ hSB (fun hS => ?_)
    clear hK K hSB
    refine wpAnyH_ready (rs := [11]) (by kernel_rfl) (by simp) (AllReadyH.cons rfl (fun K hK => ?_) AllReadyH.nil)
    go_simp
    refine hK.out _ _ hS (fun hS => ?_)
    clear hK K
    refine wpAnyH_done (by kernel_rfl) ?_ _
    (try simp only [put_none])
    have HBS := hideP (HBW.out.trans (hS.mono HBW.out.size))
    have HA3 := hideP ((hS.block _ (lt_of_block HA.out)).trans HA.out)
    have HD3 := hideP ((hS.block _ (lt_of_block HD.out)).trans HD.out)
    have HG := hideP g1
    clear g1 hS l1
    refine HK.out _ _ ?_
    refine wp_seqH (fun K1 HK1 => ?_)
    refine wp_seqH (fun K2 HK2 => ?_)
    by_cases hc0 : c = 0
    · subst hc0
      rcases hl1 with rfl | rfl
      · go_wp2_with fail
        refine HK2.out _ _ ?_
        refine wp_cond_false rfl (wp_skip ?_)
        refine HK1.out _ _ ?_
        refine endRowQ (fun _ _ h => h) rfl rfl rfl (by decide) (by show 25 < 26; decide) rfl under rfl (info _) (one _) (rangeOf HG.out) (there_cs HD3.out _) ?_
        intro wS hBut
        exact ⟨rfl, HBS.out.trans (hBut.below.mono (by omega))⟩
      · go_wp2_with fail
        refine HK2.out _ _ ?_
        refine wp_cond_true rfl ?_
        have hQ : ∀ a w, Q' .ret a w → Exit.then K1 Q' .ret a w := fun _ _ h => h
        refine endRowQ hQ rfl rfl rfl (by decide) (by show 24 < 26; decide) rfl under rfl (info _) (one _) (rangeOf HA3.out) (there_cs HD3.out _) ?_
        intro wS hBut
        exact ⟨rfl, HBS.out.trans (hBut.below.mono (by omega))⟩
    · have hc1 : c = 1 := by omega
      subst hc1
      clear hc0 hc2
      go_wp2_with fail
      refine HK2.out _ _ ?_
      refine wp_cond_false rfl (wp_skip ?_)
      refine HK1.out _ _ ?_
      refine endRowQ (fun _ _ h => h) rfl rfl rfl (by decide) (by show 25 < 26; decide) rfl under rfl (info _) (one _) (rangeOf HG.out) (there_cs HD3.out _) ?_
      intro wS hBut
      exact ⟨rfl, HBS.out.trans (hBut.below.mono (by omega))⟩
  · go_simp
    refine hK.out _ _ (hS.alloc hS.size _) (fun hS2 => ?_)
    clear hK K
    refine at_worldH (fun w1 hw1 => ?_)
    have h1 : w1.heap[W0.heap.size]? = some (.cells (cs (fun _ => 0)) 28 (0, 0)) := by rw [hw1]; exact heap_new _ _
    have l1 := Nat.le_refl W0.heap.size
    rw [← hw1] at hS2
    clear hw1 hS
    have hS := hS2
    clear hS2
    refine wpAnyH_ready (rs := [5]) (by kernel_rfl) (by simp) (AllReadyH.cons rfl (fun K hK => ?_) AllReadyH.nil)
    go_simp
    refine (HC.out _).mono ?_
    rintro e w2 ⟨rfl, hbc⟩
    have h2 := (hbc.block _ (lt_of_block h1)).trans h1
    refine hK.out _ _ (hS.trans (hbc.mono hS.size)) (fun hS2 => ?_)
    clear hK K hbc h1 hS
    have hS := hS2
    have h1 := h2
    clear hS2 h2
    refine wpAnyH_takeL (i := 6) (v := ?_) rfl (by kernel_rfl) (by kernel_rfl) (by kernel_rfl) (fun _ _ _ h => h) (Or.inl ⟨by kernel_rfl, ?_⟩) hS ?_
    rotate_left
    · intro V hV
      go_simp
      (try with_reducible rfl)
    simp only [put_list, List.set_cons_succ, List.set_cons_zero]
    refine wpAnyH_takeL (i := 7) (v := ?_) rfl (by kernel_rfl) (by kernel_rfl) (by kernel_rfl) (fun _ _ _ h => h) (Or.inl ⟨by kernel_rfl, ?_⟩) hS ?_
    rotate_left
    · intro V hV
      go_simp
      (try with_reducible rfl)
    simp only [put_list, List.set_cons_succ, List.set_cons_zero]
    refine wpAnyH_takeL (i := 8) (v := ?_) rfl (by kernel_rfl) (by kernel_rfl) (by kernel_rfl) (fun _ _ _ h => h) (Or.inl ⟨by kernel_rfl, ?_⟩) hS ?_
    rotate_left
    · intro V hV
      go_simp
      (try with_reducible rfl)
    simp only [put_list, List.set_cons_succ, List.set_cons_zero]
    refine wpAnyH_ready (rs := [10]) (by kernel_rfl) (by simp) (AllReadyH.cons rfl (fun K hK => ?_) AllReadyH.nil)
    refine ite_wp (by kernel_rfl) ?_
    refine wp_store_midN 28 (.tmp 7) (.tmp 16) rfl rfl (W0.heap.size) 0 (cs (limb D)) rfl rfl (there_cs h1 _) (info _) (one _) ?_
    have g1 := blk_sets (cs (limb D)).toList 0 h1
    rw [putAll_cs] at g1
    have hB1 := But.sets (cs (limb D)).toList 0 (But.refl (W0.heap.size) w2)
    have hSB := hS.trans (hB1.below.mono l1)
    clear h1 hB1
    generalize w2.setCells (W0.heap.size) 0 (cs (limb D)).toList = w3 at g1 hSB ⊢
    refine hK.out _ _ hSB (fun hS => ?_)
    clear hK K hSB
    refine wpAnyH_ready (rs := [11]) (by kernel_rfl) (by simp) (AllReadyH.cons rfl (fun K hK => ?_) AllReadyH.nil)
    go_simp
    refine hK.out _ _ hS (fun hS => ?_)
    clear hK K
    refine wpAnyH_done (by kernel_rfl) ?_ _
    (try simp only [put_none])
    have HBS := hideP (HBW.out.trans (hS.mono HBW.out.size))
    have HA3 := hideP ((hS.block _ (lt_of_block HA.out)).trans HA.out)
    have HD3 := hideP ((hS.block _ (lt_of_block HD.out)).trans HD.out)
    have HG := hideP g1
    clear g1 hS l1
    refine HK.out _ _ ?_
    refine wp_seqH (fun K1 HK1 => ?_)
    refine wp_seqH (fun K2 HK2 => ?_)
    by_cases hc0 : c = 0
    · subst hc0
      rcases hl1 with rfl | rfl
      · go_wp2_with fail
        refine HK2.out _ _ ?_
        refine wp_cond_false rfl (wp_skip ?_)
        refine HK1.out _ _ ?_
        refine endRowQ (fun _ _ h => h) rfl rfl rfl (by decide) (by show 25 < 26; decide) rfl under rfl (info _) (one _) (rangeOf HG.out) (there_cs HD3.out _) ?_
        intro wS hBut
        exact ⟨rfl, HBS.out.trans (hBut.below.mono (by omega))⟩
      · go_wp2_with fail
        refine HK2.out _ _ ?_
        refine wp_cond_true rfl ?_
        have hQ : ∀ a w, Q' .ret a w → Exit.then K1 Q' .ret a w := fun _ _ h => h
        refine endRowQ hQ rfl rfl rfl (by decide) (by show 24 < 26; decide) rfl under rfl (info _) (one _) (rangeOf HA3.out) (there_cs HD3.out _) ?_
        intro wS hBut
        exact ⟨rfl, HBS.out.trans (hBut.below.mono (by omega))⟩
    · have hc1 : c = 1 := by omega
      subst hc1
      clear hc0 hc2
      go_wp2_with fail
      refine HK2.out _ _ ?_
      refine wp_cond_false rfl (wp_skip ?_)
      refine HK1.out _ _ ?_
      refine endRowQ (fun _ _ h => h) rfl rfl rfl (by decide) (by show 25 < 26; decide) rfl under rfl (info _) (one _) (rangeOf HG.out) (there_cs HD3.out _) ?_
      intro wS hBut
      exact ⟨rfl, HBS.out.trans (hBut.below.mono (by omega))⟩

end Go.Proofs.YtcbdbnfgnonacaaGreat.W6
