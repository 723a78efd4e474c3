/-
  A call whose contract tells more than a value.
-/
import Derived.Test.YtcbdbnfgnonacaaGreatCurveBn1C05
import Derived.Test.YtcbdbnfgnonacaaGreatCurveBn1C02
import Derived.Test.YtcbdbnfgnonacaaGreatCurveBn1C01
namespace Go.Proofs.YtcbdbnfgnonacaaGreat
open Go.RowKit Go.Shelf

/-- What stands for X: the document's elements, of n words. -/
def elN (n M X : Nat) : Nat := X * 18446744073709551616 ^ n % M

/-- A modulus of n words. -/
structure FM (n M : Nat) : Prop where
  n0 : 0 < n
  n8 : n ≤ 8
  lt : M < 18446744073709551616 ^ n
  ge : 3 ≤ M
  odd : M % 2 = 1

theorem FM.pos {n M : Nat} (h : FM n M) : 0 < M := by have := h.ge; omega

theorem elN_lt {n M : Nat} (h : FM n M) (X : Nat) : elN n M X < M := Nat.mod_lt _ h.pos

theorem pow_two (n : Nat) : 18446744073709551616 ^ n = 2 ^ (64 * n) := by
  rw [Nat.pow_mul]

theorem FM.uniq {n M P Q : Nat} (h : FM n M) (hP : P < M) (hQ : Q < M) (e : P * 18446744073709551616 ^ n % M = Q * 18446744073709551616 ^ n % M) : P = Q := by
  rw [pow_two] at e
  exact MN.uniq h.odd (64 * n) hP hQ e

/-- A Field of the document. -/
structure FF (w : World) (fv : Value) (n M : Nat) : Prop where
  ex : ∃ mv fo tv, fv = .agg #[mv, .int .u64 ((fo : Nat) : Int), tv] ∧ LW w mv n (limb M) ∧ LW w tv n (limb (18446744073709551616 ^ n * 18446744073709551616 ^ n % M)) ∧ (M % 18446744073709551616 * fo + 1) % 18446744073709551616 = 0

theorem FF.moved {w w' : World} {fv : Value} {n M : Nat} (h : FF w fv n M) (hb : Below w.heap.size w w') : FF w' fv n M := by
  obtain ⟨mv, fo, tv, e, h1, h2, h3⟩ := h.ex
  exact ⟨mv, fo, tv, e, h1.moved hb, h2.moved hb, h3⟩

set_option maxHeartbeats 1000000 in
set_option maxRecDepth 100000 in
theorem rtimes_raw {n M : Nat} (hM : FM n M) (X Y : Nat) (hX : X < 18446744073709551616 ^ n) (hY : Y < 18446744073709551616 ^ n) (hXY : X * Y < M * 18446744073709551616 ^ n) (w : World) (fv u v : Value) (hF : FF w fv n M) (hu : LW w u n (limb X)) (hv : LW w v n (limb Y)) :
    Calls Tryz.prog 227 #[fv, u, v] w fun r w' => (∃ v', r = .returned v' ∧ ∃ P, LW w' v' n (limb P) ∧ P < M ∧ P * 18446744073709551616 ^ n % M = X * Y % M) ∧ Below w.heap.size w w' := by
  have HU := hideP hu
  have HV := hideP hv
  have HH : Hid (FM n M ∧ X < 18446744073709551616 ^ n ∧ Y < 18446744073709551616 ^ n ∧ X * Y < M * 18446744073709551616 ^ n) := ⟨hM, hX, hY, hXY⟩
  clear hu hv hM hX hY hXY
  obtain ⟨mv, fo, tv, rfl, hm, ht, hfo⟩ := hF.ex
  have HMV := hideP hm
  have HTV := hideP ht
  have HFO := hideP hfo
  clear hF hm ht hfo
  go_enter Tryz.func227, Tryz.ntmps227
  refine wp_seqH (fun K0 HK0 => ?_)
  go_wp2_with fail
  refine HK0.out _ _ ?_
  refine at_world (fun W0 hW0 => ?_)
  have hB0 : W0.heap[w.heap.size]? = some (.cells #[mv, .int .u64 fo, tv] 39 (0, 0)) := by
    rw [hW0]
    exact heap_new _ _
  have HBW : Hid (Below w.heap.size w W0) := by
    show Below _ _ _
    rw [hW0]
    repeat first | exact Below.refl _ _ | (refine Below.alloc ?_ (by simp <;> omega) _)
  have HB0 := hideP hB0
  clear hW0 hB0
  refine wp_seqH (fun K1 HK1 => ?_)
  refine wp_region_heldS (S := fun V => Below W0.heap.size W0 V) (by kernel_rfl) ((Below.refl _ _).drew) (fun hS => ?_)
  refine wpAnyH_takeL (i := 1) (v := ?_) rfl (by kernel_rfl) (by kernel_rfl) (by kernel_rfl) (fun _ _ _ h => h) (Or.inl ⟨by kernel_rfl, ?_⟩) hS ?_
  rotate_left
  · intro V hV
    go_simp
    (try with_reducible rfl)
  simp only [put_list, List.set_cons_succ, List.set_cons_zero]
  refine wpAnyH_takeL (i := 2) (v := ?_) rfl (by kernel_rfl) (by kernel_rfl) (by kernel_rfl) (fun _ _ _ h => h) (Or.inl ⟨by kernel_rfl, ?_⟩) hS ?_
  rotate_left
  · intro V hV
    go_simp
    (try with_reducible rfl)
  simp only [put_list, List.set_cons_succ, List.set_cons_zero]
  refine wpAnyH_takeL (i := 0) (v := ?_) rfl (by kernel_rfl) (by kernel_rfl) (by kernel_rfl) (fun _ _ _ h => h) (Or.inl ⟨by kernel_rfl, ?_⟩) hS ?_
  rotate_left
  · intro V hV
    have k0 : V.cell? ⟨w.heap.size, 0, none⟩ = some mv := blk_cell ((hV.block _ (lt_of_block HB0.out)).trans HB0.out) rfl
    have k1 : V.cell? ⟨w.heap.size, 1, none⟩ = some (.int .u64 fo) := blk_cell ((hV.block _ (lt_of_block HB0.out)).trans HB0.out) rfl
    have k2 : V.cell? ⟨w.heap.size, 2, none⟩ = some tv := blk_cell ((hV.block _ (lt_of_block HB0.out)).trans HB0.out) rfl
    go_simp
    (try with_reducible rfl)
  simp only [put_list, List.set_cons_succ, List.set_cons_zero]
  refine wpAnyH_ready (rs := [3]) (by kernel_rfl) (by simp) (AllReadyH.cons rfl (fun K hK => ?_) AllReadyH.nil)
  go_simp
  refine (rmul_any HH.out.1.n8 X Y HH.out.2.1 HH.out.2.2.1 _ u v (HU.out.moved (HBW.out.trans (hS.mono HBW.out.size))) (HV.out.moved (HBW.out.trans (hS.mono HBW.out.size)))).mono ?_
  rintro r y1 ⟨⟨gp, rfl, hg, -⟩, hb⟩
  refine hK.out _ _ (hS.trans (hb.mono hS.size)) (fun hS2 => ?_)
  clear hS
  have hS := hS2
  clear hS2
  have HP := hideP (row_LW (by have := HH.out.1.n8; omega) hg)
  clear hg
  clear hb
  clear hK K
  refine wpAnyH_ready (rs := [4]) (by kernel_rfl) (by simp) (AllReadyH.cons rfl (fun K hK => ?_) AllReadyH.nil)
  go_simp
  refine (rreduce_any HH.out.1.n0 HH.out.1.n8 (X * Y) M fo HH.out.1.lt HH.out.1.pos HH.out.2.2.2 HFO.out _ _ mv tv HP.out (HMV.out.moved (HBW.out.trans (hS.mono HBW.out.size)))).mono ?_
  rintro r y2 ⟨⟨vp, rfl, P, hL, hP1, hP2⟩, hb⟩
  refine hK.out _ _ (hS.trans (hb.mono hS.size)) (fun hS2 => ?_)
  clear hS
  have hS := hS2
  clear hS2
  have HL : Hid (LW y2 vp n (limb P) ∧ P < M ∧ P * 18446744073709551616 ^ n % M = X * Y % M) := ⟨hL, hP1, hP2⟩
  clear hL hP1 hP2
  clear hb
  clear hK K
  refine wpAnyH_ready (rs := [5]) (by kernel_rfl) (by simp) (AllReadyH.cons rfl (fun K hK => ?_) AllReadyH.nil)
  go_simp
  refine hK.out _ _ hS (fun hS => ?_)
  clear hK K
  refine wpAnyH_done (by kernel_rfl) ?_ _
  (try simp only [put_none])
  refine HK1.out _ _ ?_
  have HE := hideP (HBW.out.trans (hS.mono HBW.out.size))
  clear hS
  go_wp2
  go_ret
  exact ⟨⟨_, rfl, P, HL.out⟩, HE.out⟩

/-- A product of what stands for X and what stands for Y. -/
theorem rtimes_el {n M : Nat} (hM : FM n M) (X Y : Nat) (w : World) (fv u v : Value) (hF : FF w fv n M) (hu : LW w u n (limb (elN n M X))) (hv : LW w v n (limb (elN n M Y))) :
    Calls Tryz.prog 227 #[fv, u, v] w fun r w' => (∃ v', r = .returned v' ∧ LW w' v' n (limb (elN n M (X * Y)))) ∧ Below w.heap.size w w' := by
  have h1 := elN_lt hM X
  have h2 := elN_lt hM Y
  have hl := hM.lt
  refine (rtimes_raw hM (elN n M X) (elN n M Y) (by omega) (by omega) (Nat.lt_of_le_of_lt (Nat.mul_le_mul_left _ (Nat.le_of_lt (Nat.lt_trans h2 hl))) (Nat.mul_lt_mul_of_pos_right h1 (by omega))) w fv u v hF hu hv).mono ?_
  rintro r w' ⟨⟨v', rfl, P, hL, hP, e⟩, hb⟩
  refine ⟨⟨v', rfl, ?_⟩, hb⟩
  have : P = elN n M (X * Y) := by
    refine hM.uniq hP (elN_lt hM _) ?_
    rw [e]
    unfold elN
    rw [← Nat.mul_mod, Nat.mod_mul_mod]
    congr 1
    generalize 18446744073709551616 ^ n = Q
    grind
  rw [← this]
  exact hL

/-- Into the document's form. -/
theorem rtimes_in {n M : Nat} (hM : FM n M) (X : Nat) (hX : X < M) (w : World) (fv u v : Value) (hF : FF w fv n M) (hu : LW w u n (limb X)) (hv : LW w v n (limb (18446744073709551616 ^ n * 18446744073709551616 ^ n % M))) :
    Calls Tryz.prog 227 #[fv, u, v] w fun r w' => (∃ v', r = .returned v' ∧ LW w' v' n (limb (elN n M X))) ∧ Below w.heap.size w w' := by
  have h2 := Nat.mod_lt (18446744073709551616 ^ n * 18446744073709551616 ^ n) hM.pos
  have hl := hM.lt
  refine (rtimes_raw hM X (18446744073709551616 ^ n * 18446744073709551616 ^ n % M) (by omega) (by omega) (Nat.lt_of_le_of_lt (Nat.mul_le_mul_left _ (Nat.le_of_lt (Nat.lt_trans h2 hl))) (Nat.mul_lt_mul_of_pos_right hX (by omega))) w fv u v hF hu hv).mono ?_
  rintro r w' ⟨⟨v', rfl, P, hL, hP, e⟩, hb⟩
  refine ⟨⟨v', rfl, ?_⟩, hb⟩
  have : P = elN n M X := by
    refine hM.uniq hP (elN_lt hM _) ?_
    rw [e]
    unfold elN
    rw [Nat.mul_mod_mod, Nat.mod_mul_mod, Nat.mul_assoc]
  rw [← this]
  exact hL

/-- A product of what stands for X and of Y itself. -/
theorem rtimes_out {n M : Nat} (hM : FM n M) (X Y : Nat) (hY : Y < M) (w : World) (fv u v : Value) (hF : FF w fv n M) (hu : LW w u n (limb (elN n M X))) (hv : LW w v n (limb Y)) :
    Calls Tryz.prog 227 #[fv, u, v] w fun r w' => (∃ v', r = .returned v' ∧ LW w' v' n (limb (X * Y % M))) ∧ Below w.heap.size w w' := by
  have h1 := elN_lt hM X
  have hl := hM.lt
  refine (rtimes_raw hM (elN n M X) Y (by omega) (by omega) (Nat.lt_of_le_of_lt (Nat.mul_le_mul_left _ (Nat.le_of_lt (Nat.lt_trans hY hl))) (Nat.mul_lt_mul_of_pos_right h1 (by omega))) w fv u v hF hu hv).mono ?_
  rintro r w' ⟨⟨v', rfl, P, hL, hP, e⟩, hb⟩
  refine ⟨⟨v', rfl, ?_⟩, hb⟩
  have : P = X * Y % M := by
    refine hM.uniq hP (Nat.mod_lt _ hM.pos) ?_
    rw [e]
    unfold elN
    rw [Nat.mod_mul_mod, Nat.mod_mul_mod]
    congr 1
    generalize 18446744073709551616 ^ n = Q
    grind
  rw [← this]
  exact hL

set_option maxHeartbeats 1000000 in
set_option maxRecDepth 100000 in
/-- The document's MulMod. -/
theorem rmulMod_any {n M : Nat} (hM : FM n M) (X Y : Nat) (hX : X < M) (hY : Y < M) (w : World) (fv u v : Value) (hF : FF w fv n M) (hu : LW w u n (limb X)) (hv : LW w v n (limb Y)) :
    Calls Tryz.prog 165 #[fv, u, v] w fun r w' => (∃ v', r = .returned v' ∧ LW w' v' n (limb (X * Y % M))) ∧ Below w.heap.size w w' := by
  have HU := hideP hu
  have HV := hideP hv
  have HFF := hideP hF
  have HH : Hid (FM n M ∧ X < M ∧ Y < M) := ⟨hM, hX, hY⟩
  clear hu hv hM hX hY
  obtain ⟨mv, fo, tv, rfl, hm, ht, hfo⟩ := hF.ex
  have HMV := hideP hm
  have HTV := hideP ht
  have HFO := hideP hfo
  clear hF hm ht hfo
  go_enter Tryz.func165, Tryz.ntmps165
  refine wp_seqH (fun K0 HK0 => ?_)
  go_wp2_with fail
  refine HK0.out _ _ ?_
  refine at_world (fun W0 hW0 => ?_)
  have hB0 : W0.heap[w.heap.size]? = some (.cells #[mv, .int .u64 fo, tv] 39 (0, 0)) := by
    rw [hW0]
    exact heap_new _ _
  have HBW : Hid (Below w.heap.size w W0) := by
    show Below _ _ _
    rw [hW0]
    repeat first | exact Below.refl _ _ | (refine Below.alloc ?_ (by simp <;> omega) _)
  have HB0 := hideP hB0
  clear hW0 hB0
  refine wp_seqH (fun K1 HK1 => ?_)
  refine wp_region_heldS (S := fun V => Below W0.heap.size W0 V) (by kernel_rfl) ((Below.refl _ _).drew) (fun hS => ?_)
  refine wpAnyH_takeL (i := 0) (v := ?_) rfl (by kernel_rfl) (by kernel_rfl) (by kernel_rfl) (fun _ _ _ h => h) (Or.inl ⟨by kernel_rfl, ?_⟩) hS ?_
  rotate_left
  · intro V hV
    have k0 : V.cell? ⟨w.heap.size, 0, none⟩ = some mv := blk_cell ((hV.block _ (lt_of_block HB0.out)).trans HB0.out) rfl
    have k1 : V.cell? ⟨w.heap.size, 1, none⟩ = some (.int .u64 fo) := blk_cell ((hV.block _ (lt_of_block HB0.out)).trans HB0.out) rfl
    have k2 : V.cell? ⟨w.heap.size, 2, none⟩ = some tv := blk_cell ((hV.block _ (lt_of_block HB0.out)).trans HB0.out) rfl
    go_simp
    (try with_reducible rfl)
  simp only [put_list, List.set_cons_succ, List.set_cons_zero]
  refine wpAnyH_takeL (i := 1) (v := ?_) rfl (by kernel_rfl) (by kernel_rfl) (by kernel_rfl) (fun _ _ _ h => h) (Or.inl ⟨by kernel_rfl, ?_⟩) hS ?_
  rotate_left
  · intro V hV
    have k0 : V.cell? ⟨w.heap.size, 0, none⟩ = some mv := blk_cell ((hV.block _ (lt_of_block HB0.out)).trans HB0.out) rfl
    have k1 : V.cell? ⟨w.heap.size, 1, none⟩ = some (.int .u64 fo) := blk_cell ((hV.block _ (lt_of_block HB0.out)).trans HB0.out) rfl
    have k2 : V.cell? ⟨w.heap.size, 2, none⟩ = some tv := blk_cell ((hV.block _ (lt_of_block HB0.out)).trans HB0.out) rfl
    go_simp
    (try with_reducible rfl)
  simp only [put_list, List.set_cons_succ, List.set_cons_zero]
  refine wpAnyH_takeL (i := 2) (v := ?_) rfl (by kernel_rfl) (by kernel_rfl) (by kernel_rfl) (fun _ _ _ h => h) (Or.inl ⟨by kernel_rfl, ?_⟩) hS ?_
  rotate_left
  · intro V hV
    go_simp
    (try with_reducible rfl)
  simp only [put_list, List.set_cons_succ, List.set_cons_zero]
  refine wpAnyH_takeL (i := 3) (v := ?_) rfl (by kernel_rfl) (by kernel_rfl) (by kernel_rfl) (fun _ _ _ h => h) (Or.inl ⟨by kernel_rfl, ?_⟩) hS ?_
  rotate_left
  · intro V hV
    go_simp
    (try with_reducible rfl)
  simp only [put_list, List.set_cons_succ, List.set_cons_zero]
  refine wpAnyH_takeL (i := 4) (v := ?_) rfl (by kernel_rfl) (by kernel_rfl) (by kernel_rfl) (fun _ _ _ h => h) (Or.inl ⟨by kernel_rfl, ?_⟩) hS ?_
  rotate_left
  · intro V hV
    have k0 : V.cell? ⟨w.heap.size, 0, none⟩ = some mv := blk_cell ((hV.block _ (lt_of_block HB0.out)).trans HB0.out) rfl
    have k1 : V.cell? ⟨w.heap.size, 1, none⟩ = some (.int .u64 fo) := blk_cell ((hV.block _ (lt_of_block HB0.out)).trans HB0.out) rfl
    have k2 : V.cell? ⟨w.heap.size, 2, none⟩ = some tv := blk_cell ((hV.block _ (lt_of_block HB0.out)).trans HB0.out) rfl
    go_simp
    (try with_reducible rfl)
  simp only [put_list, List.set_cons_succ, List.set_cons_zero]
  refine wpAnyH_takeL (i := 6) (v := ?_) rfl (by kernel_rfl) (by kernel_rfl) (by kernel_rfl) (fun _ _ _ h => h) (Or.inl ⟨by kernel_rfl, ?_⟩) hS ?_
  rotate_left
  · intro V hV
    go_simp
    (try with_reducible rfl)
  simp only [put_list, List.set_cons_succ, List.set_cons_zero]
  refine wpAnyH_ready (rs := [5]) (by kernel_rfl) (by simp) (AllReadyH.cons rfl (fun K hK => ?_) AllReadyH.nil)
  go_simp
  refine (rtimes_in HH.out.1 X HH.out.2.1 _ _ u tv (HFF.out.moved (HBW.out.trans (hS.mono HBW.out.size))) (HU.out.moved (HBW.out.trans (hS.mono HBW.out.size))) (HTV.out.moved (HBW.out.trans (hS.mono HBW.out.size)))).mono ?_
  rintro r y1 ⟨⟨v1, rfl, hL⟩, hb⟩
  refine hK.out _ _ (hS.trans (hb.mono hS.size)) (fun hS2 => ?_)
  clear hS
  have hS := hS2
  clear hS2
  have HL1 := hideP hL
  clear hL
  clear hb
  clear hK K
  refine wpAnyH_ready (rs := [7]) (by kernel_rfl) (by simp) (AllReadyH.cons rfl (fun K hK => ?_) AllReadyH.nil)
  go_simp
  refine (rtimes_out HH.out.1 X Y HH.out.2.2 _ _ v1 v (HFF.out.moved (HBW.out.trans (hS.mono HBW.out.size))) HL1.out (HV.out.moved (HBW.out.trans (hS.mono HBW.out.size)))).mono ?_
  rintro r y2 ⟨⟨v2, rfl, hL⟩, hb⟩
  refine hK.out _ _ (hS.trans (hb.mono hS.size)) (fun hS2 => ?_)
  clear hS
  have hS := hS2
  clear hS2
  have HL2 := hideP hL
  clear hL
  clear hb
  clear hK K
  refine wpAnyH_ready (rs := [8]) (by kernel_rfl) (by simp) (AllReadyH.cons rfl (fun K hK => ?_) AllReadyH.nil)
  go_simp
  refine hK.out _ _ hS (fun hS => ?_)
  clear hK K
  refine wpAnyH_done (by kernel_rfl) ?_ _
  (try simp only [put_none])
  refine HK1.out _ _ ?_
  have HE := hideP (HBW.out.trans (hS.mono HBW.out.size))
  clear hS
  go_wp2
  go_ret
  exact ⟨⟨_, rfl, HL2.out⟩, HE.out⟩

theorem LW.set0 {w : World} {g n x : Nat} (h : w.heap[g]? = some (.cells (cw n (fun _ => 0)) 27 (0, 0))) (hx : x < 18446744073709551616) : (w.setCell ⟨g, 0, none⟩ (.int .u64 x)).heap[g]? = some (.cells (cw n (limb x)) 27 (0, 0)) := by
  have := blk_set (o := 0) h (.int .u64 x)
  rw [cw_set, cw_congr (g := limb x) (fun j _ => by
    by_cases hj : j = 0
    · rw [if_pos hj, hj]
      simp [limb, Nat.mod_eq_of_lt hx]
    · rw [if_neg hj]
      exact (limb_high (n := 1) (by simpa using hx) (by omega)).symm)] at this
  exact this

set_option maxHeartbeats 1000000 in
set_option maxRecDepth 100000 in
/-- The document's small. -/
theorem rsmall_any {n M : Nat} (hM : FM n M) (x : Nat) (hx : x < 18446744073709551616) (w : World) (fv : Value) (hF : FF w fv n M) :
    Calls Tryz.prog 214 #[fv, .int .u64 x] w fun r w' => (∃ v', r = .returned v' ∧ LW w' v' n (limb x)) ∧ Below w.heap.size w w' := by
  have HH : Hid (FM n M ∧ x < 18446744073709551616) := ⟨hM, hx⟩
  clear hM hx
  obtain ⟨mv, fo, tv, rfl, hm, ht, hfo⟩ := hF.ex
  have HMV := hideP hm
  have HTV := hideP ht
  have HFO := hideP hfo
  clear hF hm ht hfo
  go_enter Tryz.func214, Tryz.ntmps214
  refine wp_seqH (fun K0 HK0 => ?_)
  go_wp2_with fail
  refine HK0.out _ _ ?_
  refine at_world (fun W0 hW0 => ?_)
  have hB0 : W0.heap[w.heap.size]? = some (.cells #[mv, .int .u64 fo, tv] 39 (0, 0)) := by
    rw [hW0]
    exact heap_new _ _
  have HBW : Hid (Below w.heap.size w W0) := by
    show Below _ _ _
    rw [hW0]
    repeat first | exact Below.refl _ _ | (refine Below.alloc ?_ (by simp <;> omega) _)
  have HB0 := hideP hB0
  clear hW0 hB0
  obtain ⟨g2, o2, c2, rfl, _, _, l2, h2⟩ := HMV.out.ex
  have f0 : W0.cell? ⟨w.heap.size, 0, none⟩ = some (.slice (some ⟨g2, o2, none⟩) n c2) := blk_cell HB0.out rfl
  have hn := HH.out.1.n8
  have hn0 := HH.out.1.n0
  have hmk := make_words W0 n (by omega)
  have ew : IntKind.i64.wrap (n : Int) = (n : Int) := by rw [IntKind.wrap_i64]; omega
  refine wp_seqH (fun K1 HK1 => ?_)
  go_wp2_with fail
  refine HK1.out _ _ ?_
  refine at_world (fun W1 hW1 => ?_)
  have hD : W1.heap[W0.heap.size]? = some (.cells (cw n (fun _ => 0)) 27 (0, 0)) := by
    rw [hW1]
    exact heap_new _ _
  have HBd : Hid (Below W0.heap.size W0 W1) := by
    show Below _ _ _
    rw [hW1]
    exact (Below.refl _ _).alloc (Nat.le_refl _) _
  clear hW1 hmk
  have HS := hideP (LW.set0 hD HH.out.2)
  have ca := blk_cell (o := 0) hD (cw_get _ hn0)
  have fr : ∀ o, W1.frozen? ⟨W0.heap.size, o, none⟩ = false := fun o => blk_free hD
  have g0 : (0 : Int) < (n : Int) := by omega
  have HN : Hid (n ≤ 64) := by show n ≤ 64; omega
  clear h2 hn hn0 hD HMV HTV HFO
  go_wp2_with fail
  go_ret
  exact ⟨⟨_, rfl, row_LW HN.out HS.out⟩, HBW.out.trans ((HBd.out.setCell (p := ⟨W0.heap.size, 0, none⟩) (Nat.le_refl _) _).mono HBW.out.size)⟩

set_option maxHeartbeats 1000000 in
set_option maxRecDepth 100000 in
/-- The document's One. -/
theorem rone_any {n M : Nat} (hM : FM n M) (w : World) (fv : Value) (hF : FF w fv n M) :
    Calls Tryz.prog 246 #[fv] w fun r w' => (∃ v', r = .returned v' ∧ LW w' v' n (limb 1)) ∧ Below w.heap.size w w' := by
  have HH : Hid (FM n M) := hM
  clear hM
  obtain ⟨mv, fo, tv, rfl, hm, ht, hfo⟩ := hF.ex
  have HMV := hideP hm
  have HTV := hideP ht
  have HFO := hideP hfo
  clear hF hm ht hfo
  go_enter Tryz.func246, Tryz.ntmps246
  refine wp_seqH (fun K0 HK0 => ?_)
  go_wp2_with fail
  refine HK0.out _ _ ?_
  refine at_world (fun W0 hW0 => ?_)
  have hB0 : W0.heap[w.heap.size]? = some (.cells #[mv, .int .u64 fo, tv] 39 (0, 0)) := by
    rw [hW0]
    exact heap_new _ _
  have HBW : Hid (Below w.heap.size w W0) := by
    show Below _ _ _
    rw [hW0]
    repeat first | exact Below.refl _ _ | (refine Below.alloc ?_ (by simp <;> omega) _)
  have HB0 := hideP hB0
  clear hW0 hB0
  have HMW := hideP (HMV.out.moved HBW.out)
  obtain ⟨g2, o2, c2, rfl, _, _, l2, h2⟩ := HMV.out.ex
  have f0 : W0.cell? ⟨w.heap.size, 0, none⟩ = some (.slice (some ⟨g2, o2, none⟩) n c2) := blk_cell HB0.out rfl
  have hn := HH.out.n8
  have hn0 := HH.out.n0
  have hmk := make_words W0 n (by omega)
  have ew : IntKind.i64.wrap (n : Int) = (n : Int) := by rw [IntKind.wrap_i64]; omega
  refine wp_seqH (fun K1 HK1 => ?_)
  go_wp2_with fail
  refine HK1.out _ _ ?_
  refine at_world (fun W1 hW1 => ?_)
  have hD : W1.heap[W0.heap.size]? = some (.cells (cw n (fun _ => 0)) 27 (0, 0)) := by
    rw [hW1]
    exact heap_new _ _
  have HBd : Hid (Below W0.heap.size W0 W1) := by
    show Below _ _ _
    rw [hW1]
    exact (Below.refl _ _).alloc (Nat.le_refl _) _
  clear hW1 hmk
  have HS := hideP (LW.set0 (x := 1) hD (by decide))
  have ca := blk_cell (o := 0) hD (cw_get _ hn0)
  have fr : ∀ o, W1.frozen? ⟨W0.heap.size, o, none⟩ = false := fun o => blk_free hD
  have g0 : (0 : Int) < (n : Int) := by omega
  have HN : Hid (n ≤ 64) := by show n ≤ 64; omega
  have HB1 : Hid (Below W0.heap.size W0 (W1.setCell ⟨W0.heap.size, 0, none⟩ (.int .u64 ((1 : Nat) : Int)))) := HBd.out.setCell (p := ⟨W0.heap.size, 0, none⟩) (Nat.le_refl _) _
  have f1 : (W1.setCell ⟨W0.heap.size, 0, none⟩ (.int .u64 ((1 : Nat) : Int))).cell? ⟨w.heap.size, 0, none⟩ = some (.slice (some ⟨g2, o2, none⟩) n c2) := (HB1.out.cell (p := ⟨w.heap.size, 0, none⟩) (lt_of_block HB0.out)).trans f0
  have C := hideP (rmod_any (na := n) (n := n) (by omega) hn 1 M (Nat.lt_of_lt_of_le (by decide) (Nat.pow_le_pow_right (show 0 < 18446744073709551616 by decide) hn0)) HH.out.pos HH.out.lt _ _ _ (row_LW HN.out HS.out) (HMW.out.moved HB1.out))
  have h1 : 1 % M = 1 := Nat.mod_eq_of_lt (by have := HH.out.ge; omega)
  rw [h1] at C
  simp only [Int.natCast_one] at C f1 HB1
  clear h2 hn hn0 hD HMV HTV HFO h1
  go_wp2_with fail
  refine C.out.mono ?_
  rintro r w5 ⟨⟨v5, rfl, hL⟩, hb⟩
  have HL := hideP hL
  have HB5 := hideP (HBW.out.trans ((HB1.out.mono HBW.out.size).trans (hb.mono (Nat.le_trans HBW.out.size HB1.out.size))))
  clear hL hb
  go_wp2
  go_ret
  exact ⟨⟨_, rfl, HL.out⟩, HB5.out⟩

end Go.Proofs.YtcbdbnfgnonacaaGreat

namespace Go.Proofs.YtcbdbnfgnonacaaGreat
open Go.RowKit Go.Shelf

set_option maxHeartbeats 1000000 in
set_option maxRecDepth 100000 in
/-- The document's number. -/
theorem rnum_any {n M : Nat} (hM : FM n M) (x : Nat) (hx : x < 18446744073709551616) (w : World) (fv : Value) (hF : FF w fv n M) :
    Calls Tryz.prog 88 #[fv, .int .u64 x] w fun r w' => (∃ v', r = .returned v' ∧ LW w' v' n (limb x)) ∧ Below w.heap.size w w' := by
  have HH : Hid (FM n M ∧ x < 18446744073709551616) := ⟨hM, hx⟩
  clear hM hx
  obtain ⟨mv, fo, tv, rfl, hm, ht, hfo⟩ := hF.ex
  have HMV := hideP hm
  have HTV := hideP ht
  have HFO := hideP hfo
  clear hF hm ht hfo
  go_enter Tryz.func88, Tryz.ntmps88
  refine wp_seqH (fun K0 HK0 => ?_)
  go_wp2_with fail
  refine HK0.out _ _ ?_
  refine at_world (fun W0 hW0 => ?_)
  have hB0 : W0.heap[w.heap.size]? = some (.cells #[mv, .int .u64 fo, tv] 39 (0, 0)) := by
    rw [hW0]
    exact heap_new _ _
  have HBW : Hid (Below w.heap.size w W0) := by
    show Below _ _ _
    rw [hW0]
    repeat first | exact Below.refl _ _ | (refine Below.alloc ?_ (by simp <;> omega) _)
  have HB0 := hideP hB0
  clear hW0 hB0
  obtain ⟨g2, o2, c2, rfl, _, _, l2, h2⟩ := HMV.out.ex
  have f0 : W0.cell? ⟨w.heap.size, 0, none⟩ = some (.slice (some ⟨g2, o2, none⟩) n c2) := blk_cell HB0.out rfl
  have hn := HH.out.1.n8
  have hn0 := HH.out.1.n0
  have hmk := make_words W0 n (by omega)
  have ew : IntKind.i64.wrap (n : Int) = (n : Int) := by rw [IntKind.wrap_i64]; omega
  refine wp_seqH (fun K1 HK1 => ?_)
  go_wp2_with fail
  refine HK1.out _ _ ?_
  refine at_world (fun W1 hW1 => ?_)
  have hD : W1.heap[W0.heap.size]? = some (.cells (cw n (fun _ => 0)) 27 (0, 0)) := by
    rw [hW1]
    exact heap_new _ _
  have HBd : Hid (Below W0.heap.size W0 W1) := by
    show Below _ _ _
    rw [hW1]
    exact (Below.refl _ _).alloc (Nat.le_refl _) _
  clear hW1 hmk
  have HS := hideP (LW.set0 hD HH.out.2)
  have ca := blk_cell (o := 0) hD (cw_get _ hn0)
  have fr : ∀ o, W1.frozen? ⟨W0.heap.size, o, none⟩ = false := fun o => blk_free hD
  have g0 : (0 : Int) < (n : Int) := by omega
  have HN : Hid (n ≤ 64) := by show n ≤ 64; omega
  clear h2 hn hn0 hD HMV HTV HFO
  go_wp2_with fail
  go_ret
  exact ⟨⟨_, rfl, row_LW HN.out HS.out⟩, HBW.out.trans ((HBd.out.setCell (p := ⟨W0.heap.size, 0, none⟩) (Nat.le_refl _) _).mono HBW.out.size)⟩

end Go.Proofs.YtcbdbnfgnonacaaGreat

namespace Go.Proofs.YtcbdbnfgnonacaaGreat
open Go.RowKit Go.Shelf

section
variable {P : Program} {w w' : World} {ρ : Operand → Value} {o : Oper} {v : Value}
theorem ex_move {x : Operand} (ho : o.op = .move x) (hx : ρ x = v) : (execOp ρ o).run P w = .ok (.value v) w := by
  unfold execOp
  simp only [ho, hx, Sem.run_pure]

theorem ex_assign {x : Operand} (ho : o.op = .assign x) (hx : ρ x = v) : (execOp ρ o).run P w = .ok (.value v) w := by
  unfold execOp
  simp only [ho, hx, Sem.run_pure]

theorem ex_load {t : TypeId} {x : Operand} {a : Addr} (ho : o.op = .load t x) (hx : ρ x = .pointer (some a)) (h : (loadVar t a).run P w = .ok v w) : (execOp ρ o).run P w = .ok (.value v) w := by
  unfold execOp
  simp only [ho, hx, Instr.loadAt, Instr.sureAddr, Sem.run_bind, Sem.run_pure, Result.andThen, h]

theorem ex_fa {s : TypeId} {x : Operand} {k : Nat} {xv : Value} (ho : o.op = .fieldAddr s x k) (hx : ρ x = xv) (h : (Instr.fieldAt s xv k).run P w = .ok v w) : (execOp ρ o).run P w = .ok (.value v) w := by
  unfold execOp
  simp only [ho, hx, Sem.run_bind, Sem.run_pure, Result.andThen, h]

theorem ex_ia {t : TypeId} {x y : Operand} {xv yv : Value} (ho : o.op = .indexAddr t x y) (hx : ρ x = xv) (hy : ρ y = yv) (h : (Instr.indexAt t xv yv).run P w = .ok v w) : (execOp ρ o).run P w = .ok (.value v) w := by
  unfold execOp
  simp only [ho, hx, hy, Sem.run_bind, Sem.run_pure, Result.andThen, h]

theorem ex_bs {t : TypeId} {n : Nat} {ps : Array (Nat × Operand)} {vs : Array (Nat × Value)} (ho : o.op = .buildSlice t n ps) (hx : (ps.map fun (i, x) => (i, ρ x)) = vs) (h : (Instr.buildSlice t n vs).run P w = .ok v w') : (execOp ρ o).run P w = .ok (.value v) w' := by
  unfold execOp
  simp only [ho, hx, Sem.run_bind, Sem.run_pure, Result.andThen, h]

theorem ex_build {t : TypeId} {ps : Array (Nat × Operand)} {vs : Array (Nat × Value)} (ho : o.op = .build t ps) (hx : (ps.map fun (i, x) => (i, ρ x)) = vs) (h : (Instr.build t vs).run P w = .ok v w') : (execOp ρ o).run P w = .ok (.value v) w' := by
  unfold execOp
  simp only [ho, hx, Sem.run_bind, Sem.run_pure, Result.andThen, h]

theorem ex_alloc {t : TypeId} (ho : o.op = .alloc t) (h : (Instr.alloc t true (.tuple #[])).run P w = .ok v w') : (execOp ρ o).run P w = .ok (.value v) w' := by
  unfold execOp
  simp only [ho, Sem.run_bind, Sem.run_pure, Result.andThen, h]

theorem ex_box {t : TypeId} {x : Operand} {xv : Value} (ho : o.op = .box t x) (hx : ρ x = xv) : (execOp ρ o).run P w = .ok (.value (.pointer (some ⟨w.heap.size, 0, none⟩))) (w.alloc (.cells xv.cells t (0, 0))) := by
  unfold execOp
  simp only [ho, hx]
  rfl

theorem ex_bin {op : BinOp} {t t2 : TypeId} {x y : Operand} {xv yv : Value} (ho : o.op = .binOp op t x y t2) (hx : ρ x = xv) (hy : ρ y = yv) (hg : (eqGuard op t x y xv yv).run P w = .ok () w) (h : (binOp op t xv yv).run P w = .ok v w) : (execOp ρ o).run P w = .ok (.value v) w := by
  unfold execOp
  simp only [ho, hx, hy, Sem.run_bind, Sem.run_pure, Result.andThen, hg, h]

theorem ex_un {op : UnOp} {t : TypeId} {x : Operand} {xv : Value} (ho : o.op = .unOp op t x) (hx : ρ x = xv) (h : (Op.unary op xv).run P w = .ok v w) : (execOp ρ o).run P w = .ok (.value v) w := by
  unfold execOp
  simp only [ho, hx, Sem.run_bind, Sem.run_pure, Result.andThen, h]

theorem ex_append {x y : Operand} {tys : Array TypeId} {xv yv : Value} (ho : o.op = .call { callee := .builtin .append, args := #[x, y], argTypes := tys }) (hx : ρ x = xv) (hy : ρ y = yv) (h : (Builtin.append_ tys o.type #[xv, yv]).run P w = .ok v w') : (execOp ρ o).run P w = .ok (.value v) w' := by
  simp [execOp, ho, resolve, invoke, builtin, hx, hy, h, Result.andThen]

theorem ex_len {x : Operand} {tys : Array TypeId} {xv : Value} (ho : o.op = .call { callee := .builtin .len, args := #[x], argTypes := tys }) (hx : ρ x = xv) (h : (Builtin.len_ tys o.type #[xv]).run P w = .ok v w) : (execOp ρ o).run P w = .ok (.value v) w := by
  simp [execOp, ho, resolve, invoke, builtin, hx, h, Result.andThen]

theorem ld1 {t : TypeId} {a : Addr} (hA : (isAgg t).run P w = .ok false w) (h : w.cell? a = some v) : (loadVar t a).run P w = .ok v w := by
  unfold loadVar
  simp only [Sem.run_bind, hA, Result.andThen]
  show (load a).run P w = _
  rw [run_load, h]

end

/-- A cell that is there; a box that is there. -/
structure KA (w : World) (g o : Nat) (u : Value) : Prop where
  lt : g < w.heap.size
  cell : w.cell? ⟨g, o, none⟩ = some u

theorem KA.moved {w w' : World} {g o : Nat} {u : Value} (h : KA w g o u) (hb : Below w.heap.size w w') : KA w' g o u := ⟨Nat.lt_of_lt_of_le h.lt hb.size, (hb.cell (p := ⟨g, o, none⟩) h.lt).trans h.cell⟩

structure BX (w : World) (b : Nat) (C : Array Value) (t : TypeId) : Prop where
  heap : w.heap[b]? = some (.cells C t (0, 0))

theorem BX.moved {w w' : World} {b : Nat} {C : Array Value} {t : TypeId} (h : BX w b C t) (hb : Below w.heap.size w w') : BX w' b C t := ⟨(hb.block _ (lt_of_block h.heap)).trans h.heap⟩

/-- A new box. -/
def NB (N : Nat) (C : Array Value) (t : TypeId) : VP := fun v w => ∃ b, v = .pointer (some ⟨b, 0, none⟩) ∧ N ≤ b ∧ BX w b C t

theorem stab_NB (N : Nat) (C : Array Value) (t : TypeId) : Stab (NB N C t) := by
  rintro v w w' ⟨b, rfl, h1, h2⟩ hb
  exact ⟨b, rfl, h1, h2.moved hb⟩

theorem stab_LW (n : Nat) (f : Nat → Nat) : Stab (fun v w => LW w v n f) := fun _ _ _ h hb => h.moved hb

/-- A list of numbers of n words. -/
structure LL (w : World) (v : Value) (n : Nat) (xs : List Nat) : Prop where
  ex : ∃ g o c, v = .slice (some ⟨g, o, none⟩) xs.length c ∧ xs.length ≤ c ∧ c ≤ maxLen ∧ g < w.heap.size ∧ ∀ j x, xs[j]? = some x → ∃ u, w.cell? ⟨g, o + j, none⟩ = some u ∧ LW w u n (limb x)

theorem LL.moved {w w' : World} {v : Value} {n : Nat} {xs : List Nat} (h : LL w v n xs) (hb : Below w.heap.size w w') : LL w' v n xs := by
  obtain ⟨g, o, c, e, h1, h2, hg, hc⟩ := h.ex
  refine ⟨g, o, c, e, h1, h2, Nat.lt_of_lt_of_le hg hb.size, fun j x hj => ?_⟩
  obtain ⟨u, hu, hL⟩ := hc j x hj
  exact ⟨u, (hb.cell (p := ⟨g, o + j, none⟩) hg).trans hu, hL.moved hb⟩

theorem stab_LL (n : Nat) (xs : List Nat) : Stab (fun v w => LL w v n xs) := fun _ _ _ h hb => h.moved hb

theorem LL.one {w : World} {v : Value} {n x : Nat} (h : LL w v n [x]) : ∃ g o c u, v = .slice (some ⟨g, o, none⟩) 1 c ∧ 1 ≤ c ∧ c ≤ maxLen ∧ KA w g (o + 0) u ∧ LW w u n (limb x) := by
  obtain ⟨g, o, c, e, h1, h2, hg, hc⟩ := h.ex
  obtain ⟨u, hu, hL⟩ := hc 0 x rfl
  exact ⟨g, o, c, u, e, h1, h2, ⟨hg, hu⟩, hL⟩

theorem LW.isSlice {w : World} {v : Value} {n : Nat} {f : Nat → Nat} (h : LW w v n f) : v.cells = #[v] := by
  obtain ⟨g, o, c, rfl, _⟩ := h.ex
  rfl

theorem LL.isSlice {w : World} {v : Value} {n : Nat} {xs : List Nat} (h : LL w v n xs) : v.cells = #[v] := by
  obtain ⟨g, o, c, rfl, _⟩ := h.ex
  rfl

theorem bsN (w : World) (k : Nat) {vs : Array (Nat × Value)} {C : Array Value} (hk : k * 1 ≤ 2 ^ 24) (h0 : 0 < k) (hf : Instr.fill (fun i => some (i * 1, 1)) ((Array.range (k * 1)).map (fun _ => .slice none 0 0)) vs.toList = some C) : (Instr.buildSlice 40 k vs).run Tryz.prog w = .ok (.slice (some ⟨w.heap.size, 0, none⟩) k k) (w.alloc (.cells C 37 (0, 0))) := by
  have hu : (underlying 40).run Tryz.prog w = .ok (.slice 37) w := by kernel_rfl
  have hs : (sizeOf 37).run Tryz.prog w = .ok 1 w := by kernel_rfl
  have hz : (zeroValue 37).run Tryz.prog w = .ok (.slice none 0 0) w := by kernel_rfl
  have e : ((Array.range (k * 1)).map fun x => ((Value.slice none 0 0).cells)[x % ((Value.slice none 0 0).cells).size]!) = ((Array.range (k * 1)).map (fun _ => .slice none 0 0)) := by
    refine congrArg (fun f => Array.map f (Array.range (k * 1))) (funext fun x => ?_)
    have h1 : (Value.slice none 0 0).cells = #[.slice none 0 0] := rfl
    rw [h1]
    have h2 : (#[Value.slice none 0 0]).size = 1 := rfl
    rw [h2, Nat.mod_one]
    rfl
  unfold Instr.buildSlice
  rw [Sem.run_bind, hu]
  simp only [Result.andThen, Sem.run_bind, hs]
  rw [if_neg (show ¬ k * 1 > 2 ^ 24 by omega), if_neg (show ¬ k * 1 = 0 by omega)]
  simp only [Result.andThen, Sem.run_bind, Sem.run_pure, hz]
  rw [e, hf]
  rfl

theorem bs1 (w : World) {u : Value} (h : u.cells = #[u]) : (Instr.buildSlice 40 1 #[(0, u)]).run Tryz.prog w = .ok (.slice (some ⟨w.heap.size, 0, none⟩) 1 1) (w.alloc (.cells #[u] 37 (0, 0))) := by
  refine bsN w 1 (by decide) (by decide) ?_
  rw [show ((Array.range (1 * 1)).map (fun _ => Value.slice none 0 0)) = #[.slice none 0 0] by kernel_rfl]
  simp [Instr.fill, h]

theorem bs2 (w : World) {u z : Value} (h : u.cells = #[u]) (h2 : z.cells = #[z]) : (Instr.buildSlice 40 2 #[(0, u), (1, z)]).run Tryz.prog w = .ok (.slice (some ⟨w.heap.size, 0, none⟩) 2 2) (w.alloc (.cells #[u, z] 37 (0, 0))) := by
  refine bsN w 2 (by decide) (by decide) ?_
  rw [show ((Array.range (2 * 1)).map (fun _ => Value.slice none 0 0)) = #[.slice none 0 0, .slice none 0 0] by kernel_rfl]
  simp [Instr.fill, h, h2]

theorem LL.mk1 {w : World} {u : Value} {n x : Nat} (h : LW w u n (limb x)) : LL (w.alloc (.cells #[u] 37 (0, 0))) (.slice (some ⟨w.heap.size, 0, none⟩) 1 1) n [x] := by
  have hb : Below w.heap.size w (w.alloc (.cells #[u] 37 (0, 0))) := (Below.refl _ w).alloc (Nat.le_refl _) _
  have hn := heap_new w (.cells #[u] 37 (0, 0))
  refine ⟨_, 0, 1, rfl, Nat.le_refl _, by unfold maxLen; omega, lt_of_block hn, fun j y hj => ?_⟩
  match j with
  | 0 => cases hj; exact ⟨u, blk_cell hn rfl, h.moved hb⟩
  | j + 1 => simp at hj

theorem LL.mk2 {w : World} {u z : Value} {n x y : Nat} (h : LW w u n (limb x)) (h2 : LW w z n (limb y)) : LL (w.alloc (.cells #[u, z] 37 (0, 0))) (.slice (some ⟨w.heap.size, 0, none⟩) 2 2) n [x, y] := by
  have hb : Below w.heap.size w (w.alloc (.cells #[u, z] 37 (0, 0))) := (Below.refl _ w).alloc (Nat.le_refl _) _
  have hn := heap_new w (.cells #[u, z] 37 (0, 0))
  refine ⟨_, 0, 2, rfl, Nat.le_refl _, by unfold maxLen; omega, lt_of_block hn, fun j t hj => ?_⟩
  match j with
  | 0 => cases hj; exact ⟨u, blk_cell hn rfl, h.moved hb⟩
  | 1 => cases hj; exact ⟨z, blk_cell hn rfl, h2.moved hb⟩
  | j + 2 => simp at hj

theorem range_cut {w : World} {b t : Nat} {C : Array Value} (h : w.heap[b]? = some (.cells C t (0, 0))) {o : Nat} {L : List Value} (e : (C.toList.drop o).take L.length = L) : w.rangeAt b o L := fun j v hv => by
  have hj := (List.getElem?_eq_some_iff.1 hv).1
  refine blk_cell h ?_
  rw [← e, List.getElem?_take, if_pos hj, List.getElem?_drop, Array.getElem?_toList] at hv
  exact hv

theorem below_new (w : World) (c : Obj) : Below w.heap.size w (w.alloc c) := (Below.refl _ w).alloc (Nat.le_refl _) _

/-- An index into a list of lists, of words. -/
theorem ixL (B o n c j : Nat) (hj : j < n) (w : World) : (Instr.indexAt 40 (.slice (some ⟨B, o, none⟩) n c) (.int .i64 (j : Int))).run Tryz.prog w = .ok (.pointer (some ⟨B, o + j, none⟩)) w := by
  have hu : (underlying 40).run Tryz.prog w = .ok (.slice 37) w := by kernel_rfl
  have hs : (sizeOf 37).run Tryz.prog w = .ok 1 w := by kernel_rfl
  unfold Instr.indexAt
  have h1 : ¬ n ≤ j := by omega
  simp [asIntOf, hu, hs, Result.andThen, h1, Addr.add_mid]

/-- A curve of the document: its field and its degree; the rest is whatever it is. -/
structure CF (w : World) (cv : Value) (n M d : Nat) : Prop where
  ex : ∃ mv fo tv x4 x5 x6 x7 x8, cv = .agg #[mv, .int .u64 ((fo : Nat) : Int), tv, .int .i64 (d : Int), x4, x5, x6, x7, x8] ∧ FF w (.agg #[mv, .int .u64 ((fo : Nat) : Int), tv]) n M ∧ LW w mv n (limb M)

theorem CF.moved {w w' : World} {cv : Value} {n M d : Nat} (h : CF w cv n M d) (hb : Below w.heap.size w w') : CF w' cv n M d := by
  obtain ⟨mv, fo, tv, x4, x5, x6, x7, x8, e, hF, hm⟩ := h.ex
  exact ⟨mv, fo, tv, x4, x5, x6, x7, x8, e, hF.moved hb, hm.moved hb⟩

end Go.Proofs.YtcbdbnfgnonacaaGreat

namespace Go.Proofs.YtcbdbnfgnonacaaGreat
open Go.RowKit Go.Shelf

theorem wp_callG {P : Program} {op : Oper} {l : List Value} {ds : List Deferred} {w : World} {K : Act → World → Prop} {Q : Exit → Act → World → Prop} (args : Array Operand) (tys : Array TypeId) (d : Nat) {f : Nat} (ho : op.op = .call { callee := .value (.func f), args := args, argTypes := tys }) (hd : op.dst = some d) {av : Array Value}
    (hx : args.map (Act.eval { tmps := l.toArray, defers := ds }) = av) (hm : ∀ av w, (callFunc f av).run P w = .ok (.enter f av) w) {R : Ending → World → Prop} (hc : Calls P f av w R)
    (h : ∀ e w', R e w' → ∃ v, e = .returned v ∧ K { tmps := (l.set d v).toArray, defers := ds } w') : op.wp P { tmps := l.toArray, defers := ds } w K Q := by
  unfold Oper.wp execOp
  have he : (do let d ← resolve (Act.eval { tmps := l.toArray, defers := ds }) { callee := .value (.func f), args := args, argTypes := tys } op.type; invoke d.target d.args).run P w = .ok (.enter f av) w := by
    have hf : Act.eval { tmps := l.toArray, defers := ds } (.func f) = .func (.func f) #[] #[] := rfl
    simp only [resolve, invoke, Deferred.ofValue, hf, Sem.run_bind, Sem.run_pure, Result.andThen, hx]
    simp [hm]
  simp only [ho]
  rw [he]
  refine hc.mono ?_
  intro e w' hR
  obtain ⟨v, rfl, hK⟩ := h e w' hR
  show K _ _
  rw [hd, put_list]
  exact hK

end Go.Proofs.YtcbdbnfgnonacaaGreat
