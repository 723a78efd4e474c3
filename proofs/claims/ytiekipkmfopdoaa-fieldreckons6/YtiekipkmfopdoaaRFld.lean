/-
  The document's Field: times, MulMod, One, small.
-/
import Derived.Test.YtiekipkmfopdoaaRRed
namespace Go.Proofs.Ytiekipkmfopdoaa
open Go.RowKit Go.Shelf

/-- What stands for X: the document's elements, of n words. -/
def elN (n M X : Nat) : Nat := X * 18446744073709551616 ^ n % M

/-- A modulus of n words. -/
structure FM (n M : Nat) : Prop where
  n0 : 0 < n
  n8 : n ≤ 8
  lt : M < 18446744073709551616 ^ n
  ge : 3 ≤ M
  odd : M % 2 = 1

theorem FM.pos {n M : Nat} (h : FM n M) : 0 < M := by have := h.ge; omega
theorem elN_lt {n M : Nat} (h : FM n M) (X : Nat) : elN n M X < M := Nat.mod_lt _ h.pos

theorem pow_two (n : Nat) : 18446744073709551616 ^ n = 2 ^ (64 * n) := by
  rw [Nat.pow_mul]

theorem FM.uniq {n M P Q : Nat} (h : FM n M) (hP : P < M) (hQ : Q < M) (e : P * 18446744073709551616 ^ n % M = Q * 18446744073709551616 ^ n % M) : P = Q := by
  rw [pow_two] at e
  exact MN.uniq h.odd (64 * n) hP hQ e

/-- A Field of the document. -/
structure FF (w : World) (fv : Value) (n M : Nat) : Prop where
  ex : ∃ mv fo tv, fv = .agg #[mv, .int .u64 ((fo : Nat) : Int), tv] ∧ LW w mv n (limb M) ∧ LW w tv n (limb (18446744073709551616 ^ n * 18446744073709551616 ^ n % M)) ∧ (M % 18446744073709551616 * fo + 1) % 18446744073709551616 = 0

theorem FF.moved {w w' : World} {fv : Value} {n M : Nat} (h : FF w fv n M) (hb : Below w.heap.size w w') : FF w' fv n M := by
  obtain ⟨mv, fo, tv, e, h1, h2, h3⟩ := h.ex
  exact ⟨mv, fo, tv, e, h1.moved hb, h2.moved hb, h3⟩

set_option maxHeartbeats 1000000 in
set_option maxRecDepth 100000 in
theorem rtimes_raw {n M : Nat} (hM : FM n M) (X Y : Nat) (hX : X < 18446744073709551616 ^ n) (hY : Y < 18446744073709551616 ^ n) (hXY : X * Y < M * 18446744073709551616 ^ n) (w : World) (fv u v : Value) (hF : FF w fv n M) (hu : LW w u n (limb X)) (hv : LW w v n (limb Y)) :
    Calls Try.prog 86 #[fv, u, v] w fun r w' => (∃ v', r = .returned v' ∧ ∃ P, LW w' v' n (limb P) ∧ P < M ∧ P * 18446744073709551616 ^ n % M = X * Y % M) ∧ Below w.heap.size w w' := by
  have HU := hideP hu
  have HV := hideP hv
  have HH : Hid (FM n M ∧ X < 18446744073709551616 ^ n ∧ Y < 18446744073709551616 ^ n ∧ X * Y < M * 18446744073709551616 ^ n) := ⟨hM, hX, hY, hXY⟩
  clear hu hv hM hX hY hXY
  obtain ⟨mv, fo, tv, rfl, hm, ht, hfo⟩ := hF.ex
  have HMV := hideP hm
  have HTV := hideP ht
  have HFO := hideP hfo
  clear hF hm ht hfo
  go_enter Try.func86, Try.ntmps86
  refine wp_seqH (fun K0 HK0 => ?_)
  go_wp2_with fail
  refine HK0.out _ _ ?_
  refine at_world (fun W0 hW0 => ?_)
  have hB0 : W0.heap[w.heap.size]? = some (.cells #[mv, .int .u64 fo, tv] 38 (0, 0)) := by
    rw [hW0]
    exact heap_new _ _
  have HBW : Hid (Below w.heap.size w W0) := by
    show Below _ _ _
    rw [hW0]
    repeat first | exact Below.refl _ _ | (refine Below.alloc ?_ (by simp <;> omega) _)
  have HB0 := hideP hB0
  clear hW0 hB0
  refine wp_seqH (fun K1 HK1 => ?_)
  refine wp_region_heldS (S := fun V => Below W0.heap.size W0 V) (by kernel_rfl) ((Below.refl _ _).drew) (fun hS => ?_)
  refine wpAnyH_takeL (i := 1) (v := ?_) rfl (by kernel_rfl) (by kernel_rfl) (by kernel_rfl) (fun _ _ _ h => h) (Or.inl ⟨by kernel_rfl, ?_⟩) hS ?_
  rotate_left
  · intro V hV
    go_simp
    (try with_reducible rfl)
  simp only [put_list, List.set_cons_succ, List.set_cons_zero]
  refine wpAnyH_takeL (i := 2) (v := ?_) rfl (by kernel_rfl) (by kernel_rfl) (by kernel_rfl) (fun _ _ _ h => h) (Or.inl ⟨by kernel_rfl, ?_⟩) hS ?_
  rotate_left
  · intro V hV
    go_simp
    (try with_reducible rfl)
  simp only [put_list, List.set_cons_succ, List.set_cons_zero]
  refine wpAnyH_takeL (i := 0) (v := ?_) rfl (by kernel_rfl) (by kernel_rfl) (by kernel_rfl) (fun _ _ _ h => h) (Or.inl ⟨by kernel_rfl, ?_⟩) hS ?_
  rotate_left
  · intro V hV
    have k0 : V.cell? ⟨w.heap.size, 0, none⟩ = some mv := blk_cell ((hV.block _ (lt_of_block HB0.out)).trans HB0.out) rfl
    have k1 : V.cell? ⟨w.heap.size, 1, none⟩ = some (.int .u64 fo) := blk_cell ((hV.block _ (lt_of_block HB0.out)).trans HB0.out) rfl
    have k2 : V.cell? ⟨w.heap.size, 2, none⟩ = some tv := blk_cell ((hV.block _ (lt_of_block HB0.out)).trans HB0.out) rfl
    go_simp
    (try with_reducible rfl)
  simp only [put_list, List.set_cons_succ, List.set_cons_zero]
  refine wpAnyH_ready (rs := [3]) (by kernel_rfl) (by simp) (AllReadyH.cons rfl (fun K hK => ?_) AllReadyH.nil)
  go_simp
  refine (rmul_any HH.out.1.n8 X Y HH.out.2.1 HH.out.2.2.1 _ u v (HU.out.moved (HBW.out.trans (hS.mono HBW.out.size))) (HV.out.moved (HBW.out.trans (hS.mono HBW.out.size)))).mono ?_
  rintro r y1 ⟨⟨gp, rfl, hg, -⟩, hb⟩
  refine hK.out _ _ (hS.trans (hb.mono hS.size)) (fun hS2 => ?_)
  clear hS
  have hS := hS2
  clear hS2
  have HP := hideP (row_LW (by have := HH.out.1.n8; omega) hg)
  clear hg
  clear hb
  clear hK K
  refine wpAnyH_ready (rs := [4]) (by kernel_rfl) (by simp) (AllReadyH.cons rfl (fun K hK => ?_) AllReadyH.nil)
  go_simp
  refine (rreduce_any HH.out.1.n0 HH.out.1.n8 (X * Y) M fo HH.out.1.lt HH.out.1.pos HH.out.2.2.2 HFO.out _ _ mv tv HP.out (HMV.out.moved (HBW.out.trans (hS.mono HBW.out.size)))).mono ?_
  rintro r y2 ⟨⟨vp, rfl, P, hL, hP1, hP2⟩, hb⟩
  refine hK.out _ _ (hS.trans (hb.mono hS.size)) (fun hS2 => ?_)
  clear hS
  have hS := hS2
  clear hS2
  have HL : Hid (LW y2 vp n (limb P) ∧ P < M ∧ P * 18446744073709551616 ^ n % M = X * Y % M) := ⟨hL, hP1, hP2⟩
  clear hL hP1 hP2
  clear hb
  clear hK K
  refine wpAnyH_ready (rs := [5]) (by kernel_rfl) (by simp) (AllReadyH.cons rfl (fun K hK => ?_) AllReadyH.nil)
  go_simp
  refine hK.out _ _ hS (fun hS => ?_)
  clear hK K
  refine wpAnyH_done (by kernel_rfl) ?_ _
  (try simp only [put_none])
  refine HK1.out _ _ ?_
  have HE := hideP (HBW.out.trans (hS.mono HBW.out.size))
  clear hS
  go_wp2
  go_ret
  exact ⟨⟨_, rfl, P, HL.out⟩, HE.out⟩

/-- A product of what stands for X and what stands for Y. -/
theorem rtimes_el {n M : Nat} (hM : FM n M) (X Y : Nat) (w : World) (fv u v : Value) (hF : FF w fv n M) (hu : LW w u n (limb (elN n M X))) (hv : LW w v n (limb (elN n M Y))) :
    Calls Try.prog 86 #[fv, u, v] w fun r w' => (∃ v', r = .returned v' ∧ LW w' v' n (limb (elN n M (X * Y)))) ∧ Below w.heap.size w w' := by
  have h1 := elN_lt hM X
  have h2 := elN_lt hM Y
  have hl := hM.lt
  refine (rtimes_raw hM (elN n M X) (elN n M Y) (by omega) (by omega) (Nat.lt_of_le_of_lt (Nat.mul_le_mul_left _ (Nat.le_of_lt (Nat.lt_trans h2 hl))) (Nat.mul_lt_mul_of_pos_right h1 (by omega))) w fv u v hF hu hv).mono ?_
  rintro r w' ⟨⟨v', rfl, P, hL, hP, e⟩, hb⟩
  refine ⟨⟨v', rfl, ?_⟩, hb⟩
  have : P = elN n M (X * Y) := by
    refine hM.uniq hP (elN_lt hM _) ?_
    rw [e]
    unfold elN
    rw [← Nat.mul_mod, Nat.mod_mul_mod]
    congr 1
    generalize 18446744073709551616 ^ n = Q
    grind
  rw [← this]
  exact hL

/-- Into the document's form. -/
theorem rtimes_in {n M : Nat} (hM : FM n M) (X : Nat) (hX : X < M) (w : World) (fv u v : Value) (hF : FF w fv n M) (hu : LW w u n (limb X)) (hv : LW w v n (limb (18446744073709551616 ^ n * 18446744073709551616 ^ n % M))) :
    Calls Try.prog 86 #[fv, u, v] w fun r w' => (∃ v', r = .returned v' ∧ LW w' v' n (limb (elN n M X))) ∧ Below w.heap.size w w' := by
  have h2 := Nat.mod_lt (18446744073709551616 ^ n * 18446744073709551616 ^ n) hM.pos
  have hl := hM.lt
  refine (rtimes_raw hM X (18446744073709551616 ^ n * 18446744073709551616 ^ n % M) (by omega) (by omega) (Nat.lt_of_le_of_lt (Nat.mul_le_mul_left _ (Nat.le_of_lt (Nat.lt_trans h2 hl))) (Nat.mul_lt_mul_of_pos_right hX (by omega))) w fv u v hF hu hv).mono ?_
  rintro r w' ⟨⟨v', rfl, P, hL, hP, e⟩, hb⟩
  refine ⟨⟨v', rfl, ?_⟩, hb⟩
  have : P = elN n M X := by
    refine hM.uniq hP (elN_lt hM _) ?_
    rw [e]
    unfold elN
    rw [Nat.mul_mod_mod, Nat.mod_mul_mod, Nat.mul_assoc]
  rw [← this]
  exact hL

/-- A product of what stands for X and of Y itself. -/
theorem rtimes_out {n M : Nat} (hM : FM n M) (X Y : Nat) (hY : Y < M) (w : World) (fv u v : Value) (hF : FF w fv n M) (hu : LW w u n (limb (elN n M X))) (hv : LW w v n (limb Y)) :
    Calls Try.prog 86 #[fv, u, v] w fun r w' => (∃ v', r = .returned v' ∧ LW w' v' n (limb (X * Y % M))) ∧ Below w.heap.size w w' := by
  have h1 := elN_lt hM X
  have hl := hM.lt
  refine (rtimes_raw hM (elN n M X) Y (by omega) (by omega) (Nat.lt_of_le_of_lt (Nat.mul_le_mul_left _ (Nat.le_of_lt (Nat.lt_trans hY hl))) (Nat.mul_lt_mul_of_pos_right h1 (by omega))) w fv u v hF hu hv).mono ?_
  rintro r w' ⟨⟨v', rfl, P, hL, hP, e⟩, hb⟩
  refine ⟨⟨v', rfl, ?_⟩, hb⟩
  have : P = X * Y % M := by
    refine hM.uniq hP (Nat.mod_lt _ hM.pos) ?_
    rw [e]
    unfold elN
    rw [Nat.mod_mul_mod, Nat.mod_mul_mod]
    congr 1
    generalize 18446744073709551616 ^ n = Q
    grind
  rw [← this]
  exact hL

set_option maxHeartbeats 1000000 in
set_option maxRecDepth 100000 in
/-- The document's MulMod. -/
theorem rmulMod_any {n M : Nat} (hM : FM n M) (X Y : Nat) (hX : X < M) (hY : Y < M) (w : World) (fv u v : Value) (hF : FF w fv n M) (hu : LW w u n (limb X)) (hv : LW w v n (limb Y)) :
    Calls Try.prog 42 #[fv, u, v] w fun r w' => (∃ v', r = .returned v' ∧ LW w' v' n (limb (X * Y % M))) ∧ Below w.heap.size w w' := by
  have HU := hideP hu
  have HV := hideP hv
  have HFF := hideP hF
  have HH : Hid (FM n M ∧ X < M ∧ Y < M) := ⟨hM, hX, hY⟩
  clear hu hv hM hX hY
  obtain ⟨mv, fo, tv, rfl, hm, ht, hfo⟩ := hF.ex
  have HMV := hideP hm
  have HTV := hideP ht
  have HFO := hideP hfo
  clear hF hm ht hfo
  go_enter Try.func42, Try.ntmps42
  refine wp_seqH (fun K0 HK0 => ?_)
  go_wp2_with fail
  refine HK0.out _ _ ?_
  refine at_world (fun W0 hW0 => ?_)
  have hB0 : W0.heap[w.heap.size]? = some (.cells #[mv, .int .u64 fo, tv] 38 (0, 0)) := by
    rw [hW0]
    exact heap_new _ _
  have HBW : Hid (Below w.heap.size w W0) := by
    show Below _ _ _
    rw [hW0]
    repeat first | exact Below.refl _ _ | (refine Below.alloc ?_ (by simp <;> omega) _)
  have HB0 := hideP hB0
  clear hW0 hB0
  refine wp_seqH (fun K1 HK1 => ?_)
  refine wp_region_heldS (S := fun V => Below W0.heap.size W0 V) (by kernel_rfl) ((Below.refl _ _).drew) (fun hS => ?_)
  refine wpAnyH_takeL (i := 0) (v := ?_) rfl (by kernel_rfl) (by kernel_rfl) (by kernel_rfl) (fun _ _ _ h => h) (Or.inl ⟨by kernel_rfl, ?_⟩) hS ?_
  rotate_left
  · intro V hV
    have k0 : V.cell? ⟨w.heap.size, 0, none⟩ = some mv := blk_cell ((hV.block _ (lt_of_block HB0.out)).trans HB0.out) rfl
    have k1 : V.cell? ⟨w.heap.size, 1, none⟩ = some (.int .u64 fo) := blk_cell ((hV.block _ (lt_of_block HB0.out)).trans HB0.out) rfl
    have k2 : V.cell? ⟨w.heap.size, 2, none⟩ = some tv := blk_cell ((hV.block _ (lt_of_block HB0.out)).trans HB0.out) rfl
    go_simp
    (try with_reducible rfl)
  simp only [put_list, List.set_cons_succ, List.set_cons_zero]
  refine wpAnyH_takeL (i := 1) (v := ?_) rfl (by kernel_rfl) (by kernel_rfl) (by kernel_rfl) (fun _ _ _ h => h) (Or.inl ⟨by kernel_rfl, ?_⟩) hS ?_
  rotate_left
  · intro V hV
    have k0 : V.cell? ⟨w.heap.size, 0, none⟩ = some mv := blk_cell ((hV.block _ (lt_of_block HB0.out)).trans HB0.out) rfl
    have k1 : V.cell? ⟨w.heap.size, 1, none⟩ = some (.int .u64 fo) := blk_cell ((hV.block _ (lt_of_block HB0.out)).trans HB0.out) rfl
    have k2 : V.cell? ⟨w.heap.size, 2, none⟩ = some tv := blk_cell ((hV.block _ (lt_of_block HB0.out)).trans HB0.out) rfl
    go_simp
    (try with_reducible rfl)
  simp only [put_list, List.set_cons_succ, List.set_cons_zero]
  refine wpAnyH_takeL (i := 2) (v := ?_) rfl (by kernel_rfl) (by kernel_rfl) (by kernel_rfl) (fun _ _ _ h => h) (Or.inl ⟨by kernel_rfl, ?_⟩) hS ?_
  rotate_left
  · intro V hV
    go_simp
    (try with_reducible rfl)
  simp only [put_list, List.set_cons_succ, List.set_cons_zero]
  refine wpAnyH_takeL (i := 3) (v := ?_) rfl (by kernel_rfl) (by kernel_rfl) (by kernel_rfl) (fun _ _ _ h => h) (Or.inl ⟨by kernel_rfl, ?_⟩) hS ?_
  rotate_left
  · intro V hV
    go_simp
    (try with_reducible rfl)
  simp only [put_list, List.set_cons_succ, List.set_cons_zero]
  refine wpAnyH_takeL (i := 4) (v := ?_) rfl (by kernel_rfl) (by kernel_rfl) (by kernel_rfl) (fun _ _ _ h => h) (Or.inl ⟨by kernel_rfl, ?_⟩) hS ?_
  rotate_left
  · intro V hV
    have k0 : V.cell? ⟨w.heap.size, 0, none⟩ = some mv := blk_cell ((hV.block _ (lt_of_block HB0.out)).trans HB0.out) rfl
    have k1 : V.cell? ⟨w.heap.size, 1, none⟩ = some (.int .u64 fo) := blk_cell ((hV.block _ (lt_of_block HB0.out)).trans HB0.out) rfl
    have k2 : V.cell? ⟨w.heap.size, 2, none⟩ = some tv := blk_cell ((hV.block _ (lt_of_block HB0.out)).trans HB0.out) rfl
    go_simp
    (try with_reducible rfl)
  simp only [put_list, List.set_cons_succ, List.set_cons_zero]
  refine wpAnyH_takeL (i := 6) (v := ?_) rfl (by kernel_rfl) (by kernel_rfl) (by kernel_rfl) (fun _ _ _ h => h) (Or.inl ⟨by kernel_rfl, ?_⟩) hS ?_
  rotate_left
  · intro V hV
    go_simp
    (try with_reducible rfl)
  simp only [put_list, List.set_cons_succ, List.set_cons_zero]
  refine wpAnyH_ready (rs := [5]) (by kernel_rfl) (by simp) (AllReadyH.cons rfl (fun K hK => ?_) AllReadyH.nil)
  go_simp
  refine (rtimes_in HH.out.1 X HH.out.2.1 _ _ u tv (HFF.out.moved (HBW.out.trans (hS.mono HBW.out.size))) (HU.out.moved (HBW.out.trans (hS.mono HBW.out.size))) (HTV.out.moved (HBW.out.trans (hS.mono HBW.out.size)))).mono ?_
  rintro r y1 ⟨⟨v1, rfl, hL⟩, hb⟩
  refine hK.out _ _ (hS.trans (hb.mono hS.size)) (fun hS2 => ?_)
  clear hS
  have hS := hS2
  clear hS2
  have HL1 := hideP hL
  clear hL
  clear hb
  clear hK K
  refine wpAnyH_ready (rs := [7]) (by kernel_rfl) (by simp) (AllReadyH.cons rfl (fun K hK => ?_) AllReadyH.nil)
  go_simp
  refine (rtimes_out HH.out.1 X Y HH.out.2.2 _ _ v1 v (HFF.out.moved (HBW.out.trans (hS.mono HBW.out.size))) HL1.out (HV.out.moved (HBW.out.trans (hS.mono HBW.out.size)))).mono ?_
  rintro r y2 ⟨⟨v2, rfl, hL⟩, hb⟩
  refine hK.out _ _ (hS.trans (hb.mono hS.size)) (fun hS2 => ?_)
  clear hS
  have hS := hS2
  clear hS2
  have HL2 := hideP hL
  clear hL
  clear hb
  clear hK K
  refine wpAnyH_ready (rs := [8]) (by kernel_rfl) (by simp) (AllReadyH.cons rfl (fun K hK => ?_) AllReadyH.nil)
  go_simp
  refine hK.out _ _ hS (fun hS => ?_)
  clear hK K
  refine wpAnyH_done (by kernel_rfl) ?_ _
  (try simp only [put_none])
  refine HK1.out _ _ ?_
  have HE := hideP (HBW.out.trans (hS.mono HBW.out.size))
  clear hS
  go_wp2
  go_ret
  exact ⟨⟨_, rfl, HL2.out⟩, HE.out⟩

theorem LW.set0 {w : World} {g n x : Nat} (h : w.heap[g]? = some (.cells (cw n (fun _ => 0)) 23 (0, 0))) (hx : x < 18446744073709551616) : (w.setCell ⟨g, 0, none⟩ (.int .u64 x)).heap[g]? = some (.cells (cw n (limb x)) 23 (0, 0)) := by
  have := blk_set (o := 0) h (.int .u64 x)
  rw [cw_set, cw_congr (g := limb x) (fun j _ => by
    by_cases hj : j = 0
    · rw [if_pos hj, hj]
      simp [limb, Nat.mod_eq_of_lt hx]
    · rw [if_neg hj]
      exact (limb_high (n := 1) (by simpa using hx) (by omega)).symm)] at this
  exact this

set_option maxHeartbeats 1000000 in
set_option maxRecDepth 100000 in
/-- The document's small. -/
theorem rsmall_any {n M : Nat} (hM : FM n M) (x : Nat) (hx : x < 18446744073709551616) (w : World) (fv : Value) (hF : FF w fv n M) :
    Calls Try.prog 82 #[fv, .int .u64 x] w fun r w' => (∃ v', r = .returned v' ∧ LW w' v' n (limb x)) ∧ Below w.heap.size w w' := by
  have HH : Hid (FM n M ∧ x < 18446744073709551616) := ⟨hM, hx⟩
  clear hM hx
  obtain ⟨mv, fo, tv, rfl, hm, ht, hfo⟩ := hF.ex
  have HMV := hideP hm
  have HTV := hideP ht
  have HFO := hideP hfo
  clear hF hm ht hfo
  go_enter Try.func82, Try.ntmps82
  refine wp_seqH (fun K0 HK0 => ?_)
  go_wp2_with fail
  refine HK0.out _ _ ?_
  refine at_world (fun W0 hW0 => ?_)
  have hB0 : W0.heap[w.heap.size]? = some (.cells #[mv, .int .u64 fo, tv] 38 (0, 0)) := by
    rw [hW0]
    exact heap_new _ _
  have HBW : Hid (Below w.heap.size w W0) := by
    show Below _ _ _
    rw [hW0]
    repeat first | exact Below.refl _ _ | (refine Below.alloc ?_ (by simp <;> omega) _)
  have HB0 := hideP hB0
  clear hW0 hB0
  obtain ⟨g2, o2, c2, rfl, _, _, l2, h2⟩ := HMV.out.ex
  have f0 : W0.cell? ⟨w.heap.size, 0, none⟩ = some (.slice (some ⟨g2, o2, none⟩) n c2) := blk_cell HB0.out rfl
  have hn := HH.out.1.n8
  have hn0 := HH.out.1.n0
  have hmk := make_words W0 n (by omega)
  have ew : IntKind.i64.wrap (n : Int) = (n : Int) := by rw [IntKind.wrap_i64]; omega
  refine wp_seqH (fun K1 HK1 => ?_)
  go_wp2_with fail
  refine HK1.out _ _ ?_
  refine at_world (fun W1 hW1 => ?_)
  have hD : W1.heap[W0.heap.size]? = some (.cells (cw n (fun _ => 0)) 23 (0, 0)) := by
    rw [hW1]
    exact heap_new _ _
  have HBd : Hid (Below W0.heap.size W0 W1) := by
    show Below _ _ _
    rw [hW1]
    exact (Below.refl _ _).alloc (Nat.le_refl _) _
  clear hW1 hmk
  have HS := hideP (LW.set0 hD HH.out.2)
  have ca := blk_cell (o := 0) hD (cw_get _ hn0)
  have fr : ∀ o, W1.frozen? ⟨W0.heap.size, o, none⟩ = false := fun o => blk_free hD
  have g0 : (0 : Int) < (n : Int) := by omega
  have HN : Hid (n ≤ 64) := by show n ≤ 64; omega
  clear h2 hn hn0 hD HMV HTV HFO
  go_wp2_with fail
  go_ret
  exact ⟨⟨_, rfl, row_LW HN.out HS.out⟩, HBW.out.trans ((HBd.out.setCell (p := ⟨W0.heap.size, 0, none⟩) (Nat.le_refl _) _).mono HBW.out.size)⟩

set_option maxHeartbeats 1000000 in
set_option maxRecDepth 100000 in
/-- The document's One. -/
theorem rone_any {n M : Nat} (hM : FM n M) (w : World) (fv : Value) (hF : FF w fv n M) :
    Calls Try.prog 87 #[fv] w fun r w' => (∃ v', r = .returned v' ∧ LW w' v' n (limb 1)) ∧ Below w.heap.size w w' := by
  have HH : Hid (FM n M) := hM
  clear hM
  obtain ⟨mv, fo, tv, rfl, hm, ht, hfo⟩ := hF.ex
  have HMV := hideP hm
  have HTV := hideP ht
  have HFO := hideP hfo
  clear hF hm ht hfo
  go_enter Try.func87, Try.ntmps87
  refine wp_seqH (fun K0 HK0 => ?_)
  go_wp2_with fail
  refine HK0.out _ _ ?_
  refine at_world (fun W0 hW0 => ?_)
  have hB0 : W0.heap[w.heap.size]? = some (.cells #[mv, .int .u64 fo, tv] 38 (0, 0)) := by
    rw [hW0]
    exact heap_new _ _
  have HBW : Hid (Below w.heap.size w W0) := by
    show Below _ _ _
    rw [hW0]
    repeat first | exact Below.refl _ _ | (refine Below.alloc ?_ (by simp <;> omega) _)
  have HB0 := hideP hB0
  clear hW0 hB0
  have HMW := hideP (HMV.out.moved HBW.out)
  obtain ⟨g2, o2, c2, rfl, _, _, l2, h2⟩ := HMV.out.ex
  have f0 : W0.cell? ⟨w.heap.size, 0, none⟩ = some (.slice (some ⟨g2, o2, none⟩) n c2) := blk_cell HB0.out rfl
  have hn := HH.out.n8
  have hn0 := HH.out.n0
  have hmk := make_words W0 n (by omega)
  have ew : IntKind.i64.wrap (n : Int) = (n : Int) := by rw [IntKind.wrap_i64]; omega
  refine wp_seqH (fun K1 HK1 => ?_)
  go_wp2_with fail
  refine HK1.out _ _ ?_
  refine at_world (fun W1 hW1 => ?_)
  have hD : W1.heap[W0.heap.size]? = some (.cells (cw n (fun _ => 0)) 23 (0, 0)) := by
    rw [hW1]
    exact heap_new _ _
  have HBd : Hid (Below W0.heap.size W0 W1) := by
    show Below _ _ _
    rw [hW1]
    exact (Below.refl _ _).alloc (Nat.le_refl _) _
  clear hW1 hmk
  have HS := hideP (LW.set0 (x := 1) hD (by decide))
  have ca := blk_cell (o := 0) hD (cw_get _ hn0)
  have fr : ∀ o, W1.frozen? ⟨W0.heap.size, o, none⟩ = false := fun o => blk_free hD
  have g0 : (0 : Int) < (n : Int) := by omega
  have HN : Hid (n ≤ 64) := by show n ≤ 64; omega
  have HB1 : Hid (Below W0.heap.size W0 (W1.setCell ⟨W0.heap.size, 0, none⟩ (.int .u64 ((1 : Nat) : Int)))) := HBd.out.setCell (p := ⟨W0.heap.size, 0, none⟩) (Nat.le_refl _) _
  have f1 : (W1.setCell ⟨W0.heap.size, 0, none⟩ (.int .u64 ((1 : Nat) : Int))).cell? ⟨w.heap.size, 0, none⟩ = some (.slice (some ⟨g2, o2, none⟩) n c2) := (HB1.out.cell (p := ⟨w.heap.size, 0, none⟩) (lt_of_block HB0.out)).trans f0
  have C := hideP (rmod_any (na := n) (n := n) (by omega) hn 1 M (Nat.lt_of_lt_of_le (by decide) (Nat.pow_le_pow_right (show 0 < 18446744073709551616 by decide) hn0)) HH.out.pos HH.out.lt _ _ _ (row_LW HN.out HS.out) (HMW.out.moved HB1.out))
  have h1 : 1 % M = 1 := Nat.mod_eq_of_lt (by have := HH.out.ge; omega)
  rw [h1] at C
  simp only [Int.natCast_one] at C f1 HB1
  clear h2 hn hn0 hD HMV HTV HFO h1
  go_wp2_with fail
  refine C.out.mono ?_
  rintro r w5 ⟨⟨v5, rfl, hL⟩, hb⟩
  have HL := hideP hL
  have HB5 := hideP (HBW.out.trans ((HB1.out.mono HBW.out.size).trans (hb.mono (Nat.le_trans HBW.out.size HB1.out.size))))
  clear hL hb
  go_wp2
  go_ret
  exact ⟨⟨_, rfl, HL.out⟩, HB5.out⟩

end Go.Proofs.Ytiekipkmfopdoaa
