/-
  Montgomery's product.
-/
import Derived.Test.YtcbdbnfgnonacaaGreatCurveBn1C11
namespace Go.Proofs.YtcbdbnfgnonacaaGreat.W4
open Go.RowKit Go.Shelf

/-- Where the product by one limb has come to. -/
structure M1 (W wr : World) (L : Nat) (x g gk : Nat → Nat) (b k c : Nat) : Prop where
  lt : ∀ j, gk j < 18446744073709551616
  far : ∀ j, k ≤ j → gk j = g j
  sum : val gk k + c * 18446744073709551616 ^ k = val g k + val x k * b
  c : c < 18446744073709551616
  cells : wr.heap[L]? = some (.cells (cs gk) 32 (0, 0))
  but : But L W wr

theorem M1.put {W wr : World} {L : Nat} {x g gk : Nat → Nat} {b k c l h : Nat} (I : M1 W wr L x g gk b k c) (hk : k < 4) (hl : l < 18446744073709551616) (hh : h < 18446744073709551616)
    (e : x k * b + g k + c = l + 18446744073709551616 * h) : M1 W (wr.drew.setCell ⟨L, k, none⟩ (.int .u64 l)) L x g (fun i => if i = k then l else gk i) b (k + 1) h := by
  refine ⟨fun j => ?_, fun j hj => ?_, ?_, hh, ?_, I.but.drew.set _ _⟩
  · split
    · exact hl
    · exact I.lt j
  · rw [if_neg (by omega)]
    exact I.far j (by omega)
  · have h1 : val (fun j => if j = k then l else gk j) k = val gk k := val_congr k (fun j hj => by rw [if_neg (by omega)])
    show val (fun j => if j = k then l else gk j) k + (if k = k then l else gk k) * 18446744073709551616 ^ k + h * 18446744073709551616 ^ (k + 1) = val g k + g k * 18446744073709551616 ^ k + (val x k + x k * 18446744073709551616 ^ k) * b
    rw [h1, if_pos rfl, Nat.pow_succ]
    exact MN.mulstep I.sum e
  · have h3 : wr.drew.heap[L]? = some (.cells (cs gk) 32 (0, 0)) := I.cells
    have := blk_set (o := k) h3 (.int .u64 l)
    rw [set gk l hk] at this
    exact this

/-- Where the multiple of the modulus, one limb lower, has come to. -/
structure M2 (W wr : World) (L : Nat) (md g gk : Nat → Nat) (t k c : Nat) : Prop where
  lt : ∀ j, gk j < 18446744073709551616
  far : ∀ j, k ≤ j → gk j = g j
  sum : 18446744073709551616 * val gk k + c * (18446744073709551616 ^ k * 18446744073709551616) = val g (k + 1) + t * val md (k + 1)
  c : c < 18446744073709551616
  cells : wr.heap[L]? = some (.cells (cs gk) 32 (0, 0))
  but : But L W wr

theorem M2.put {W wr : World} {L : Nat} {md g gk : Nat → Nat} {t k c l h : Nat} (I : M2 W wr L md g gk t k c) (hk : k < 4) (hl : l < 18446744073709551616) (hh : h < 18446744073709551616)
    (e : t * md (k + 1) + g (k + 1) + c = l + 18446744073709551616 * h) : M2 W (wr.drew.setCell ⟨L, k, none⟩ (.int .u64 l)) L md g (fun i => if i = k then l else gk i) t (k + 1) h := by
  refine ⟨fun j => ?_, fun j hj => ?_, ?_, hh, ?_, I.but.drew.set _ _⟩
  · split
    · exact hl
    · exact I.lt j
  · rw [if_neg (by omega)]
    exact I.far j (by omega)
  · have h1 : val (fun j => if j = k then l else gk j) k = val gk k := val_congr k (fun j hj => by rw [if_neg (by omega)])
    show 18446744073709551616 * (val (fun j => if j = k then l else gk j) k + (if k = k then l else gk k) * 18446744073709551616 ^ k) + h * (18446744073709551616 ^ (k + 1) * 18446744073709551616) = val g (k + 1) + g (k + 1) * 18446744073709551616 ^ (k + 1) + t * (val md (k + 1) + md (k + 1) * 18446744073709551616 ^ (k + 1))
    rw [h1, if_pos rfl]
    have h2 := I.sum
    rw [Nat.pow_succ]
    grind
  · have h3 : wr.drew.heap[L]? = some (.cells (cs gk) 32 (0, 0)) := I.cells
    have := blk_set (o := k) h3 (.int .u64 l)
    rw [set gk l hk] at this
    exact this

/-- Where the product has come to. -/
structure MO (W wr : World) (L : Nat) (x y g : Nat → Nat) (m k a q : Nat) : Prop where
  lt : ∀ j, g j < 18446744073709551616
  sum : (val g 4 + a * R) * 18446744073709551616 ^ k = val x 4 * val y k + q * m
  q : q < 18446744073709551616 ^ k
  cells : wr.heap[L]? = some (.cells (cs g) 32 (0, 0))
  but : But L W wr

theorem MO.le {W wr : World} {L : Nat} {x y g : Nat → Nat} {m k a q : Nat} (I : MO W wr L x y g m k a q) (hx : ∀ j, x j < 18446744073709551616) (hy : ∀ j, y j < 18446744073709551616) (hm : m < R) (h0 : 0 < m) : a ≤ 1 := by
  have h1 := MN.bound I.sum (val_lt k (fun j _ => hy j)) I.q h0
  have h2 := val_ltR (fun j _ => hx j)
  apply Nat.le_of_not_lt
  intro h
  have := Nat.mul_le_mul_right R (show 2 ≤ a by omega)
  omega

theorem MO.next {W wO w3 : World} {L : Nat} {x y g g1 g2 : Nat → Nat} {m k a q c1 top over t c2 s c : Nat} (I : MO W wO L x y g m k a q) (hm : m < R)
    (J1 : val g1 4 + c1 * 18446744073709551616 ^ 4 = val g 4 + val x 4 * y k) (e1 : a + c1 = top + 18446744073709551616 * over) (ht : t < 18446744073709551616)
    (J2 : 18446744073709551616 * val g2 3 + c2 * (18446744073709551616 ^ 3 * 18446744073709551616) = val g1 (3 + 1) + t * val (limb m) (3 + 1)) (l2 : ∀ j, g2 j < 18446744073709551616) (e2 : top + c2 = s + 18446744073709551616 * c) (hs : s < 18446744073709551616)
    (hc : w3.heap[L]? = some (.cells (cs (fun i => if i = 3 then s else g2 i)) 32 (0, 0))) (hb : But L W w3) :
    MO W w3 L x y (fun i => if i = 3 then s else g2 i) m (k + 1) (over + c) (q + t * 18446744073709551616 ^ k) := by
  refine ⟨fun j => ?_, ?_, ?_, hc, hb⟩
  · split
    · exact hs
    · exact l2 j
  · have h1 : val (fun i => if i = 3 then s else g2 i) 3 = val g2 3 := val_congr 3 (fun j hj => by rw [if_neg (by omega)])
    have h2 : val (fun i => if i = 3 then s else g2 i) 4 = val g2 3 + s * 18446744073709551616 ^ 3 := by
      show val (fun i => if i = 3 then s else g2 i) 3 + (if 3 = 3 then s else g2 3) * 18446744073709551616 ^ 3 = _
      rw [h1, if_pos rfl]
    have hM : val (limb m) (3 + 1) = m := val_limbs hm
    have hR : R = 18446744073709551616 ^ 3 * 18446744073709551616 := by rw [R_eq, Nat.pow_succ]
    rw [hM] at J2
    have J1' : val g1 4 + c1 * (18446744073709551616 ^ 3 * 18446744073709551616) = val g 4 + val x 4 * y k := J1
    have J2' : 18446744073709551616 * val g2 3 + c2 * (18446744073709551616 ^ 3 * 18446744073709551616) = val g1 4 + t * m := J2
    have hS := MN.fin J1' e1 J2' e2 (S := val g 4 + a * R) (by rw [hR])
    rw [← hR] at hS
    rw [h2, Nat.pow_succ]
    exact MN.round I.sum hS
  · rw [Nat.pow_succ]
    exact MN.q_lt I.q ht

theorem low_zero {m0 f s : Nat} (hf : (m0 * f + 1) % 18446744073709551616 = 0) : (s * f % 18446744073709551616 * m0 + s) % 18446744073709551616 = 0 := by
  have e : (s * f % 18446744073709551616 * m0 + s) % 18446744073709551616 = (s * (m0 * f + 1)) % 18446744073709551616 := by
    rw [Nat.add_mod, Nat.mod_mul_mod, ← Nat.add_mod]
    congr 1
    grind
  rw [e, Nat.mul_mod, hf, Nat.mul_zero, Nat.zero_mod]

set_option maxHeartbeats 8000000 in
set_option maxRecDepth 100000 in
theorem multiply_raw (p m f o r : Nat) (x y : Nat → Nat) (hx : ∀ j, x j < 18446744073709551616) (hy : ∀ j, y j < 18446744073709551616) (w : World) (hr : RingAt w p m f o r) (hm : m < R) (h0 : 0 < m) (hf : (limb m 0 * f + 1) % 18446744073709551616 = 0) (hAB : val x 4 * val y 4 < R * m) :
    Calls Tryz.prog 153 #[.pointer (some ⟨p, 0, none⟩), .agg (cs x), .agg (cs y)] w fun e w' => (∃ P : Nat, e = .returned (wv P) ∧ P < m ∧ P * R % m = val x 4 * val y 4 % m) ∧ Below w.heap.size w w' := by
  have hp : p < w.heap.size := hr.lt
  have HR := hideP hr
  have HX := hideP hx
  have HY := hideP hy
  have HF := hideP hf
  have HM := hideP hm
  have H0 := hideP h0
  have HAB := hideP hAB
  clear hx hy hr hf hm h0 hAB
  have hwI3 : IntKind.i64.wrap (3 : Int) = 3 := rfl
  unfold cs
  go_enter Tryz.func153, Tryz.ntmps153
  go_wp2_with fail
  refine at_world (fun W0 hW0 => ?_)
  have hA : W0.heap[w.heap.size]? = some (.cells (cs x) 32 (0, 0)) := by
    rw [hW0]
    exact (heap_old _ _ (by simp <;> omega)).trans ((heap_old _ _ (by simp <;> omega)).trans ((heap_old _ _ (by simp)).trans (heap_new _ _)))
  have hB : W0.heap[w.heap.size + 1]? = some (.cells (cs y) 32 (0, 0)) := by
    rw [hW0]
    exact (heap_old _ _ (by simp <;> omega)).trans ((heap_old _ _ (by simp)).trans (heap_new1 _ _ _))
  have hD : W0.heap[w.heap.size + 1 + 1]? = some (.cells (cs (fun _ => 0)) 32 (0, 0)) := by
    rw [hW0]
    exact (heap_old _ _ (by simp)).trans (heap_new2 _ _ _ _)
  have hL : W0.heap[w.heap.size + 1 + 1 + 1]? = some (.cells (cs (fun _ => 0)) 32 (0, 0)) := by
    rw [hW0]
    exact heap_new3 _ _ _ _ _
  have HBW : Hid (Below w.heap.size w W0) := by
    show Below _ _ _
    rw [hW0]
    repeat first | exact Below.refl _ _ | (refine Below.alloc ?_ (by simp <;> omega) _)
  clear hW0
  have HR0 := hideP (HR.out.belowN hp HBW.out)
  have HI0 : Hid (MO W0 W0 (w.heap.size + 1 + 1 + 1) x y (fun _ => 0) m 0 0 0) := ⟨fun _ => by decide, by simp [val], by decide, hL, But.refl _ _⟩
  have HA := hideP hA
  have HB := hideP hB
  have HD := hideP hD
  clear hA hB hD hL HR
  have nA : w.heap.size ≠ w.heap.size + 1 + 1 + 1 := by omega
  have nB : w.heap.size + 1 ≠ w.heap.size + 1 + 1 + 1 := by omega
  have nD : w.heap.size + 1 + 1 ≠ w.heap.size + 1 + 1 + 1 := by omega
  have nP : p ≠ w.heap.size + 1 + 1 + 1 := by omega
  generalize hLL : w.heap.size + 1 + 1 + 1 = L at *
  go_loopw [8, 22] (fun av i wr => ∃ (k a q : Nat) (g : Nat → Nat), k ≤ 4 ∧ i = .int .i64 k ∧ av = .int .u64 a ∧ MO W0 wr L x y g m k a q) (fun _ i _ => 4 - (intOf i).toNat)
  case atStart => exact ⟨0, 0, 0, fun _ => 0, Nat.zero_le _, rfl, rfl, HI0.out⟩
  case round =>
    obtain ⟨k, a, q, g, hk, rfl, rfl, I⟩ := hrel
    have HI := hideP I
    clear I
    by_cases hlt : k < 4
    · rename World => wO
      have hlt' : (k : Int) < 4 := by omega
      have e4 : IntKind.i64.wrap ((k : Int) + 1) = (k : Int) + 1 := by rw [IntKind.wrap_i64]; omega
      obtain ⟨q0, q1, q2, q3⟩ := cells ((HI.out.but.same _ nA).trans HA.out)
      have HKS : Hid (k + 1 ≤ 4) := hlt
      have HKL : Hid (k < 4) := hlt
      have HJ0 : Hid (M1 wO wO L x g g (y k) 0 0) := ⟨HI.out.lt, fun _ _ => rfl, by simp [val], by decide, HI.out.cells, But.refl _ _⟩
      clear hk hlt
      go_wp2_with fail
      clear q0 q1 q2 q3
      go_loopw [11, 27] (fun c i wr => ∃ (j cv : Nat) (gk : Nat → Nat), j ≤ 4 ∧ i = .int .i64 j ∧ c = .int .u64 cv ∧ M1 wO wr L x g gk (y k) j cv) (fun _ i _ => 4 - (intOf i).toNat)
      case atStart => exact ⟨0, 0, g, Nat.zero_le _, rfl, rfl, HJ0.out⟩
      case round =>
        obtain ⟨j, cv, gk, hj, rfl, rfl, J⟩ := hrel
        have HJ := hideP J
        clear J
        by_cases hjt : j < 4
        · obtain ⟨h, l, hh, hl, e, hma⟩ := multiplyAdd_ex (x j) (y k) (g j) cv (HX.out _) (HY.out _) (HI.out.lt _) HJ.out.c
          have ca := (HJ.out.but.cell (o := j) nA).trans ((HI.out.but.cell (o := j) nA).trans (blk_cell HA.out (get x hjt)))
          have cb := (HJ.out.but.cell (o := k) nB).trans ((HI.out.but.cell (o := k) nB).trans (blk_cell HB.out (get y HKL.out)))
          have cd := blk_cell HJ.out.cells (get gk hjt)
          rw [HJ.out.far j (Nat.le_refl _)] at cd
          have fr : ∀ o, wr.frozen? ⟨L, o, none⟩ = false := fun o => blk_free HJ.out.cells
          have HN := hideP (HJ.out.put hjt hl hh e)
          have hjt' : (j : Int) < 4 := by omega
          have e5 : IntKind.i64.wrap ((j : Int) + 1) = (j : Int) + 1 := by rw [IntKind.wrap_i64]; omega
          have HJS : Hid (j + 1 ≤ 4) := hjt
          have HMA := hideP hma
          clear hh hl e hma hj hjt
          go_wp2_with fail
          refine wp_region_heldS (S := fun V => But L wr V) (by kernel_rfl) ((But.refl _ _).drew) (fun hS => ?_)
          refine wpAnyH_takeL (i := 0) (v := ?_) rfl (by kernel_rfl) (by kernel_rfl) (by kernel_rfl) (fun _ _ _ h => h) (Or.inl ⟨by kernel_rfl, ?_⟩) hS ?_
          rotate_left
          · intro V hV
            go_simp
            (try with_reducible rfl)
          simp only [put_list, List.set_cons_succ, List.set_cons_zero]
          refine wpAnyH_takeL (i := 1) (v := ?_) rfl (by kernel_rfl) (by kernel_rfl) (by kernel_rfl) (fun _ _ _ h => h) (Or.inl ⟨by kernel_rfl, ?_⟩) hS ?_
          rotate_left
          · intro V hV
            go_simp
            (try with_reducible rfl)
          simp only [put_list, List.set_cons_succ, List.set_cons_zero]
          refine wpAnyH_takeL (i := 2) (v := ?_) rfl (by kernel_rfl) (by kernel_rfl) (by kernel_rfl) (fun _ _ _ h => h) (Or.inl ⟨by kernel_rfl, ?_⟩) hS ?_
          rotate_left
          · intro V hV
            go_simp
            (try with_reducible rfl)
          simp only [put_list, List.set_cons_succ, List.set_cons_zero]
          refine wpAnyH_takeL (i := 3) (v := ?_) rfl (by kernel_rfl) (by kernel_rfl) (by kernel_rfl) (fun _ _ _ h => h) (Or.inl ⟨by kernel_rfl, ?_⟩) hS ?_
          rotate_left
          · intro V hV
            have k0 := (hV.cell (o := j) nA).trans ca
            go_simp
            (try with_reducible rfl)
          simp only [put_list, List.set_cons_succ, List.set_cons_zero]
          refine wpAnyH_takeL (i := 4) (v := ?_) rfl (by kernel_rfl) (by kernel_rfl) (by kernel_rfl) (fun _ _ _ h => h) (Or.inl ⟨by kernel_rfl, ?_⟩) hS ?_
          rotate_left
          · intro V hV
            go_simp
            (try with_reducible rfl)
          simp only [put_list, List.set_cons_succ, List.set_cons_zero]
          refine wpAnyH_takeL (i := 5) (v := ?_) rfl (by kernel_rfl) (by kernel_rfl) (by kernel_rfl) (fun _ _ _ h => h) (Or.inl ⟨by kernel_rfl, ?_⟩) hS ?_
          rotate_left
          · intro V hV
            go_simp
            (try with_reducible rfl)
          simp only [put_list, List.set_cons_succ, List.set_cons_zero]
          refine wpAnyH_takeL (i := 6) (v := ?_) rfl (by kernel_rfl) (by kernel_rfl) (by kernel_rfl) (fun _ _ _ h => h) (Or.inl ⟨by kernel_rfl, ?_⟩) hS ?_
          rotate_left
          · intro V hV
            have k0 := (hV.cell (o := k) nB).trans cb
            go_simp
            (try with_reducible rfl)
          simp only [put_list, List.set_cons_succ, List.set_cons_zero]
          refine wpAnyH_takeL (i := 7) (v := ?_) rfl (by kernel_rfl) (by kernel_rfl) (by kernel_rfl) (fun _ _ _ h => h) (Or.inl ⟨by kernel_rfl, ?_⟩) hS ?_
          rotate_left
          · intro V hV
            go_simp
            (try with_reducible rfl)
          simp only [put_list, List.set_cons_succ, List.set_cons_zero]
          refine wpAnyH_takeL (i := 8) (v := ?_) rfl (by kernel_rfl) (by kernel_rfl) (by kernel_rfl) (fun _ _ _ h => h) (Or.inl ⟨by kernel_rfl, ?_⟩) hS ?_
          rotate_left
          · intro V hV
            go_simp
            (try with_reducible rfl)
          simp only [put_list, List.set_cons_succ, List.set_cons_zero]
          refine wpAnyH_takeL (i := 10) (v := ?_) rfl (by kernel_rfl) (by kernel_rfl) (by kernel_rfl) (fun _ _ _ h => h) (Or.inl ⟨by kernel_rfl, ?_⟩) hS ?_
          rotate_left
          · intro V hV
            go_simp
            (try with_reducible rfl)
          simp only [put_list, List.set_cons_succ, List.set_cons_zero]
          refine wpAnyH_ready (rs := [9]) (by kernel_rfl) (by simp) (AllReadyH.cons rfl (fun K hK => ?_) AllReadyH.nil)
          go_simp
          refine hK.out _ _ hS (fun hS => ?_)
          clear hK K
          refine wpAnyH_ready (rs := [11]) (by kernel_rfl) (by simp) (AllReadyH.cons rfl (fun K hK => ?_) AllReadyH.nil)
          go_simp
          refine (HMA.out _).mono ?_
          rintro e w9 ⟨rfl, rfl⟩
          refine hK.out _ _ hS (fun hS => ?_)
          clear hK K
          refine wpAnyH_takeL (i := 12) (v := ?_) rfl (by kernel_rfl) (by kernel_rfl) (by kernel_rfl) (fun _ _ _ h => h) (Or.inl ⟨by kernel_rfl, ?_⟩) hS ?_
          rotate_left
          · intro V hV
            go_simp
            (try with_reducible rfl)
          simp only [put_list, List.set_cons_succ, List.set_cons_zero]
          refine wpAnyH_takeL (i := 13) (v := ?_) rfl (by kernel_rfl) (by kernel_rfl) (by kernel_rfl) (fun _ _ _ h => h) (Or.inl ⟨by kernel_rfl, ?_⟩) hS ?_
          rotate_left
          · intro V hV
            go_simp
            (try with_reducible rfl)
          simp only [put_list, List.set_cons_succ, List.set_cons_zero]
          refine wpAnyH_takeL (i := 14) (v := ?_) rfl (by kernel_rfl) (by kernel_rfl) (by kernel_rfl) (fun _ _ _ h => h) (Or.inl ⟨by kernel_rfl, ?_⟩) hS ?_
          rotate_left
          · intro V hV
            go_simp
            (try with_reducible rfl)
          simp only [put_list, List.set_cons_succ, List.set_cons_zero]
          refine wpAnyH_ready (rs := [15]) (by kernel_rfl) (by simp) (AllReadyH.cons rfl (fun K hK => ?_) AllReadyH.nil)
          go_simp
          refine hK.out _ _ hS (fun hS => ?_)
          clear hK K
          refine wpAnyH_takeL (i := 16) (v := ?_) rfl (by kernel_rfl) (by kernel_rfl) (by kernel_rfl) (fun _ _ _ h => h) (Or.inl ⟨by kernel_rfl, ?_⟩) hS ?_
          rotate_left
          · intro V hV
            go_simp
            (try with_reducible rfl)
          simp only [put_list, List.set_cons_succ, List.set_cons_zero]
          refine wpAnyH_ready (rs := [17]) (by kernel_rfl) (by simp) (AllReadyH.cons rfl (fun K hK => ?_) AllReadyH.nil)
          go_simp
          refine hK.out _ _ (hS.set _ _) (fun hS => ?_)
          clear hK K
          refine wpAnyH_done (by kernel_rfl) ?_ _
          (try simp only [put_none])
          go_wp2_with fail
          refine ⟨⟨j + 1, h, _, HJS.out, by go_num, rfl, HN.out⟩, by have := HJS.out; simp [intOf]; omega⟩
        · have hjn : j = 4 := by omega
          have hnl : ¬ (j : Int) < 4 := by omega
          have HJ1 : Hid (M1 wO wr L x g gk (y k) 4 cv) := hjn ▸ HJ.out
          clear hj hjt hjn HJ
          obtain ⟨top, over, htop, hover, e1, hadd⟩ := add64_ex0b a cv (HI.out.le HX.out HY.out HM.out H0.out) HJ1.out.c
          obtain ⟨tm, htm⟩ : ∃ tm, tm = gk 0 * f % 18446744073709551616 := ⟨_, rfl⟩
          have htl : tm < 18446744073709551616 := by rw [htm]; exact Nat.mod_lt _ (by decide)
          have hwt : IntKind.u64.wrap ((gk 0 : Int) * (f : Int)) = (tm : Int) := by
            rw [IntKind.wrap_u64, htm, ← Int.natCast_mul]; omega
          obtain ⟨h0, l0, hh0, hl0, e0, hma⟩ := multiplyAdd_ex tm (limb m 0) (gk 0) 0 htl (limb_lt _ _) (HJ1.out.lt _) (by decide)
          replace hma : ∀ w, Calls Tryz.prog 220 #[.int .u64 tm, .int .u64 (limb m 0), .int .u64 (gk 0), .int .u64 (0 : Int)] w fun e w' => e = .returned (.tuple #[.int .u64 h0, .int .u64 l0]) ∧ w = w' := hma
          have hz : l0 = 0 := by
            have := low_zero (s := gk 0) HF.out
            rw [← htm] at this
            omega
          have HE1 := hideP e1
          have HTOP := hideP htop
          have HOV := hideP hover
          have HTL := hideP htl
          have c0 := blk_cell HJ1.out.cells (get gk (show 0 < 4 by decide))
          have cf := (HJ1.out.but.cell (o := 4) nP).trans ((HI.out.but.cell (o := 4) nP).trans HR0.out.fill)
          have cm := (HJ1.out.but.cell (o := 0) nP).trans ((HI.out.but.cell (o := 0) nP).trans (HR0.out.limbAt (show 0 < 4 by decide)))
          have HK0 : Hid (M2 wr.drew.drew wr.drew.drew L (limb m) gk gk tm 0 h0) := ⟨HJ1.out.lt, fun _ _ => rfl, by
            show 18446744073709551616 * val gk 0 + h0 * (18446744073709551616 ^ 0 * 18446744073709551616) = (val gk 0 + gk 0 * 18446744073709551616 ^ 0) + tm * (val (limb m) 0 + limb m 0 * 18446744073709551616 ^ 0)
            simp only [val, Nat.pow_zero, Nat.mul_one, Nat.one_mul, Nat.zero_add, Nat.mul_zero]
            omega, hh0, HJ1.out.cells, But.refl _ _⟩
          have HMA := hideP hma
          clear htm htl hh0 hl0 e0 hma hz e1 htop hover
          rename World => w1
          go_wp2_with fail
          go_region
          go_wp2_with fail
          refine wp_region_heldS (S := fun V => But L w1 V) (by kernel_rfl) ((But.refl _ _).drew.drew) (fun hS => ?_)
          refine wpAnyH_takeL (i := 0) (v := ?_) rfl (by kernel_rfl) (by kernel_rfl) (by kernel_rfl) (fun _ _ _ h => h) (Or.inl ⟨by kernel_rfl, ?_⟩) hS ?_
          rotate_left
          · intro V hV
            go_simp
            (try with_reducible rfl)
          simp only [put_list, List.set_cons_succ, List.set_cons_zero]
          refine wpAnyH_takeL (i := 1) (v := ?_) rfl (by kernel_rfl) (by kernel_rfl) (by kernel_rfl) (fun _ _ _ h => h) (Or.inl ⟨by kernel_rfl, ?_⟩) hS ?_
          rotate_left
          · intro V hV
            go_simp
            (try with_reducible rfl)
          simp only [put_list, List.set_cons_succ, List.set_cons_zero]
          refine wpAnyH_takeL (i := 2) (v := ?_) rfl (by kernel_rfl) (by kernel_rfl) (by kernel_rfl) (fun _ _ _ h => h) (Or.inl ⟨by kernel_rfl, ?_⟩) hS ?_
          rotate_left
          · intro V hV
            go_simp
            (try with_reducible rfl)
          simp only [put_list, List.set_cons_succ, List.set_cons_zero]
          refine wpAnyH_takeL (i := 3) (v := ?_) rfl (by kernel_rfl) (by kernel_rfl) (by kernel_rfl) (fun _ _ _ h => h) (Or.inl ⟨by kernel_rfl, ?_⟩) hS ?_
          rotate_left
          · intro V hV
            go_simp
            (try with_reducible rfl)
          simp only [put_list, List.set_cons_succ, List.set_cons_zero]
          refine wpAnyH_takeL (i := 4) (v := ?_) rfl (by kernel_rfl) (by kernel_rfl) (by kernel_rfl) (fun _ _ _ h => h) (Or.inl ⟨by kernel_rfl, ?_⟩) hS ?_
          rotate_left
          · intro V hV
            go_simp
            (try with_reducible rfl)
          simp only [put_list, List.set_cons_succ, List.set_cons_zero]
          refine wpAnyH_takeL (i := 5) (v := ?_) rfl (by kernel_rfl) (by kernel_rfl) (by kernel_rfl) (fun _ _ _ h => h) (Or.inl ⟨by kernel_rfl, ?_⟩) hS ?_
          rotate_left
          · intro V hV
            have k0 := (hV.cell (o := 0) nP).trans cm
            go_simp
            (try with_reducible rfl)
          simp only [put_list, List.set_cons_succ, List.set_cons_zero]
          refine wpAnyH_takeL (i := 6) (v := ?_) rfl (by kernel_rfl) (by kernel_rfl) (by kernel_rfl) (fun _ _ _ h => h) (Or.inl ⟨by kernel_rfl, ?_⟩) hS ?_
          rotate_left
          · intro V hV
            go_simp
            (try with_reducible rfl)
          simp only [put_list, List.set_cons_succ, List.set_cons_zero]
          refine wpAnyH_ready (rs := [7]) (by kernel_rfl) (by simp) (AllReadyH.cons rfl (fun K hK => ?_) AllReadyH.nil)
          go_simp
          refine hK.out _ _ hS (fun hS => ?_)
          clear hK K
          refine wpAnyH_ready (rs := [8]) (by kernel_rfl) (by simp) (AllReadyH.cons rfl (fun K hK => ?_) AllReadyH.nil)
          go_simp
          refine (HMA.out _).mono ?_
          rintro e w9 ⟨rfl, rfl⟩
          refine hK.out _ _ hS (fun hS => ?_)
          clear hK K
          refine wpAnyH_takeL (i := 9) (v := ?_) rfl (by kernel_rfl) (by kernel_rfl) (by kernel_rfl) (fun _ _ _ h => h) (Or.inl ⟨by kernel_rfl, ?_⟩) hS ?_
          rotate_left
          · intro V hV
            go_simp
            (try with_reducible rfl)
          simp only [put_list, List.set_cons_succ, List.set_cons_zero]
          refine wpAnyH_takeL (i := 10) (v := ?_) rfl (by kernel_rfl) (by kernel_rfl) (by kernel_rfl) (fun _ _ _ h => h) (Or.inl ⟨by kernel_rfl, ?_⟩) hS ?_
          rotate_left
          · intro V hV
            go_simp
            (try with_reducible rfl)
          simp only [put_list, List.set_cons_succ, List.set_cons_zero]
          refine wpAnyH_takeL (i := 11) (v := ?_) rfl (by kernel_rfl) (by kernel_rfl) (by kernel_rfl) (fun _ _ _ h => h) (Or.inl ⟨by kernel_rfl, ?_⟩) hS ?_
          rotate_left
          · intro V hV
            go_simp
            (try with_reducible rfl)
          simp only [put_list, List.set_cons_succ, List.set_cons_zero]
          refine wpAnyH_ready (rs := [12]) (by kernel_rfl) (by simp) (AllReadyH.cons rfl (fun K hK => ?_) AllReadyH.nil)
          go_simp
          refine hK.out _ _ hS (fun hS => ?_)
          clear hK K
          refine wpAnyH_done (by kernel_rfl) ?_ _
          (try simp only [put_none])
          go_wp2_with fail
          clear c0 cf cm hS HMA hadd hwt hnl
          go_loopw [11, 73] (fun c i wr => ∃ (i2 cv2 : Nat) (g2 : Nat → Nat), i2 ≤ 3 ∧ i = .int .i64 i2 ∧ c = .int .u64 cv2 ∧ M2 w1.drew.drew wr L (limb m) gk g2 tm i2 cv2) (fun _ i _ => 3 - (intOf i).toNat)
          case atStart => exact ⟨0, h0, gk, Nat.zero_le _, rfl, rfl, HK0.out⟩
          case round =>
            obtain ⟨i2, cv2, g2, hi2, rfl, rfl, J⟩ := hrel
            have HJ := hideP J
            clear J
            by_cases hit : i2 < 3
            · obtain ⟨h, l, hh, hl, e, hma⟩ := multiplyAdd_ex tm (limb m (i2 + 1)) (gk (i2 + 1)) cv2 HTL.out (limb_lt _ _) (HJ1.out.lt _) HJ.out.c
              have cm : wr.cell? ⟨p, i2 + 1, none⟩ = some (.int .u64 (limb m (i2 + 1))) := (HJ.out.but.cell (o := i2 + 1) nP).trans ((HJ1.out.but.cell (o := i2 + 1) nP).trans ((HI.out.but.cell (o := i2 + 1) nP).trans (HR0.out.limbAt (show i2 + 1 < 4 by omega))))
              have cd := blk_cell HJ.out.cells (get g2 (show i2 + 1 < 4 by omega))
              rw [HJ.out.far (i2 + 1) (by omega)] at cd
              have cz := blk_cell HJ.out.cells (get g2 (show i2 < 4 by omega))
              have fr : ∀ o, wr.frozen? ⟨L, o, none⟩ = false := fun o => blk_free HJ.out.cells
              have HN := hideP (HJ.out.put (show i2 < 4 by omega) hl hh e)
              have hit' : (i2 : Int) < 3 := by omega
              have hit2 : (i2 : Int) < 4 := by omega
              have hit4 : (0 : Int) ≤ (i2 : Int) + 1 := by omega
              have hit3 : (i2 : Int) + 1 < 4 := by omega
              have e5 : IntKind.i64.wrap ((i2 : Int) + 1) = (i2 : Int) + 1 := by rw [IntKind.wrap_i64]; omega
              have HJS : Hid (i2 + 1 ≤ 3) := hit
              have HMA := hideP hma
              clear hh hl e hma hi2 hit
              go_wp2_with fail
              refine wp_region_heldS (S := fun V => But L wr V) (by kernel_rfl) ((But.refl _ _).drew) (fun hS => ?_)
              refine wpAnyH_takeL (i := 0) (v := ?_) rfl (by kernel_rfl) (by kernel_rfl) (by kernel_rfl) (fun _ _ _ h => h) (Or.inl ⟨by kernel_rfl, ?_⟩) hS ?_
              rotate_left
              · intro V hV
                go_simp
                (try with_reducible rfl)
              simp only [put_list, List.set_cons_succ, List.set_cons_zero]
              refine wpAnyH_takeL (i := 1) (v := ?_) rfl (by kernel_rfl) (by kernel_rfl) (by kernel_rfl) (fun _ _ _ h => h) (Or.inl ⟨by kernel_rfl, ?_⟩) hS ?_
              rotate_left
              · intro V hV
                go_simp
                (try with_reducible rfl)
              simp only [put_list, List.set_cons_succ, List.set_cons_zero]
              refine wpAnyH_takeL (i := 2) (v := ?_) rfl (by kernel_rfl) (by kernel_rfl) (by kernel_rfl) (fun _ _ _ h => h) (Or.inl ⟨by kernel_rfl, ?_⟩) hS ?_
              rotate_left
              · intro V hV
                go_simp
                (try with_reducible rfl)
              simp only [put_list, List.set_cons_succ, List.set_cons_zero]
              refine wpAnyH_takeL (i := 3) (v := ?_) rfl (by kernel_rfl) (by kernel_rfl) (by kernel_rfl) (fun _ _ _ h => h) (Or.inl ⟨by kernel_rfl, ?_⟩) hS ?_
              rotate_left
              · intro V hV
                go_simp
                (try with_reducible rfl)
              simp only [put_list, List.set_cons_succ, List.set_cons_zero]
              refine wpAnyH_takeL (i := 4) (v := ?_) rfl (by kernel_rfl) (by kernel_rfl) (by kernel_rfl) (fun _ _ _ h => h) (Or.inl ⟨by kernel_rfl, ?_⟩) hS ?_
              rotate_left
              · intro V hV
                go_simp
                (try with_reducible rfl)
              simp only [put_list, List.set_cons_succ, List.set_cons_zero]
              refine wpAnyH_takeL (i := 5) (v := ?_) rfl (by kernel_rfl) (by kernel_rfl) (by kernel_rfl) (fun _ _ _ h => h) (Or.inl ⟨by kernel_rfl, ?_⟩) hS ?_
              rotate_left
              · intro V hV
                go_simp
                (try with_reducible rfl)
              simp only [put_list, List.set_cons_succ, List.set_cons_zero]
              refine wpAnyH_takeL (i := 6) (v := ?_) rfl (by kernel_rfl) (by kernel_rfl) (by kernel_rfl) (fun _ _ _ h => h) (Or.inl ⟨by kernel_rfl, ?_⟩) hS ?_
              rotate_left
              · intro V hV
                go_simp
                (try with_reducible rfl)
              simp only [put_list, List.set_cons_succ, List.set_cons_zero]
              refine wpAnyH_takeL (i := 7) (v := ?_) rfl (by kernel_rfl) (by kernel_rfl) (by kernel_rfl) (fun _ _ _ h => h) (Or.inl ⟨by kernel_rfl, ?_⟩) hS ?_
              rotate_left
              · intro V hV
                go_simp
                (try with_reducible rfl)
              simp only [put_list, List.set_cons_succ, List.set_cons_zero]
              refine wpAnyH_takeL (i := 8) (v := ?_) rfl (by kernel_rfl) (by kernel_rfl) (by kernel_rfl) (fun _ _ _ h => h) (Or.inl ⟨by kernel_rfl, ?_⟩) hS ?_
              rotate_left
              · intro V hV
                have k0 := (hV.cell (o := i2 + 1) nP).trans cm
                go_simp
                (try with_reducible rfl)
              simp only [put_list, List.set_cons_succ, List.set_cons_zero]
              refine wpAnyH_takeL (i := 9) (v := ?_) rfl (by kernel_rfl) (by kernel_rfl) (by kernel_rfl) (fun _ _ _ h => h) (Or.inl ⟨by kernel_rfl, ?_⟩) hS ?_
              rotate_left
              · intro V hV
                go_simp
                (try with_reducible rfl)
              simp only [put_list, List.set_cons_succ, List.set_cons_zero]
              refine wpAnyH_takeL (i := 10) (v := ?_) rfl (by kernel_rfl) (by kernel_rfl) (by kernel_rfl) (fun _ _ _ h => h) (Or.inl ⟨by kernel_rfl, ?_⟩) hS ?_
              rotate_left
              · intro V hV
                go_simp
                (try with_reducible rfl)
              simp only [put_list, List.set_cons_succ, List.set_cons_zero]
              refine wpAnyH_takeL (i := 11) (v := ?_) rfl (by kernel_rfl) (by kernel_rfl) (by kernel_rfl) (fun _ _ _ h => h) (Or.inl ⟨by kernel_rfl, ?_⟩) hS ?_
              rotate_left
              · intro V hV
                go_simp
                (try with_reducible rfl)
              simp only [put_list, List.set_cons_succ, List.set_cons_zero]
              refine wpAnyH_takeL (i := 13) (v := ?_) rfl (by kernel_rfl) (by kernel_rfl) (by kernel_rfl) (fun _ _ _ h => h) (Or.inl ⟨by kernel_rfl, ?_⟩) hS ?_
              rotate_left
              · intro V hV
                go_simp
                (try with_reducible rfl)
              simp only [put_list, List.set_cons_succ, List.set_cons_zero]
              refine wpAnyH_ready (rs := [12]) (by kernel_rfl) (by simp) (AllReadyH.cons rfl (fun K hK => ?_) AllReadyH.nil)
              go_simp
              refine hK.out _ _ hS (fun hS => ?_)
              clear hK K
              refine wpAnyH_ready (rs := [14]) (by kernel_rfl) (by simp) (AllReadyH.cons rfl (fun K hK => ?_) AllReadyH.nil)
              go_simp
              refine (HMA.out _).mono ?_
              rintro e w9 ⟨rfl, rfl⟩
              refine hK.out _ _ hS (fun hS => ?_)
              clear hK K
              refine wpAnyH_takeL (i := 15) (v := ?_) rfl (by kernel_rfl) (by kernel_rfl) (by kernel_rfl) (fun _ _ _ h => h) (Or.inl ⟨by kernel_rfl, ?_⟩) hS ?_
              rotate_left
              · intro V hV
                go_simp
                (try with_reducible rfl)
              simp only [put_list, List.set_cons_succ, List.set_cons_zero]
              refine wpAnyH_takeL (i := 16) (v := ?_) rfl (by kernel_rfl) (by kernel_rfl) (by kernel_rfl) (fun _ _ _ h => h) (Or.inl ⟨by kernel_rfl, ?_⟩) hS ?_
              rotate_left
              · intro V hV
                go_simp
                (try with_reducible rfl)
              simp only [put_list, List.set_cons_succ, List.set_cons_zero]
              refine wpAnyH_takeL (i := 17) (v := ?_) rfl (by kernel_rfl) (by kernel_rfl) (by kernel_rfl) (fun _ _ _ h => h) (Or.inl ⟨by kernel_rfl, ?_⟩) hS ?_
              rotate_left
              · intro V hV
                go_simp
                (try with_reducible rfl)
              simp only [put_list, List.set_cons_succ, List.set_cons_zero]
              refine wpAnyH_ready (rs := [18]) (by kernel_rfl) (by simp) (AllReadyH.cons rfl (fun K hK => ?_) AllReadyH.nil)
              go_simp
              refine hK.out _ _ hS (fun hS => ?_)
              clear hK K
              refine wpAnyH_takeL (i := 19) (v := ?_) rfl (by kernel_rfl) (by kernel_rfl) (by kernel_rfl) (fun _ _ _ h => h) (Or.inl ⟨by kernel_rfl, ?_⟩) hS ?_
              rotate_left
              · intro V hV
                go_simp
                (try with_reducible rfl)
              simp only [put_list, List.set_cons_succ, List.set_cons_zero]
              refine wpAnyH_ready (rs := [20]) (by kernel_rfl) (by simp) (AllReadyH.cons rfl (fun K hK => ?_) AllReadyH.nil)
              go_simp
              refine hK.out _ _ (hS.set _ _) (fun hS => ?_)
              clear hK K
              refine wpAnyH_done (by kernel_rfl) ?_ _
              (try simp only [put_none])
              go_wp2_with fail
              refine ⟨⟨i2 + 1, h, _, HJS.out, by go_num, rfl, HN.out⟩, by have := HJS.out; simp [intOf]; omega⟩
            · have hin : i2 = 3 := by omega
              have hnl : ¬ (i2 : Int) < 3 := by omega
              have HJ2 : Hid (M2 w1.drew.drew wr L (limb m) gk g2 tm 3 cv2) := hin ▸ HJ.out
              clear hi2 hit hin HJ
              obtain ⟨s, c, hs, hc, e2, hadd⟩ := add64_ex0 top cv2 HTOP.out HJ2.out.c
              have cz := blk_cell HJ2.out.cells (get g2 (show 3 < 4 by decide))
              have fr : ∀ o, wr.frozen? ⟨L, o, none⟩ = false := fun o => blk_free HJ2.out.cells
              have h3 := blk_set (o := 3) HJ2.out.cells (.int .u64 s)
              rw [set g2 s (by decide)] at h3
              have hbut : But L W0 (wr.setCell ⟨L, 3, none⟩ (.int .u64 s)) := (HI.out.but.trans (HJ1.out.but.drew.drew.trans HJ2.out.but)).set _ _
              have hN := MO.next HI.out HM.out HJ1.out.sum HE1.out HTL.out HJ2.out.sum HJ2.out.lt e2 hs h3 hbut
              have HN := hideP hN
              have hov : IntKind.u64.wrap ((over : Int) + (c : Int)) = (over : Int) + c := by
                have := HOV.out
                rw [IntKind.wrap_u64]; omega
              clear hN h3 hbut e2 hs hc
              go_wp2_with fail
              refine ⟨⟨k + 1, over + c, _, _, HKS.out, by go_num, by go_num, HN.out⟩, by have := HKS.out; simp [intOf]; omega⟩
    · have hkn : k = 4 := by omega
      have hnl : ¬ (k : Int) < 4 := by omega
      have HJ : Hid (MO W0 wr L x y g m 4 a q) := hkn ▸ HI.out
      clear hk hlt hkn HI
      obtain ⟨q0, q1, q2, q3⟩ := cells HJ.out.cells
      have hZ := val_ltR (fun j _ => HJ.out.lt j)
      have hsum := HJ.out.sum
      rw [← R_eq] at hsum
      have hq := HJ.out.q
      rw [← R_eq] at hq
      have hT : val g 4 + R * a < 2 * m := by
        rw [Nat.mul_comm R]
        exact MN.last hsum HAB.out hq H0.out
      have hPR : (val g 4 + R * a) % m * R % m = val x 4 * val y 4 % m := by
        rw [Nat.mod_mul_mod, Nat.mul_comm R a, hsum, Nat.add_mul_mod_self_right]
      have hPm : (val g 4 + R * a) % m < m := Nat.mod_lt _ H0.out
      have hcall := reduce_any p m f o r (val g 4) a wr (HR0.out.belowN (by omega) HJ.out.but.below) HM.out hZ hT
      rw [← wv_val (fun j _ => HJ.out.lt j)] at hcall
      unfold cs at hcall
      generalize (val g 4 + R * a) % m = Pr at hPR hPm hcall
      have HC := hideP hcall
      have HP : Hid (Pr < m ∧ Pr * R % m = val x 4 * val y 4 % m) := ⟨hPm, hPR⟩
      clear hcall hPm hPR hT hsum hZ hq
      go_wp2_with fail
      rename_i Q' KA KB KC hKC KD hKD
      refine HC.out.mono ?_
      rintro e w3 ⟨rfl, hb⟩
      refine hKD _ _ ?_
      have hD3 := (hb.block _ (lt_of_block ((HJ.out.but.same _ nD).trans HD.out))).trans ((HJ.out.but.same _ nD).trans HD.out)
      have hlw := HBW.out.trans ((HJ.out.but.below.mono (show w.heap.size ≤ L by omega)).trans (hb.mono (Nat.le_trans HBW.out.size HJ.out.but.below.size)))
      refine endSlotQ hKC (fun _ _ h => h) rfl rfl rfl rfl under rfl (info _) (one _) (there_cs hD3 _) ?_
      intro wS hBut
      exact ⟨⟨Pr, rfl, HP.out.1, HP.out.2⟩, hlw.trans (hBut.below.mono (by omega))⟩

end Go.Proofs.YtcbdbnfgnonacaaGreat.W4
