/-
  The document's Mul: a product of lists of words.
-/
import Derived.Test.YtiekipkmfopdoaaRRest
import Derived.Test.YtiekipkmfopdoaaRHalf
namespace Go.Proofs.Ytiekipkmfopdoaa
open Go.RowKit Go.Shelf

/-- A product of words, and two words more. -/
theorem mac_cases (x y h l o c : Nat) (hx : x < 18446744073709551616) (hy : y < 18446744073709551616) (hh : h < 18446744073709551616) (hl : l < 18446744073709551616) (e : x * y = l + 18446744073709551616 * h) (ho : o < 18446744073709551616) (hc : c < 18446744073709551616) :
    ∃ l1 l2 h1 h2 : Nat, l2 < 18446744073709551616 ∧ h2 < 18446744073709551616 ∧ x * y + o + c = l2 + 18446744073709551616 * h2 ∧ IntKind.u64.wrap ((l : Int) + (o : Int)) = (l1 : Int) ∧ IntKind.u64.wrap ((l1 : Int) + (c : Int)) = (l2 : Int) ∧
      (((l1 : Int) < (o : Int) ∧ IntKind.u64.wrap ((h : Int) + 1) = (h1 : Int)) ∨ (¬ (l1 : Int) < (o : Int) ∧ h1 = h)) ∧ (((l2 : Int) < (c : Int) ∧ IntKind.u64.wrap ((h1 : Int) + 1) = (h2 : Int)) ∨ (¬ (l2 : Int) < (c : Int) ∧ h2 = h1)) := by
  have hle := prod_le hx hy
  rw [e] at hle ⊢
  simp only [IntKind.wrap_u64]
  by_cases d1 : l + o < 18446744073709551616
  · by_cases d2 : l + o + c < 18446744073709551616
    · exact ⟨l + o, l + o + c, h, h, by omega, by omega, by omega, by omega, by omega, Or.inr ⟨by omega, rfl⟩, Or.inr ⟨by omega, rfl⟩⟩
    · exact ⟨l + o, l + o + c - 18446744073709551616, h, h + 1, by omega, by omega, by omega, by omega, by omega, Or.inr ⟨by omega, rfl⟩, Or.inl ⟨by omega, by omega⟩⟩
  · by_cases d2 : l + o - 18446744073709551616 + c < 18446744073709551616
    · exact ⟨l + o - 18446744073709551616, l + o - 18446744073709551616 + c, h + 1, h + 1, by omega, by omega, by omega, by omega, by omega, Or.inl ⟨by omega, by omega⟩, Or.inr ⟨by omega, rfl⟩⟩
    · exact ⟨l + o - 18446744073709551616, l + o - 18446744073709551616 + c - 18446744073709551616, h + 1, h + 2, by omega, by omega, by omega, by omega, by omega, Or.inl ⟨by omega, by omega⟩, Or.inl ⟨by omega, by omega⟩⟩

/-- Where a row of a product has come to: cells from i on, k of them done. -/
structure RI (W wr : World) (D N i t : Nat) (y g0 gk : Nat → Nat) (k c : Nat) : Prop where
  lt : ∀ j, gk j < 18446744073709551616
  old : ∀ j, i + k ≤ j → gk j = g0 j
  sum : val gk (i + k) + 18446744073709551616 ^ (i + k) * c = val g0 (i + k) + t * val y k * 18446744073709551616 ^ i
  c : c < 18446744073709551616
  cells : wr.heap[D]? = some (.cells (cw N gk) 23 (0, 0))
  but : But D W wr

theorem RI.put {W wr : World} {D N i t : Nat} {y g0 gk : Nat → Nat} {k c s c' : Nat} (I : RI W wr D N i t y g0 gk k c) (hs : s < 18446744073709551616) (hc : c' < 18446744073709551616)
    (e : t * y k + gk (i + k) + c = s + 18446744073709551616 * c') :
    RI W (wr.setCell ⟨D, i + k, none⟩ (.int .u64 s)) D N i t y g0 (fun j => if j = i + k then s else gk j) (k + 1) c' := by
  refine ⟨fun j => ?_, fun j hj => ?_, ?_, hc, ?_, I.but.set _ _⟩
  · split
    · exact hs
    · exact I.lt j
  · rw [if_neg (by omega)]
    exact I.old j (by omega)
  · have h1 : val (fun j => if j = i + k then s else gk j) (i + k) = val gk (i + k) := val_congr _ (fun j hj => by rw [if_neg (by omega)])
    have h3 := I.old (i + k) (Nat.le_refl _)
    rw [h3] at e
    show val (fun j => if j = i + k then s else gk j) (i + k) + (if i + k = i + k then s else gk (i + k)) * 18446744073709551616 ^ (i + k) + 18446744073709551616 ^ (i + k + 1) * c' = val g0 (i + k) + g0 (i + k) * 18446744073709551616 ^ (i + k) + t * (val y k + y k * 18446744073709551616 ^ k) * 18446744073709551616 ^ i
    rw [h1, if_pos rfl, Nat.pow_succ]
    have h2 := I.sum
    rw [Nat.pow_add] at h2 ⊢
    generalize 18446744073709551616 ^ i = P at *
    generalize 18446744073709551616 ^ k = Q at *
    generalize val gk (i + k) = a at *
    generalize val g0 (i + k) = b at *
    generalize g0 (i + k) = d at *
    generalize y k = yk at *
    generalize val y k = vy at *
    have e2 : (t * yk + d + c) * (P * Q) = (s + 18446744073709551616 * c') * (P * Q) := by rw [e]
    grind
  · have := blk_set (o := i + k) I.cells (.int .u64 s)
    rw [cw_set gk s] at this
    exact this

/-- Where a product has come to: so many rows done. -/
structure QI (W wr : World) (D n : Nat) (x y g : Nat → Nat) (i : Nat) : Prop where
  lt : ∀ j, g j < 18446744073709551616
  zero : ∀ j, n + i ≤ j → g j = 0
  sum : val g (n + i) = val x i * val y n
  cells : wr.heap[D]? = some (.cells (cw (n + n) g) 23 (0, 0))
  but : But D W wr

theorem QI.row {W wr : World} {D n : Nat} {x y g : Nat → Nat} {i : Nat} (I : QI W wr D n x y g i) : RI W wr D (n + n) i (x i) y g g 0 0 :=
  ⟨I.lt, fun _ _ => rfl, by simp [val], by decide, I.cells, I.but⟩

theorem QI.put {W wr wr' : World} {D n : Nat} {x y g gk : Nat → Nat} {i c : Nat} (I : QI W wr D n x y g i) (J : RI W wr' D (n + n) i (x i) y g gk n c) :
    QI W (wr'.setCell ⟨D, i + n, none⟩ (.int .u64 c)) D n x y (fun j => if j = i + n then c else gk j) (i + 1) := by
  refine ⟨fun j => ?_, fun j hj => ?_, ?_, ?_, J.but.set _ _⟩
  · split
    · exact J.c
    · exact J.lt j
  · rw [if_neg (by omega), J.old j (by omega)]
    exact I.zero j (by omega)
  · have h1 : val (fun j => if j = i + n then c else gk j) (i + n) = val gk (i + n) := val_congr _ (fun j hj => by rw [if_neg (by omega)])
    rw [show n + (i + 1) = (i + n) + 1 by omega]
    show val (fun j => if j = i + n then c else gk j) (i + n) + (if i + n = i + n then c else gk (i + n)) * 18446744073709551616 ^ (i + n) = (val x i + x i * 18446744073709551616 ^ i) * val y n
    rw [h1, if_pos rfl]
    have h2 := J.sum
    have h3 := I.sum
    rw [Nat.add_comm n i] at h3
    rw [h3] at h2
    rw [Nat.mul_comm c, h2]
    generalize 18446744073709551616 ^ i = P
    grind
  · have := blk_set (o := i + n) J.cells (.int .u64 c)
    rw [cw_set gk c] at this
    exact this

set_option maxHeartbeats 4000000 in
set_option maxRecDepth 100000 in
theorem rmul_any {n : Nat} (hn : n ≤ 8) (X Y : Nat) (hX : X < 18446744073709551616 ^ n) (hY : Y < 18446744073709551616 ^ n) (w : World) (u v : Value) (hu : LW w u n (limb X)) (hv : LW w v n (limb Y)) :
    Calls Try.prog 109 #[u, v] w fun r w' => (∃ g, r = .returned (.slice (some ⟨g, 0, none⟩) (n + n) (n + n)) ∧ w'.heap[g]? = some (.cells (cw (n + n) (limb (X * Y))) 23 (0, 0)) ∧ w.heap.size ≤ g) ∧ Below w.heap.size w w' := by
  obtain ⟨g1, o1, c1, rfl, _, _, l1, h1⟩ := hu.ex
  obtain ⟨g2, o2, c2, rfl, _, _, l2, h2⟩ := hv.ex
  have H1 := hideP h1
  have H2 := hideP h2
  have HH : Hid (X < 18446744073709551616 ^ n ∧ Y < 18446744073709551616 ^ n ∧ n ≤ 8) := ⟨hX, hY, hn⟩
  obtain ⟨N, hN⟩ : ∃ N, N = n + n := ⟨_, rfl⟩
  have hmk := make_words w N (by omega)
  have ew : IntKind.i64.wrap ((n : Int) + (n : Int)) = (N : Int) := by rw [IntKind.wrap_i64]; omega
  have HN := hideP hN
  rw [← hN]
  clear h1 h2 hu hv hX hY hn hN
  go_enter Try.func109, Try.ntmps109
  go_wp2_with fail
  refine at_world (fun W0 hW0 => ?_)
  have hD : W0.heap[w.heap.size]? = some (.cells (cw N (fun _ => 0)) 23 (0, 0)) := by
    rw [hW0]
    exact heap_new _ _
  have HBW : Hid (Below w.heap.size w W0) := by
    show Below _ _ _
    rw [hW0]
    repeat first | exact Below.refl _ _ | (refine Below.alloc ?_ (by simp <;> omega) _)
  have hz0 : ∀ k, val (fun _ => 0) k = 0 := fun k => by
    induction k with
    | zero => rfl
    | succ k ih => simp [val, ih]
  have HI0 : Hid (QI W0 W0 w.heap.size n (limb X) (limb Y) (fun _ => 0) 0) := ⟨fun _ => by decide, fun _ _ => rfl, by rw [hz0]; simp [val], by rw [← HN.out]; exact hD, But.refl _ _⟩
  clear hW0 hD hmk hz0
  go_loopw [21] (fun i wr => ∃ (k : Nat) (g : Nat → Nat), k ≤ n ∧ i = .int .i64 k ∧ QI W0 wr w.heap.size n (limb X) (limb Y) g k) (fun i _ => n - (intOf i).toNat)
  case atStart => exact ⟨0, fun _ => 0, Nat.zero_le _, rfl, HI0.out⟩
  case round =>
    obtain ⟨i, g, hk, rfl, I⟩ := hrel
    have HI := hideP I
    clear I
    have hn := HH.out.2.2
    by_cases hlt : i < n
    · have ca : wr.cell? ⟨g1, o1 + i, none⟩ = some (.int .u64 (limb X i)) := by
        rw [HI.out.but.cell (show g1 ≠ w.heap.size by omega), HBW.out.cell (p := ⟨g1, o1 + i, none⟩) l1]
        exact H1.out _ hlt
      have hlt' : (i : Int) < n := by omega
      have e4 : IntKind.i64.wrap ((i : Int) + 1) = (i : Int) + 1 := by rw [IntKind.wrap_i64]; omega
      have e5 : IntKind.i64.wrap ((i : Int) + (n : Int)) = ((i + n : Nat) : Int) := by rw [IntKind.wrap_i64]; omega
      have HKS : Hid (i + 1 ≤ n) := hlt
      have HR0 := hideP HI.out.row
      clear hk hlt hn
      go_wp2_with fail
      rename World => wA
      clear ca
      go_loopw [8, 28] (fun c kk wr => ∃ (k cv : Nat) (gk : Nat → Nat), k ≤ n ∧ kk = .int .i64 k ∧ c = .int .u64 cv ∧ RI W0 wr w.heap.size (n + n) i (limb X i) (limb Y) g gk k cv) (fun _ kk _ => n - (intOf kk).toNat)
      case atStart => exact ⟨0, 0, g, Nat.zero_le _, rfl, rfl, HR0.out⟩
      case round =>
        obtain ⟨k, cv, gk, hk, rfl, rfl, J⟩ := hrel
        have HJ := hideP J
        clear J
        have hn := HH.out.2.2
        have hin := HKS.out
        by_cases hlk : k < n
        · have cb : wr.cell? ⟨g2, o2 + k, none⟩ = some (.int .u64 (limb Y k)) := by
            rw [HJ.out.but.cell (show g2 ≠ w.heap.size by omega), HBW.out.cell (p := ⟨g2, o2 + k, none⟩) l2]
            exact H2.out _ hlk
          have hNN := HN.out
          have cd := blk_cell HJ.out.cells (cw_get gk (show i + k < n + n by omega))
          have fr : ∀ o, wr.frozen? ⟨w.heap.size, o, none⟩ = false := fun o => blk_free HJ.out.cells
          have C := hideP (half_any (limb X i) (limb Y k) (limb_lt _ _) (limb_lt _ _) wr)
          have hlk' : (k : Int) < n := by omega
          have e6 : IntKind.i64.wrap ((i : Int) + (k : Int)) = ((i + k : Nat) : Int) := by rw [IntKind.wrap_i64]; omega
          have e7 : IntKind.i64.wrap ((k : Int) + 1) = (k : Int) + 1 := by rw [IntKind.wrap_i64]; omega
          have g7 : ((i + k : Nat) : Int) < (N : Int) := by omega
          have HKK : Hid (k + 1 ≤ n) := hlk
          have hog := HJ.out.lt (i + k)
          have hcv := HJ.out.c
          have hxi := limb_lt X i
          have hyk := limb_lt Y k
          have HP := hideP (fun s c' hs hc e => HJ.out.put (s := s) (c' := c') hs hc e)
          generalize limb Y k = yk at *
          generalize limb X i = xi at *
          generalize gk (i + k) = ogk at *
          clear hk hlk hn hin HJ hNN e5
          generalize i + k = ik at *
          go_wp2_with fail
          refine C.out.mono ?_
          rintro r wB ⟨⟨h, l, rfl, hh, hl, he⟩, rfl⟩
          obtain ⟨l1', l2', h1', h2', q1, q2, q3, w1, w2, d1, d2⟩ := mac_cases xi yk h l ogk cv hxi hyk hh hl he hog hcv
          have HP2 := hideP (HP.out _ _ q1 q2 q3)
          clear HP he hh hl q1 q2 q3 hog hcv hxi hyk C
          rcases d1 with ⟨d1, v1⟩ | ⟨d1, rfl⟩ <;> rcases d2 with ⟨d2, v2⟩ | ⟨d2, rfl⟩
          all_goals
            go_wp2_with fail
            exact ⟨⟨k + 1, _, _, HKK.out, by go_num, rfl, HP2.out⟩, by have := HKK.out; simp [intOf]; omega⟩
        · have hkn : k = n := by omega
          have hnl : ¬ (k : Int) < n := by omega
          have HJn : Hid (RI W0 wr w.heap.size (n + n) i (limb X i) (limb Y) g gk n cv) := hkn ▸ HJ.out
          have HQ := hideP (HI.out.put HJn.out)
          have hNN := HN.out
          have cd := blk_cell HJn.out.cells (cw_get gk (show i + n < n + n by omega))
          have fr : ∀ o, wr.frozen? ⟨w.heap.size, o, none⟩ = false := fun o => blk_free HJn.out.cells
          have g7 : ((i + n : Nat) : Int) < (N : Int) := by omega
          clear hk hlk hn hin HJ HJn HI hNN HR0
          generalize i + n = inn at *
          go_wp2_with fail
          exact ⟨⟨i + 1, _, HKS.out, by go_num, HQ.out⟩, by have := HKS.out; simp [intOf]; omega⟩
    · have hkn : i = n := by omega
      have hnl : ¬ (i : Int) < n := by omega
      have HJ : Hid (QI W0 wr w.heap.size n (limb X) (limb Y) g n) := hkn ▸ HI.out
      have HC : Hid (wr.heap[w.heap.size]? = some (.cells (cw N (limb (X * Y))) 23 (0, 0))) := by
        show _ = _
        rw [HN.out]
        have h1 := HJ.out.sum
        rw [val_limbs HH.out.1, val_limbs HH.out.2.1] at h1
        rw [← h1, cw_congr (g := g) (fun j hj => limb_val (n + n) (fun j _ => HJ.out.lt j) hj)]
        exact HJ.out.cells
      have HB := hideP HJ.out.but.below
      clear hk hlt hn hkn HI HJ
      go_wp2
      go_ret
      exact ⟨⟨_, rfl, HC.out, Nat.le_refl _⟩, HBW.out.trans HB.out⟩

end Go.Proofs.Ytiekipkmfopdoaa
