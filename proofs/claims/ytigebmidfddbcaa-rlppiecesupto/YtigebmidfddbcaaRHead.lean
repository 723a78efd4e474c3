/-
  The document's Head.
-/
import Derived.Test.YtigebmidfddbcaaRHeadN
namespace Go.Proofs.Ytigebmidfddbcaa
open Go.RowKit Go.Shelf

set_option maxHeartbeats 1000000 in
set_option maxRecDepth 100000 in
theorem refHead_none {ao : Option Addr} {cap : Nat} {bs : Nat → Nat} (w : World) :
    Calls Try.prog 22 #[.slice ao 0 cap] w fun e w' => e = .returned (.tuple #[pc (hd bs 0).1 (hd bs 0).2.1 (hd bs 0).2.2.1, .int .i64 (hd bs 0).2.2.2]) ∧ Below w.heap.size w w' := by
  have hh : hd bs 0 = (0, 0, 0, 41) := rfl
  rw [hh]
  clear hh
  unfold pc
  go_enter Try.func22, Try.ntmps22
  go_wp2_with fail
  refine bodyPost_ret (v := .tuple #[.agg #[.int .i64 0, .int .i64 0, .int .i64 0], .int .i64 41]) (by simp [results, Try.results22, go_sem]) rfl ⟨rfl, ?_⟩
  repeat first | exact Below.refl _ _ | (refine Below.setCell ?_ (by dsimp only <;> omega) _) | (refine Below.alloc ?_ (by simp <;> omega) _)

set_option maxHeartbeats 2000000 in
set_option maxRecDepth 100000 in
theorem refHead_byte {ao : Option Addr} {n cap : Nat} {bs : Nat → Nat} (w : World) (h : BS w ao n cap bs) (h0 : 0 < n) (h1 : bs 0 < 128) :
    Calls Try.prog 22 #[.slice ao n cap] w fun e w' => e = .returned (.tuple #[pc (hd bs n).1 (hd bs n).2.1 (hd bs n).2.2.1, .int .i64 (hd bs n).2.2.2]) ∧ Below w.heap.size w w' := by
  obtain ⟨ad, rfl, hc⟩ := h.cell 0 h0
  rw [show ad.add 0 = ad from rfl] at hc
  have had := World.block_lt_of_cell? _ _ hc
  have hh : hd bs n = (0, 0, 1, 0) := by unfold hd; rw [if_neg (by omega), if_pos h1]
  rw [hh]
  have gz : ((n : Int) == 0) = false := beq_eq_false_iff_ne.2 (by omega)
  have gz' : ¬ (n : Int) = 0 := by omega
  have gp : (0 : Int) < (n : Int) := by omega
  have gc : ¬ (bs 0 : Int) ≥ 192 := by omega
  have gc' : ¬ (192 : Int) ≤ (bs 0 : Int) := by omega
  have g1 : (bs 0 : Int) < 128 := by omega
  generalize hx : bs 0 = x at *
  clear h hh hx h1
  unfold pc
  go_enter Try.func22, Try.ntmps22
  go_wp2_with fail
  refine bodyPost_ret (v := .tuple #[.agg #[.int .i64 0, .int .i64 0, .int .i64 1], .int .i64 0]) (by simp [results, Try.results22, go_sem]) rfl ⟨rfl, ?_⟩
  repeat first | exact Below.refl _ _ | (refine Below.setCell ?_ (by dsimp only <;> omega) _) | (refine Below.alloc ?_ (by simp <;> omega) _)

set_option maxHeartbeats 8000000 in
set_option maxRecDepth 100000 in
theorem refHead_128 {ao : Option Addr} {n cap : Nat} {bs : Nat → Nat} (w : World) (h : BS w ao n cap bs) (h0 : 0 < n) (h1 : ¬ bs 0 < 128) (h2 : bs 0 < 192) (hn : n ≤ 140737488355328) :
    Calls Try.prog 22 #[.slice ao n cap] w fun e w' => e = .returned (.tuple #[pc (hd bs n).1 (hd bs n).2.1 (hd bs n).2.2.1, .int .i64 (hd bs n).2.2.2]) ∧ Below w.heap.size w w' := by
  obtain ⟨ad, rfl, hc⟩ := h.cell 0 h0
  rw [show ad.add 0 = ad from rfl] at hc
  have had := World.block_lt_of_cell? _ _ hc
  have hl := h.lt
  have hl0 := hl 0
  have hM : 128 ≤ bs 0 := by omega
  have hhd : hd bs n = if (rl bs n 128).2.2 ≠ 0 then (0, 0, 0, (rl bs n 128).2.2)
      else if n - (rl bs n 128).1 < (rl bs n 128).2.1 then (0, 0, 0, 41)
      else if (rl bs n 128).2.1 = 1 ∧ bs (rl bs n 128).1 < 128 then (0, 0, 0, 42) else (0, (rl bs n 128).1, (rl bs n 128).1 + (rl bs n 128).2.1, 0) := by
    unfold hd
    rw [if_neg (by omega), if_neg h1, if_pos h2]
  have gz : ((n : Int) == 0) = false := beq_eq_false_iff_ne.2 (by omega)
  have gz' : ¬ (n : Int) = 0 := by omega
  have gp : (0 : Int) < (n : Int) := by omega
  obtain ⟨k, hkx⟩ : ∃ k, k = bs 0 - 128 := ⟨_, rfl⟩
  obtain ⟨y, hxy⟩ : ∃ y, y = bs 0 - 64 := ⟨_, rfl⟩
  have gc : ¬ (bs 0 : Int) ≥ 192 := by omega
  have gc' : ¬ (192 : Int) ≤ (bs 0 : Int) := by omega
  have e64 : IntKind.i64.wrap ((bs 0 : Int) - 64) = (y : Int) := by rw [IntKind.wrap_i64]; omega
  have g128 : ¬ (bs 0 : Int) < 128 := by omega
  have en : IntKind.i64.wrap ((bs 0 : Int) - 128) = (k : Int) := by rw [IntKind.wrap_i64]; omega
  have HBL : Hid (Below w.heap.size w w) := hideP (Below.refl _ w)
  obtain ⟨x, hx⟩ : ∃ x, x = bs 0 := ⟨_, rfl⟩
  rw [← hx] at hc gc gc' e64 g128 en
  by_cases h55 : bs 0 - 128 ≤ 55
  · have hrl : rl bs n 128 = (1, k, 0) := by unfold rl; rw [if_pos h55, ← hkx]
    rw [hrl] at hhd
    dsimp only at hhd
    rw [if_neg (by simp)] at hhd
    have g55 : ¬ (k : Int) > 55 := by omega
    have g55' : ¬ (55 : Int) < (k : Int) := by omega
    have eto : IntKind.i64.wrap ((1 : Int) + (k : Int)) = ((1 + k : Nat) : Int) := by rw [IntKind.wrap_i64]; omega
    by_cases hs : n - 1 < k
    · rw [if_pos hs] at hhd
      rw [hhd]
      have gto : ((1 + k : Nat) : Int) > (n : Int) := by omega
      have gto' : (n : Int) < ((1 + k : Nat) : Int) := by omega
      clear hhd hrl hs h55 hkx hl hl0 h h0 h1 h2 hn hx hxy hM
      generalize 1 + k = to at *
      unfold pc
      go_enter Try.func22, Try.ntmps22
      go_wp2_with fail
      refine bodyPost_ret (v := .tuple #[.agg #[.int .i64 0, .int .i64 0, .int .i64 0], .int .i64 41]) (by simp [results, Try.results22, go_sem]) rfl ⟨rfl, ?_⟩
      repeat first | exact Below.refl _ _ | exact HBL.out | (refine Below.setCell ?_ (by dsimp only <;> omega) _) | (refine Below.alloc ?_ (by simp <;> omega) _)
    · rw [if_neg hs] at hhd
      have gto : ¬ ((1 + k : Nat) : Int) > (n : Int) := by omega
      have gto' : ¬ (n : Int) < ((1 + k : Nat) : Int) := by omega
      by_cases hk1 : k = 1
      · subst hk1
        obtain ⟨ad', e', hc1⟩ := h.cell 1 (by omega)
        cases e'
        have hc1' : w.cell? ⟨ad.block, ad.off + 1, none⟩ = some (.int .u8 (bs 1)) := hc1
        have had1 := World.block_lt_of_cell? _ _ hc1'
        have g1n : (1 : Int) < (n : Int) := by omega
        by_cases hb1 : bs 1 < 128
        · rw [if_pos ⟨rfl, hb1⟩] at hhd
          rw [hhd]
          have gb1 : (bs 1 : Int) < 128 := by omega
          generalize bs 1 = y1 at *
          clear hhd hrl hs h55 hkx hl hl0 h h0 h1 h2 hn hx hxy hM hb1 hc1
          unfold pc
          go_enter Try.func22, Try.ntmps22
          go_wp2_with fail
          refine bodyPost_ret (v := .tuple #[.agg #[.int .i64 0, .int .i64 0, .int .i64 0], .int .i64 42]) (by simp [results, Try.results22, go_sem]) rfl ⟨rfl, ?_⟩
          repeat first | exact Below.refl _ _ | exact HBL.out | (refine Below.setCell ?_ (by dsimp only <;> omega) _) | (refine Below.alloc ?_ (by simp <;> omega) _)
        · rw [if_neg (fun e => hb1 e.2)] at hhd
          rw [hhd]
          have gb1 : ¬ (bs 1 : Int) < 128 := by omega
          generalize bs 1 = y1 at *
          clear hhd hrl hs h55 hkx hl hl0 h h0 h1 h2 hn hx hxy hM hb1 hc1
          unfold pc
          go_enter Try.func22, Try.ntmps22
          go_wp2_with fail
          refine bodyPost_ret (v := .tuple #[.agg #[.int .i64 0, .int .i64 1, .int .i64 2], .int .i64 0]) (by simp [results, Try.results22, go_sem]) rfl ⟨rfl, ?_⟩
          repeat first | exact Below.refl _ _ | exact HBL.out | (refine Below.setCell ?_ (by dsimp only <;> omega) _) | (refine Below.alloc ?_ (by simp <;> omega) _)
      · rw [if_neg (fun e => hk1 e.1)] at hhd
        rw [hhd]
        have gk1 : ¬ (k : Int) = 1 := by omega
        have gk1' : ((k : Int) == 1) = false := beq_eq_false_iff_ne.2 gk1
        clear hhd hrl hs h55 hkx hl hl0 h h0 h1 h2 hn hx hxy hM hk1
        unfold pc
        generalize 1 + k = to at *
        go_enter Try.func22, Try.ntmps22
        go_wp2_with fail
        refine bodyPost_ret (v := .tuple #[.agg #[.int .i64 0, .int .i64 1, .int .i64 to], .int .i64 0]) (by simp [results, Try.results22, go_sem]) rfl ⟨rfl, ?_⟩
        repeat first | exact Below.refl _ _ | exact HBL.out | (refine Below.setCell ?_ (by dsimp only <;> omega) _) | (refine Below.alloc ?_ (by simp <;> omega) _)
  · have hk63 : k ≤ 63 := by omega
    have g55 : (k : Int) > 55 := by omega
    have g55' : (55 : Int) < (k : Int) := by omega
    have ekk : IntKind.i64.wrap ((k : Int) - 55) = ((k - 55 : Nat) : Int) := by rw [IntKind.wrap_i64]; omega
    have e1k : IntKind.i64.wrap ((1 : Int) + ((k - 55 : Nat) : Int)) = ((1 + (k - 55) : Nat) : Int) := by rw [IntKind.wrap_i64]; omega
    by_cases hs : n < 1 + (k - 55)
    · have hrl : rl bs n 128 = (0, 0, 41) := by unfold rl; rw [if_neg (by omega), if_pos (by omega)]
      rw [hrl] at hhd
      rw [hhd, if_pos (by simp)]
      have gs : (n : Int) < ((1 + (k - 55) : Nat) : Int) := by omega
      clear hhd hrl hs h55 hkx hl hl0 h h0 h1 h2 hn hx hxy hM
      generalize k - 55 = kk at *
      generalize 1 + kk = k1 at *
      unfold pc
      go_enter Try.func22, Try.ntmps22
      go_wp2_with fail
      refine bodyPost_ret (v := .tuple #[.agg #[.int .i64 0, .int .i64 0, .int .i64 0], .int .i64 41]) (by simp [results, Try.results22, go_sem]) rfl ⟨rfl, ?_⟩
      repeat first | exact Below.refl _ _ | exact HBL.out | (refine Below.setCell ?_ (by dsimp only <;> omega) _) | (refine Below.alloc ?_ (by simp <;> omega) _)
    · have gs : ¬ (n : Int) < ((1 + (k - 55) : Nat) : Int) := by omega
      obtain ⟨ad', e', hc1⟩ := h.cell 1 (by omega)
      cases e'
      have hc1' : w.cell? ⟨ad.block, ad.off + 1, none⟩ = some (.int .u8 (bs 1)) := hc1
      have had1 := World.block_lt_of_cell? _ _ hc1'
      have g1n : (1 : Int) < (n : Int) := by omega
      have hle := h.le
      have hrun := fun (W : World) (hb : Below w.heap.size w W) => refRead_any (fun j => bs (1 + j)) (fun j => hl _) (k - 55) (cap - 1) ⟨ad.block, ad.off + 1, none⟩ (by omega) W (fun j hj => by
        obtain ⟨ad3, e3, hc3⟩ := (h.moved hb).cell (1 + j) (by omega)
        cases e3
        rw [← add_add] at hc3
        exact hc3)
      rw [rdv_all] at hrun
      have hdl := dv_lt hl (k - 55)
      have hD64 : dv bs (k - 55) < 18446744073709551616 := Nat.lt_of_lt_of_le hdl (Nat.le_trans (Nat.pow_le_pow_right (by decide) (show k - 55 ≤ 8 by omega)) (by decide))
      rw [wv_low hD64] at hrun
      have hrl : rl bs n 128 = if bs 1 = 0 ∨ dv bs (k - 55) ≤ 55 ∨ 1099511627776 < dv bs (k - 55) then (0, 0, 42) else (1 + (k - 55), dv bs (k - 55), 0) := by
        unfold rl
        rw [if_neg (by omega), if_neg (by omega), show bs 0 - 128 - 55 = k - 55 by omega, show bs 0 - 128 - 54 = 1 + (k - 55) by omega]
      have hkk : k - 55 ≤ 8 := by omega
      have hcap1 : ¬ cap = 1 := by omega
      have hcap2 : ¬ (cap : Int) = 1 := by omega
      have gk1 : (1 : Int) ≤ ((1 + (k - 55) : Nat) : Int) := by omega
      have gk2 : ((1 + (k - 55) : Nat) : Int) ≤ (cap : Int) := by omega
      have gk3 : 1 + (k - 55) - 1 = k - 55 := by omega
      have HRUN := hideP hrun
      clear hrun hdl hc1 hle
      generalize hD : dv bs (k - 55) = D at *
      generalize hy1 : bs 1 = y1 at *
      have HAR := hideP (And.intro hrl (And.intro hhd (And.intro hs (And.intro hn (And.intro hD64 (And.intro hkk h0))))))
      clear hrl hhd hs hn hD64 hkk h0 hD hy1 hl hl0 h h1 h2 hkx hx hxy hM h55
      generalize k - 55 = kk at *
      generalize hk1 : 1 + kk = k1 at *
      have HK1 := hideP hk1
      clear hk1
      generalize hres : hd bs n = res at *
      clear hres
      unfold pc
      go_enter Try.func22, Try.ntmps22
      go_wp2_with fail
      refine (HRUN.out _ ?bel).mono ?_
      case bel => repeat first | exact Below.refl _ _ | (refine Below.setCell ?_ (by dsimp only <;> omega) _) | (refine Below.alloc ?_ (by simp <;> omega) _)
      rintro e W2 ⟨rfl, hb2⟩
      have hb0 : Below w.heap.size w ((w.alloc (.cells #[.int .i64 0, .int .i64 0, .int .i64 0] 40)).alloc (.cells #[.int .i64 0, .int .i64 1, .int .i64 0] 40)) := ((Below.refl _ w).alloc (Nat.le_refl _) _).alloc (by simp) _
      have hR0 : ((w.alloc (.cells #[.int .i64 0, .int .i64 0, .int .i64 0] 40)).alloc (.cells #[.int .i64 0, .int .i64 1, .int .i64 0] 40)).heap[w.heap.size]? = some (.cells #[.int .i64 0, .int .i64 0, .int .i64 0] 40 (0, 0)) := (heap_old _ _ (by simp)).trans (heap_new _ _)
      have hP0 : ((w.alloc (.cells #[.int .i64 0, .int .i64 0, .int .i64 0] 40)).alloc (.cells #[.int .i64 0, .int .i64 1, .int .i64 0] 40)).heap[w.heap.size + 1]? = some (.cells #[.int .i64 0, .int .i64 1, .int .i64 0] 40 (0, 0)) := by
        have := heap_new (w.alloc (.cells #[.int .i64 0, .int .i64 0, .int .i64 0] 40)) (.cells #[.int .i64 0, .int .i64 1, .int .i64 0] 40)
        rwa [World.size_alloc] at this
      have hR2 := (hb2.block _ (lt_of_block hR0)).trans hR0
      have hP2 := (hb2.block _ (lt_of_block hP0)).trans hP0
      have hb02 : Below w.heap.size w W2 := hb0.trans (hb2.mono hb0.size)
      have hR3 := (heap_old W2 (.cells #[.int .u64 D, .int .u64 0, .int .u64 0, .int .u64 0] 58) (lt_of_block hR2)).trans hR2
      have hP3 := (heap_old W2 (.cells #[.int .u64 D, .int .u64 0, .int .u64 0, .int .u64 0] 58) (lt_of_block hP2)).trans hP2
      have hD3 := heap_new W2 (.cells #[.int .u64 D, .int .u64 0, .int .u64 0, .int .u64 0] 58)
      have hb03 := hb02.alloc hb02.size (.cells #[.int .u64 D, .int .u64 0, .int .u64 0, .int .u64 0] 58)
      have hcy : (W2.alloc (.cells #[.int .u64 D, .int .u64 0, .int .u64 0, .int .u64 0] 58)).cell? ⟨ad.block, ad.off + 1, none⟩ = some (.int .u8 y1) := (hb03.cell (p := ⟨ad.block, ad.off + 1, none⟩) had1).trans hc1'
      obtain ⟨r0, r1, r2⟩ := cells3 hR3
      obtain ⟨p0, p1, p2⟩ := cells3 hP3
      obtain ⟨q0, q1, q2, q3⟩ := cells4 hD3
      have rf : ∀ o, (W2.alloc (.cells #[.int .u64 D, .int .u64 0, .int .u64 0, .int .u64 0] 58)).frozen? ⟨w.heap.size, o, none⟩ = false := fun o => blk_free hR3
      have pf : ∀ o, (W2.alloc (.cells #[.int .u64 D, .int .u64 0, .int .u64 0, .int .u64 0] 58)).frozen? ⟨w.heap.size + 1, o, none⟩ = false := fun o => blk_free hP3
      have HBW := hideP hb03
      have hne1 : ¬ w.heap.size = w.heap.size + 1 := by omega
      have hne2 : ¬ w.heap.size + 1 = w.heap.size := by omega
      clear hb0 hR0 hP0 hR2 hP2 hb02 hR3 hP3 hD3 hb03 hb2 hc1' HRUN hc
      obtain ⟨hrl, hhd, hs, hn, hD64, hkk, h0⟩ := HAR.out
      have hk1 := HK1.out
      by_cases hy0 : y1 = 0
      · rw [if_pos (Or.inl hy0)] at hrl
        rw [hrl, if_pos (by simp)] at hhd
        have HRES := hideP hhd
        have gy : (y1 : Int) = 0 := by omega
        subst hy0
        clear hrl hhd hs hn hD64 hkk h0 HAR hk1
        go_wp2_with fail
        refine bodyPost_ret (v := .tuple #[.agg #[.int .i64 0, .int .i64 0, .int .i64 0], .int .i64 42]) (by simp [results, Try.results22, go_sem, r0, r1, r2, World.cell?_setCell_same]) rfl ?_
        rw [HRES.out]
        refine ⟨rfl, ?_⟩
        repeat first | exact HBW.out | (refine Below.setCell ?_ (by dsimp only <;> omega) _)
      · have gy : ¬ (y1 : Int) = 0 := by omega
        have gy' : ((y1 : Int) == 0) = false := beq_eq_false_iff_ne.2 gy
        by_cases hd1 : D ≤ 55
        · rw [if_pos (Or.inr (Or.inl hd1))] at hrl
          rw [hrl, if_pos (by simp)] at hhd
          have HRES := hideP hhd
          have gd : (D : Int) < 56 := by omega
          clear hrl hhd hs hn hD64 hkk h0 HAR hk1 hd1 hy0
          go_wp2_with fail
          refine bodyPost_ret (v := .tuple #[.agg #[.int .i64 0, .int .i64 0, .int .i64 0], .int .i64 42]) (by simp [results, Try.results22, go_sem, r0, r1, r2, World.cell?_setCell_same]) rfl ?_
          rw [HRES.out]
          refine ⟨rfl, ?_⟩
          repeat first | exact HBW.out | (refine Below.setCell ?_ (by dsimp only <;> omega) _)
        · have gd : ¬ (D : Int) < 56 := by omega
          by_cases hd2 : 1099511627776 < D
          · rw [if_pos (Or.inr (Or.inr hd2))] at hrl
            rw [hrl, if_pos (by simp)] at hhd
            have HRES := hideP hhd
            have gd2 : (D : Int) > 1099511627776 := by omega
            have gd2' : (1099511627776 : Int) < (D : Int) := by omega
            clear hrl hhd hs hn hD64 hkk h0 HAR hk1 hd1 hd2 hy0
            go_wp2_with fail
            refine bodyPost_ret (v := .tuple #[.agg #[.int .i64 0, .int .i64 0, .int .i64 0], .int .i64 42]) (by simp [results, Try.results22, go_sem, r0, r1, r2, World.cell?_setCell_same]) rfl ?_
            rw [HRES.out]
            refine ⟨rfl, ?_⟩
            repeat first | exact HBW.out | (refine Below.setCell ?_ (by dsimp only <;> omega) _)
          · have gd2 : ¬ (D : Int) > 1099511627776 := by omega
            have gd2' : ¬ (1099511627776 : Int) < (D : Int) := by omega
            rw [if_neg (by omega)] at hrl
            rw [hrl] at hhd
            dsimp only at hhd
            rw [if_neg (by simp)] at hhd
            have ecv : IntKind.i64.wrap (D : Int) = (D : Int) := by rw [IntKind.wrap_i64]; omega
            have eto : IntKind.i64.wrap ((k1 : Int) + (D : Int)) = ((k1 + D : Nat) : Int) := by rw [IntKind.wrap_i64]; omega
            have gd1 : ¬ (D : Int) = 1 := by omega
            have gd1' : ((D : Int) == 1) = false := beq_eq_false_iff_ne.2 gd1
            by_cases hto : n - k1 < D
            · rw [if_pos hto] at hhd
              have HRES := hideP hhd
              have gto : ((k1 + D : Nat) : Int) > (n : Int) := by omega
              have gto' : (n : Int) < ((k1 + D : Nat) : Int) := by omega
              clear hrl hhd hs hn hD64 hkk h0 HAR hk1 hd1 hd2 hy0 hto
              generalize k1 + D = to at *
              go_wp2_with fail
              refine bodyPost_ret (v := .tuple #[.agg #[.int .i64 0, .int .i64 0, .int .i64 0], .int .i64 41]) (by simp [results, Try.results22, go_sem, r0, r1, r2, World.cell?_setCell_same]) rfl ?_
              rw [HRES.out]
              refine ⟨rfl, ?_⟩
              repeat first | exact HBW.out | (refine Below.setCell ?_ (by dsimp only <;> omega) _)
            · rw [if_neg hto, if_neg (fun e => by omega)] at hhd
              have HRES := hideP hhd
              have gto : ¬ ((k1 + D : Nat) : Int) > (n : Int) := by omega
              have gto' : ¬ (n : Int) < ((k1 + D : Nat) : Int) := by omega
              clear hrl hhd hs hn hD64 hkk h0 HAR hk1 hd1 hd2 hy0 hto
              generalize k1 + D = to at *
              go_wp2_with fail
              refine bodyPost_ret (v := .tuple #[.agg #[.int .i64 0, .int .i64 k1, .int .i64 to], .int .i64 0]) (by simp [results, Try.results22, go_sem, r0, r1, r2, World.cell?_setCell_same]) rfl ?_
              rw [HRES.out]
              refine ⟨rfl, ?_⟩
              repeat first | exact HBW.out | (refine Below.setCell ?_ (by dsimp only <;> omega) _)

end Go.Proofs.Ytigebmidfddbcaa
