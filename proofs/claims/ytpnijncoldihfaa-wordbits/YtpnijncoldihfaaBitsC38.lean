/-
  One byte of a word.
-/
import Derived.Test.YtpnijncoldihfaaBitsC37
import Derived.Test.YtpnijncoldihfaaBitsC22
import Derived.Test.YtpnijncoldihfaaBitsC18
import Derived.Test.YtpnijncoldihfaaBitsC03
namespace Go.Proofs.Ytpnijncoldihfaa
open Go.RowKit Go.Shelf

theorem run_index32 (cs : Array Value) (m : Nat) (v : Int) (hm : m < 32) (hg : cs[m]? = some (.int .u8 v)) (W : World) : (Instr.index 52 (.agg cs) (.int .i64 m)).run Try.prog W = .ok (.int .u8 v) W := by
  unfold Instr.index
  simp [go_sem, hg]
  intro h
  exact absurd h (by omega)

theorem putAll32 (g' g : Nat → Nat) : putAll (c32 g') 0 (c32 g).toList = c32 g := by
  simp [c32, putAll]

/-- The byte at a place, counted from the highest. -/
def byteN (n X : Nat) : Nat := if n < 32 then byt X (31 - n) else 0

set_option maxHeartbeats 4000000 in
set_option maxRecDepth 100000 in
theorem byte_any (N X : Nat) (w : World) : Calls Try.prog 58 #[wv N, wv X] w fun e w' => e = .returned (wv (byteN (N % M256) X)) ∧ Below w.heap.size w w' := by
  by_cases h : N % M256 < 32
  · have c1 := fun W => within_in N 32 (by omega) h W
    have c2 := fun W => bytes_any X W
    have c3 := fun W => of_any (byt X (31 - N % M256)) (Nat.lt_trans (byt_lt _ _) (by decide)) W
    have hv : byteN (N % M256) X = byt X (31 - N % M256) := by unfold byteN; rw [if_pos h]
    rw [hv]
    clear hv
    obtain ⟨n0, n1, n2, n3, hn⟩ := wv_form N
    obtain ⟨x0, x1, x2, x3, hx⟩ := wv_form X
    obtain ⟨z0, z1, z2, z3, hz⟩ := wv_form (byt X (31 - N % M256))
    simp only [hn, hx, hz] at c1 c2 c3 ⊢
    generalize N % M256 = m at *
    have hg := get32 (fun j => byt X (31 - j)) h
    have e1 : IntKind.u64.wrap ((byt X (31 - m) : Nat) : Int) = ((byt X (31 - m) : Nat) : Int) := by have := byt_lt X (31 - m); rw [IntKind.wrap_u64]; omega
    have g1 : (m : Int) < 32 := by omega
    unfold b32 at c2
    have hix := fun W => run_index32 _ m _ h hg W
    clear hg
    generalize c32 (fun j => byt X (31 - j)) = cb at *
    generalize byt X (31 - m) = bm at *
    have C1 := hideP c1
    have C2 := hideP c2
    have C3 := hideP c3
    clear c1 c2 c3 hn hx hz h
    go_enter Try.func58, Try.ntmps58
    go_wp2_with fail
    refine at_world_q (fun W0 hW0 => ?_)
    have HBn : W0.heap[w.heap.size]? = some (.cells #[.int .u64 n0, .int .u64 n1, .int .u64 n2, .int .u64 n3] 24 (0, 0)) := by
      rw [hW0]; simp only [World.alloc, Array.getElem?_push, Array.size_push]; simp [Nat.add_assoc]
    have HBx : W0.heap[w.heap.size + 1]? = some (.cells #[.int .u64 x0, .int .u64 x1, .int .u64 x2, .int .u64 x3] 24 (0, 0)) := by
      rw [hW0]; simp only [World.alloc, Array.getElem?_push, Array.size_push]; simp
    have HBr : W0.heap[w.heap.size + 1 + 1]? = some (.cells #[.int .u64 0, .int .u64 0, .int .u64 0, .int .u64 0] 24 (0, 0)) := by
      rw [hW0]; simp only [World.alloc, Array.getElem?_push, Array.size_push]; simp
    have HBW : Hid (Below w.heap.size w W0) := by
      show Below _ _ _
      rw [hW0]
      repeat first | exact Below.refl _ _ | (refine Below.alloc ?_ (by simp <;> omega) _)
    clear hW0
    refine (C1.out _).mono ?_
    rintro e W1 ⟨rfl, hb⟩
    replace HBx := (hb.block _ (lt_of_block HBx)).trans HBx
    replace HBr := (hb.block _ (lt_of_block HBr)).trans HBr
    replace HBW := hideP (HBW.out.trans (hb.mono HBW.out.size))
    clear hb
    clear HBn C1
    obtain ⟨cx0, cx1, cx2, cx3⟩ := cells4 HBx
    have hlx := lt_of_block HBx
    go_wp2_with fail
    refine (C2.out _).mono ?_
    rintro e W2 ⟨rfl, hb⟩
    replace HBr := (hb.block _ (lt_of_block HBr)).trans HBr
    replace HBW := hideP (HBW.out.trans (hb.mono HBW.out.size))
    clear hb
    clear cx0 cx1 cx2 cx3 hlx HBx C2
    go_wp2_with fail
    refine (C3.out _).mono ?_
    rintro e W3 ⟨rfl, hb⟩
    replace HBr := (hb.block _ (lt_of_block HBr)).trans HBr
    replace HBW := hideP (HBW.out.trans (hb.mono HBW.out.size))
    clear hb
    obtain ⟨j0, j1, j2, j3⟩ := cells4 HBr
    have jf : ∀ o, W3.frozen? ⟨w.heap.size + 1 + 1, o, none⟩ = false := fun o => blk_free HBr
    clear HBr
    go_wp2_with fail
    refine bodyPost_ret (v := .agg #[.int .u64 z0, .int .u64 z1, .int .u64 z2, .int .u64 z3]) (by simp [results, Try.results58, go_sem, j0, j1, j2, j3]) rfl ⟨rfl, ?_⟩
    exact below_stored4 HBW.out (by omega)
  · have c1 := fun W => within_out N 32 (by omega) (by omega) W
    have hv : byteN (N % M256) X = 0 := by unfold byteN; rw [if_neg h]
    rw [hv]
    have hz : wv 0 = .agg #[.int .u64 0, .int .u64 0, .int .u64 0, .int .u64 0] := rfl
    obtain ⟨n0, n1, n2, n3, hn⟩ := wv_form N
    obtain ⟨x0, x1, x2, x3, hx⟩ := wv_form X
    rw [hz, hn, hx]
    rw [hn] at c1
    have C1 := hideP c1
    clear c1 hv hz hn hx h
    go_enter Try.func58, Try.ntmps58
    go_wp2_with fail
    refine at_world_q (fun W0 hW0 => ?_)
    have HBn : W0.heap[w.heap.size]? = some (.cells #[.int .u64 n0, .int .u64 n1, .int .u64 n2, .int .u64 n3] 24 (0, 0)) := by
      rw [hW0]; simp only [World.alloc, Array.getElem?_push, Array.size_push]; simp [Nat.add_assoc]
    have HBx : W0.heap[w.heap.size + 1]? = some (.cells #[.int .u64 x0, .int .u64 x1, .int .u64 x2, .int .u64 x3] 24 (0, 0)) := by
      rw [hW0]; simp only [World.alloc, Array.getElem?_push, Array.size_push]; simp
    have HBr : W0.heap[w.heap.size + 1 + 1]? = some (.cells #[.int .u64 0, .int .u64 0, .int .u64 0, .int .u64 0] 24 (0, 0)) := by
      rw [hW0]; simp only [World.alloc, Array.getElem?_push, Array.size_push]; simp
    have HBW : Hid (Below w.heap.size w W0) := by
      show Below _ _ _
      rw [hW0]
      repeat first | exact Below.refl _ _ | (refine Below.alloc ?_ (by simp <;> omega) _)
    clear hW0
    refine (C1.out _).mono ?_
    rintro e W1 ⟨rfl, hb⟩
    replace HBx := (hb.block _ (lt_of_block HBx)).trans HBx
    replace HBr := (hb.block _ (lt_of_block HBr)).trans HBr
    replace HBW := hideP (HBW.out.trans (hb.mono HBW.out.size))
    clear hb
    clear HBn C1 HBx
    obtain ⟨j0, j1, j2, j3⟩ := cells4 HBr
    have jf : ∀ o, W1.frozen? ⟨w.heap.size + 1 + 1, o, none⟩ = false := fun o => blk_free HBr
    clear HBr
    go_wp2_with fail
    refine bodyPost_ret (v := .agg #[.int .u64 0, .int .u64 0, .int .u64 0, .int .u64 0]) (by simp [results, Try.results58, go_sem, j0, j1, j2, j3]) rfl ⟨rfl, ?_⟩
    exact below_stored4 HBW.out (by omega)

set_option maxHeartbeats 4000000 in
set_option maxRecDepth 100000 in
theorem refByte_any (N X : Nat) (w : World) : Calls Try.prog 59 #[wv N, wv X] w fun e w' => e = .returned (wv (byteN (N % M256) X)) ∧ Below w.heap.size w w' := by
  have c1 := fun W => refSmall_any N 32 (by omega) W
  unfold smallN at c1
  by_cases h : N % M256 < 32
  · rw [if_pos h] at c1
    have c2 := fun W => refBytes_any X W
    have c3 := fun W => refOf_any (byt X (31 - N % M256)) (Nat.lt_trans (byt_lt _ _) (by decide)) W
    have hv : byteN (N % M256) X = byt X (31 - N % M256) := by unfold byteN; rw [if_pos h]
    rw [hv]
    clear hv
    obtain ⟨n0, n1, n2, n3, hn⟩ := wv_form N
    obtain ⟨x0, x1, x2, x3, hx⟩ := wv_form X
    obtain ⟨z0, z1, z2, z3, hz⟩ := wv_form (byt X (31 - N % M256))
    simp only [hn, hx, hz] at c1 c2 c3 ⊢
    generalize N % M256 = m at *
    have e1 : IntKind.u64.wrap ((byt X (31 - m) : Nat) : Int) = ((byt X (31 - m) : Nat) : Int) := by have := byt_lt X (31 - m); rw [IntKind.wrap_u64]; omega
    have g1 : (m : Int) < 32 := by omega
    have d1 : ((m : Int) == 32) = false := by simp; omega
    have d2 : ¬ (m : Int) = 32 := by omega
    unfold b32 at c2
    have HM := hideP h
    have C1 := hideP c1
    have C2 := hideP c2
    have C3 := hideP c3
    clear c1 c2 c3 hn hx hz h
    go_enter Try.func59, Try.ntmps59
    go_wp2_with fail
    refine at_world_q (fun W0 hW0 => ?_)
    have HBn : W0.heap[w.heap.size]? = some (.cells #[.int .u64 n0, .int .u64 n1, .int .u64 n2, .int .u64 n3] 23 (0, 0)) := by
      rw [hW0]; simp only [World.alloc, Array.getElem?_push, Array.size_push]; simp [Nat.add_assoc]
    have HBx : W0.heap[w.heap.size + 1]? = some (.cells #[.int .u64 x0, .int .u64 x1, .int .u64 x2, .int .u64 x3] 23 (0, 0)) := by
      rw [hW0]; simp only [World.alloc, Array.getElem?_push, Array.size_push]; simp
    have HBr : W0.heap[w.heap.size + 1 + 1]? = some (.cells #[.int .u64 0, .int .u64 0, .int .u64 0, .int .u64 0] 23 (0, 0)) := by
      rw [hW0]; simp only [World.alloc, Array.getElem?_push, Array.size_push]; simp
    have HBW : Hid (Below w.heap.size w W0) := by
      show Below _ _ _
      rw [hW0]
      repeat first | exact Below.refl _ _ | (refine Below.alloc ?_ (by simp <;> omega) _)
    clear hW0
    refine (C1.out _).mono ?_
    rintro e W1 ⟨rfl, hb⟩
    replace HBx := (hb.block _ (lt_of_block HBx)).trans HBx
    replace HBr := (hb.block _ (lt_of_block HBr)).trans HBr
    replace HBW := hideP (HBW.out.trans (hb.mono HBW.out.size))
    clear hb
    clear HBn C1
    obtain ⟨cx0, cx1, cx2, cx3⟩ := cells4 HBx
    have hlx := lt_of_block HBx
    go_wp2_with fail
    refine (C2.out _).mono ?_
    rintro e W2 ⟨rfl, hb⟩
    replace HBr := (hb.block _ (lt_of_block HBr)).trans HBr
    replace HBW := hideP (HBW.out.trans (hb.mono HBW.out.size))
    clear hb
    clear cx0 cx1 cx2 cx3 hlx HBx C2
    have HN := hideP (heap_new W2 (.cells (c32 (fun _ => 0)) 52 (0, 0)))
    rw [← zero32] at HN
    go_wp2_with (refine wpList_store_mid rfl 52 _ _ rfl W2.heap.size 0 (c32 (fun j => byt X (31 - j))) rfl rfl (there32 (g := fun _ => 0) HN.out) size52 (oneCell32 _) ?_; refine Hid.out ?_)
    refine hideP ?_
    have h1 := But.sets (c32 (fun j => byt X (31 - j))).toList 0 (But.refl W2.heap.size (W2.alloc (.cells #[.int .u8 0, .int .u8 0, .int .u8 0, .int .u8 0, .int .u8 0, .int .u8 0, .int .u8 0, .int .u8 0, .int .u8 0, .int .u8 0, .int .u8 0, .int .u8 0, .int .u8 0, .int .u8 0, .int .u8 0, .int .u8 0, .int .u8 0, .int .u8 0, .int .u8 0, .int .u8 0, .int .u8 0, .int .u8 0, .int .u8 0, .int .u8 0, .int .u8 0, .int .u8 0, .int .u8 0, .int .u8 0, .int .u8 0, .int .u8 0, .int .u8 0, .int .u8 0] 52 (0, 0))))
    have h2 := blk_sets (c32 (fun j => byt X (31 - j))).toList 0 (show (W2.alloc (.cells #[.int .u8 0, .int .u8 0, .int .u8 0, .int .u8 0, .int .u8 0, .int .u8 0, .int .u8 0, .int .u8 0, .int .u8 0, .int .u8 0, .int .u8 0, .int .u8 0, .int .u8 0, .int .u8 0, .int .u8 0, .int .u8 0, .int .u8 0, .int .u8 0, .int .u8 0, .int .u8 0, .int .u8 0, .int .u8 0, .int .u8 0, .int .u8 0, .int .u8 0, .int .u8 0, .int .u8 0, .int .u8 0, .int .u8 0, .int .u8 0, .int .u8 0, .int .u8 0] 52 (0, 0))).heap[W2.heap.size]? = some (.cells (c32 (fun _ => 0)) 52 (0, 0)) from HN.out)
    rw [putAll32] at h2
    have hlr := lt_of_block HBr
    replace HBr := (h1.same _ (by omega)).trans ((heap_old (W2) (.cells #[.int .u8 0, .int .u8 0, .int .u8 0, .int .u8 0, .int .u8 0, .int .u8 0, .int .u8 0, .int .u8 0, .int .u8 0, .int .u8 0, .int .u8 0, .int .u8 0, .int .u8 0, .int .u8 0, .int .u8 0, .int .u8 0, .int .u8 0, .int .u8 0, .int .u8 0, .int .u8 0, .int .u8 0, .int .u8 0, .int .u8 0, .int .u8 0, .int .u8 0, .int .u8 0, .int .u8 0, .int .u8 0, .int .u8 0, .int .u8 0, .int .u8 0, .int .u8 0] 52 (0, 0)) hlr).trans HBr)
    replace HBW := hideP ((HBW.out.alloc HBW.out.size (.cells #[.int .u8 0, .int .u8 0, .int .u8 0, .int .u8 0, .int .u8 0, .int .u8 0, .int .u8 0, .int .u8 0, .int .u8 0, .int .u8 0, .int .u8 0, .int .u8 0, .int .u8 0, .int .u8 0, .int .u8 0, .int .u8 0, .int .u8 0, .int .u8 0, .int .u8 0, .int .u8 0, .int .u8 0, .int .u8 0, .int .u8 0, .int .u8 0, .int .u8 0, .int .u8 0, .int .u8 0, .int .u8 0, .int .u8 0, .int .u8 0, .int .u8 0, .int .u8 0] 52 (0, 0))).trans (h1.below.mono HBW.out.size))
    have cb := blk_cell h2 (get32 (fun j => byt X (31 - j)) HM.out)
    clear h1 h2 hlr HN
    (try simp only [put_none])
    generalize (W2.alloc (.cells #[.int .u8 0, .int .u8 0, .int .u8 0, .int .u8 0, .int .u8 0, .int .u8 0, .int .u8 0, .int .u8 0, .int .u8 0, .int .u8 0, .int .u8 0, .int .u8 0, .int .u8 0, .int .u8 0, .int .u8 0, .int .u8 0, .int .u8 0, .int .u8 0, .int .u8 0, .int .u8 0, .int .u8 0, .int .u8 0, .int .u8 0, .int .u8 0, .int .u8 0, .int .u8 0, .int .u8 0, .int .u8 0, .int .u8 0, .int .u8 0, .int .u8 0, .int .u8 0] 52 (0, 0))).setCells W2.heap.size 0 (c32 (fun j => byt X (31 - j))).toList = W4 at HBr HBW cb ⊢
    generalize W2.heap.size = B at *
    generalize c32 (fun j => byt X (31 - j)) = cbb at *
    generalize byt X (31 - m) = bm at *
    go_wp2_with fail
    refine (C3.out _).mono ?_
    rintro e W5 ⟨rfl, hb⟩
    replace HBr := (hb.block _ (lt_of_block HBr)).trans HBr
    replace HBW := hideP (HBW.out.trans (hb.mono HBW.out.size))
    clear hb
    clear cb
    obtain ⟨j0, j1, j2, j3⟩ := cells4 HBr
    have jf : ∀ o, W5.frozen? ⟨w.heap.size + 1 + 1, o, none⟩ = false := fun o => blk_free HBr
    clear HBr
    go_wp2_with fail
    refine bodyPost_ret (v := .agg #[.int .u64 z0, .int .u64 z1, .int .u64 z2, .int .u64 z3]) (by simp [results, Try.results59, go_sem, j0, j1, j2, j3]) rfl ⟨rfl, ?_⟩
    exact below_stored4 HBW.out (by omega)
  · rw [if_neg h] at c1
    have hv : byteN (N % M256) X = 0 := by unfold byteN; rw [if_neg h]
    rw [hv]
    have hz : wv 0 = .agg #[.int .u64 0, .int .u64 0, .int .u64 0, .int .u64 0] := rfl
    obtain ⟨n0, n1, n2, n3, hn⟩ := wv_form N
    obtain ⟨x0, x1, x2, x3, hx⟩ := wv_form X
    rw [hz, hn, hx]
    rw [hn] at c1
    have C1 := hideP c1
    clear c1 hv hz hn hx h
    go_enter Try.func59, Try.ntmps59
    go_wp2_with fail
    refine at_world_q (fun W0 hW0 => ?_)
    have HBn : W0.heap[w.heap.size]? = some (.cells #[.int .u64 n0, .int .u64 n1, .int .u64 n2, .int .u64 n3] 23 (0, 0)) := by
      rw [hW0]; simp only [World.alloc, Array.getElem?_push, Array.size_push]; simp [Nat.add_assoc]
    have HBx : W0.heap[w.heap.size + 1]? = some (.cells #[.int .u64 x0, .int .u64 x1, .int .u64 x2, .int .u64 x3] 23 (0, 0)) := by
      rw [hW0]; simp only [World.alloc, Array.getElem?_push, Array.size_push]; simp
    have HBr : W0.heap[w.heap.size + 1 + 1]? = some (.cells #[.int .u64 0, .int .u64 0, .int .u64 0, .int .u64 0] 23 (0, 0)) := by
      rw [hW0]; simp only [World.alloc, Array.getElem?_push, Array.size_push]; simp
    have HBW : Hid (Below w.heap.size w W0) := by
      show Below _ _ _
      rw [hW0]
      repeat first | exact Below.refl _ _ | (refine Below.alloc ?_ (by simp <;> omega) _)
    clear hW0
    refine (C1.out _).mono ?_
    rintro e W1 ⟨rfl, hb⟩
    replace HBx := (hb.block _ (lt_of_block HBx)).trans HBx
    replace HBr := (hb.block _ (lt_of_block HBr)).trans HBr
    replace HBW := hideP (HBW.out.trans (hb.mono HBW.out.size))
    clear hb
    clear HBn C1 HBx
    obtain ⟨j0, j1, j2, j3⟩ := cells4 HBr
    have jf : ∀ o, W1.frozen? ⟨w.heap.size + 1 + 1, o, none⟩ = false := fun o => blk_free HBr
    clear HBr
    go_wp2_with fail
    refine bodyPost_ret (v := .agg #[.int .u64 0, .int .u64 0, .int .u64 0, .int .u64 0]) (by simp [results, Try.results59, go_sem, j0, j1, j2, j3]) rfl ⟨rfl, ?_⟩
    exact below_stored4 HBW.out (by omega)

end Go.Proofs.Ytpnijncoldihfaa
