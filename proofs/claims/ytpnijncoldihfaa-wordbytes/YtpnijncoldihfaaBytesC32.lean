/-
  The least bytes of a word, the program's.
-/
import Derived.Test.YtpnijncoldihfaaBytesC26
import Derived.Test.YtpnijncoldihfaaBytesC31
namespace Go.Proofs.Ytpnijncoldihfaa
open Go.RowKit Go.Shelf

set_option maxHeartbeats 4000000 in
set_option maxRecDepth 100000 in
theorem least_any (X : Nat) (w : World) : Calls Try.prog 70 #[wv X] w fun e w' => (∃ v, e = .returned v ∧ LRow w' X v) ∧ Below w.heap.size w w' := by
    have c1 := fun W => bits_any X W
    have c2 := fun W => bytes_any X W
    obtain ⟨x0, x1, x2, x3, hx⟩ := wv_form X
    simp only [hx] at c1 c2 ⊢
    unfold b32 at c2
    have C1 := hideP c1
    have C2 := hideP c2
    clear c1 c2 hx
    go_enter Try.func70, Try.ntmps70
    go_wp2_with fail
    refine at_world_q (fun W0 hW0 => ?_)
    have HBx : W0.heap[w.heap.size]? = some (.cells #[.int .u64 x0, .int .u64 x1, .int .u64 x2, .int .u64 x3] 24 (0, 0)) := by
      rw [hW0]; simp only [World.alloc, Array.getElem?_push]; simp
    have HBW : Hid (Below w.heap.size w W0) := by
      show Below _ _ _
      rw [hW0]
      repeat first | exact Below.refl _ _ | (refine Below.alloc ?_ (by simp <;> omega) _)
    clear hW0
    refine (C2.out _).mono ?_
    rintro e W2 ⟨rfl, hb⟩
    replace HBx := (hb.block _ (lt_of_block HBx)).trans HBx
    replace HBW := hideP (HBW.out.trans (hb.mono HBW.out.size))
    have HBW0 := hideP HBW.out.size
    clear hb C2
    have HN := hideP (heap_new W2 (.cells (c32 (fun _ => 0)) 52 (0, 0)))
    rw [← zero32] at HN
    go_wp2_with (refine wpList_store_mid rfl 52 _ _ rfl W2.heap.size 0 (c32 (fun j => byt X (31 - j))) rfl rfl (there32 (g := fun _ => 0) HN.out) size52 (oneCell32 _) ?_; refine Hid.out ?_)
    refine hideP ?_
    have h1 := But.sets (c32 (fun j => byt X (31 - j))).toList 0 (But.refl W2.heap.size (W2.alloc (.cells #[.int .u8 0, .int .u8 0, .int .u8 0, .int .u8 0, .int .u8 0, .int .u8 0, .int .u8 0, .int .u8 0, .int .u8 0, .int .u8 0, .int .u8 0, .int .u8 0, .int .u8 0, .int .u8 0, .int .u8 0, .int .u8 0, .int .u8 0, .int .u8 0, .int .u8 0, .int .u8 0, .int .u8 0, .int .u8 0, .int .u8 0, .int .u8 0, .int .u8 0, .int .u8 0, .int .u8 0, .int .u8 0, .int .u8 0, .int .u8 0, .int .u8 0, .int .u8 0] 52 (0, 0))))
    have h2 := blk_sets (c32 (fun j => byt X (31 - j))).toList 0 (show (W2.alloc (.cells #[.int .u8 0, .int .u8 0, .int .u8 0, .int .u8 0, .int .u8 0, .int .u8 0, .int .u8 0, .int .u8 0, .int .u8 0, .int .u8 0, .int .u8 0, .int .u8 0, .int .u8 0, .int .u8 0, .int .u8 0, .int .u8 0, .int .u8 0, .int .u8 0, .int .u8 0, .int .u8 0, .int .u8 0, .int .u8 0, .int .u8 0, .int .u8 0, .int .u8 0, .int .u8 0, .int .u8 0, .int .u8 0, .int .u8 0, .int .u8 0, .int .u8 0, .int .u8 0] 52 (0, 0))).heap[W2.heap.size]? = some (.cells (c32 (fun _ => 0)) 52 (0, 0)) from HN.out)
    rw [putAll32] at h2
    have hlr := lt_of_block HBx
    have hlt4 : W2.heap.size < (((W2.alloc (.cells #[.int .u8 0, .int .u8 0, .int .u8 0, .int .u8 0, .int .u8 0, .int .u8 0, .int .u8 0, .int .u8 0, .int .u8 0, .int .u8 0, .int .u8 0, .int .u8 0, .int .u8 0, .int .u8 0, .int .u8 0, .int .u8 0, .int .u8 0, .int .u8 0, .int .u8 0, .int .u8 0, .int .u8 0, .int .u8 0, .int .u8 0, .int .u8 0, .int .u8 0, .int .u8 0, .int .u8 0, .int .u8 0, .int .u8 0, .int .u8 0, .int .u8 0, .int .u8 0] 52 (0, 0))).setCells W2.heap.size 0 (c32 (fun j => byt X (31 - j))).toList)).heap.size := lt_of_block h2
    replace HBx := (h1.same _ (by omega)).trans ((heap_old W2 (.cells #[.int .u8 0, .int .u8 0, .int .u8 0, .int .u8 0, .int .u8 0, .int .u8 0, .int .u8 0, .int .u8 0, .int .u8 0, .int .u8 0, .int .u8 0, .int .u8 0, .int .u8 0, .int .u8 0, .int .u8 0, .int .u8 0, .int .u8 0, .int .u8 0, .int .u8 0, .int .u8 0, .int .u8 0, .int .u8 0, .int .u8 0, .int .u8 0, .int .u8 0, .int .u8 0, .int .u8 0, .int .u8 0, .int .u8 0, .int .u8 0, .int .u8 0, .int .u8 0] 52 (0, 0)) hlr).trans HBx)
    replace HBW := hideP ((HBW.out.alloc HBW.out.size (.cells #[.int .u8 0, .int .u8 0, .int .u8 0, .int .u8 0, .int .u8 0, .int .u8 0, .int .u8 0, .int .u8 0, .int .u8 0, .int .u8 0, .int .u8 0, .int .u8 0, .int .u8 0, .int .u8 0, .int .u8 0, .int .u8 0, .int .u8 0, .int .u8 0, .int .u8 0, .int .u8 0, .int .u8 0, .int .u8 0, .int .u8 0, .int .u8 0, .int .u8 0, .int .u8 0, .int .u8 0, .int .u8 0, .int .u8 0, .int .u8 0, .int .u8 0, .int .u8 0] 52 (0, 0))).trans (h1.below.mono HBW.out.size))
    have HB := hideP h2
    have HS2 := hideP (HBW0.out)
    clear h1 h2 hlr HN HBW0
    (try simp only [put_none])
    generalize (W2.alloc (.cells #[.int .u8 0, .int .u8 0, .int .u8 0, .int .u8 0, .int .u8 0, .int .u8 0, .int .u8 0, .int .u8 0, .int .u8 0, .int .u8 0, .int .u8 0, .int .u8 0, .int .u8 0, .int .u8 0, .int .u8 0, .int .u8 0, .int .u8 0, .int .u8 0, .int .u8 0, .int .u8 0, .int .u8 0, .int .u8 0, .int .u8 0, .int .u8 0, .int .u8 0, .int .u8 0, .int .u8 0, .int .u8 0, .int .u8 0, .int .u8 0, .int .u8 0, .int .u8 0] 52 (0, 0))).setCells W2.heap.size 0 (c32 (fun j => byt X (31 - j))).toList = W4 at HBx HBW HB hlt4 ⊢
    generalize W2.heap.size = B at HB HS2 hlt4 ⊢
    obtain ⟨cx0, cx1, cx2, cx3⟩ := cells4 HBx
    have hlx := lt_of_block HBx
    go_wp2_with fail
    refine (C1.out _).mono ?_
    rintro e W5 ⟨⟨n, rfl, h256, hlo, hhi⟩, hb⟩
    have hLB := LB.ofBits h256 hlo hhi
    replace HB := hideP ((hb.block _ hlt4).trans HB.out)
    replace HBW := hideP (HBW.out.trans (hb.mono HBW.out.size))
    have hlt5 : B < W5.heap.size := lt_of_block HB.out
    clear cx0 cx1 cx2 cx3 hlx HBx C1 hb hlo hhi hlt4
    have e1 : IntKind.i64.wrap ((n : Int) + 7) = (n : Int) + 7 := by rw [IntKind.wrap_i64]; omega
    have e2 : ((n : Int) + 7).tdiv 8 = (((n + 7) / 8 : Nat) : Int) := by rw [Int.tdiv_eq_ediv_of_nonneg (by omega)]; omega
    have hm := hLB.le
    have HLB := hideP hLB
    clear hLB h256
    generalize (n + 7) / 8 = m at *
    have e3 : IntKind.i64.wrap ((m : Nat) : Int) = ((m : Nat) : Int) := by rw [IntKind.wrap_i64]; omega
    have e4 : IntKind.i64.wrap (32 - (m : Int)) = ((32 - m : Nat) : Int) := by rw [IntKind.wrap_i64]; omega
    obtain ⟨i0, hi, hz0, hz1, hz2⟩ := info_parts Try.bytes5
    have HM := hideP hm
    clear hm
    go_wp2_with (at_make; refine wpList_make_full _ rfl _ _ 51 rfl W5.heap.size 5 i0 (.int .u8 0) 1 Try.underlying51 hi hz0 hz1 _ _ _ _ m rfl rfl rfl rfl ?b2 ?b3 (Nat.le_refl _) ?_)
    case b2 => have := HM.out; rw [hz2]; omega
    case b3 => have := HM.out; unfold maxLen; omega
    intro W6 hown hgrow
    have hm := HM.out
    obtain ⟨cur, hg, _, _, hmx, hcur, _⟩ := own_row hown
    have hb6 : Below W5.heap.size W5 W6 := (Below.refl _ _).grown hgrow (Nat.le_refl _) (fun k h => by cases h)
    replace HB := hideP ((hb6.block _ hlt5).trans HB.out)
    replace HBW := hideP (HBW.out.trans (hb6.mono HBW.out.size))
    obtain ⟨sp, hsp, hsl⟩ := slice32 B (32 - m) (by omega)
    rw [show 32 - (32 - m) = m by omega] at hsl
    have hlen : ((List.range m).map (fun j => Value.int .u8 (lowB X m j))).length = m := by simp
    obtain ⟨W7, hrun, hg7, hgrow7⟩ := copy_run (P := Try.prog) W6 51 3 5 Try.underlying51 Try.size5 (some ⟨W5.heap.size, 0, none⟩) (some ⟨B, sp, none⟩) m m m m W5.heap.size 0 cur 5 hg ((List.range m).map (fun j => Value.int .u8 (lowB X m j))) (by rw [hlen]; simp) (fun h => ⟨rfl, ⟨B, sp, none⟩, rfl, fun j v hv => by
      rw [hlen] at h
      rw [hsp (by omega)]
      simp only [List.getElem?_map, Option.map_eq_some_iff] at hv
      obtain ⟨x, hx, rfl⟩ := hv
      obtain ⟨hj, rfl⟩ := List.getElem?_eq_some_iff.1 hx
      simp only [List.length_range] at hj
      rw [Addr.add_mid, List.getElem_range, blk_cell HB.out (get32 _ (show 32 - m + j < 32 by omega))]
      unfold lowB
      rw [show 31 - (32 - m + j) = m - 1 - j by omega]⟩) (by rw [hlen]; omega) (by
      intro v hv
      simp only [List.mem_map] at hv
      obtain ⟨x, _, rfl⟩ := hv
      rfl)
    rw [hlen] at hrun
    have HL7 : Hid (Below w.heap.size w W7) := HBW.out.grown hgrow7 HBW.out.size (fun k h => by cases h; exact Nat.le_trans HS2.out (by omega))
    have HR : Hid (LRow W7 X (.slice (some ⟨W5.heap.size, 0, none⟩) m m)) := by
      refine ⟨⟨m, m, W5.heap.size, 0, rfl, HLB.out, lt_of_block hg7, fun j hj => ?_⟩⟩
      rw [Nat.zero_add]
      refine blk_cell hg7 ?_
      rw [List.getElem?_toArray]
      unfold splice
      rw [List.take_zero, List.nil_append, List.getElem?_append_left (by rw [hlen]; exact hj)]
      simp [hj]
    clear hg7 hgrow7 hg hown hgrow hb6 hcur hmx hlen hsp HM hm HLB
    go_wp2_with fail
    go_ret
    exact ⟨⟨_, rfl, HR.out⟩, HL7.out⟩

end Go.Proofs.Ytpnijncoldihfaa
