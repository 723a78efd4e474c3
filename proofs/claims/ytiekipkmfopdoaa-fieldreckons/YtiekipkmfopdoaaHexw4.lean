/-
  The document's Hex, of 4 words.
-/
import Derived.Test.YtiekipkmfopdoaaHex
import Derived.Test.YtiekipkmfopdoaaCel4
namespace Go.Proofs.Ytiekipkmfopdoaa.W4
open Go.RowKit Go.Shelf

theorem infoU' : (Try.prog.info? 23).map (fun i => (i.zero, i.size, i.bytes)) = some (some (.int .u64 0), 1, 8) := by kernel_rfl

theorem make_row' (W : World) : (Instr.makeSlice 27 (.int .i64 (4 : Int)) (.int .i64 (4 : Int))).run Try.prog W = .ok (.slice (some ⟨W.heap.size, 0, none⟩) 4 4) (W.alloc (.cells (cs (fun _ => 0)) 23)) := by
  have hT : Try.prog.underlying 27 = some (.slice 23) := by kernel_rfl
  obtain ⟨i0, hi, hz, hs, hb⟩ := info_parts infoU'
  have := run_makeSlice (P := Try.prog) (w := W) 27 23 i0 (.int .u64 0) hT hi hz .i64 .i64 4 4 (by decide) (by decide) (by rw [hs]; decide) (by rw [hb]; decide) (by decide)
  have e : madeCells (Value.int IntKind.u64 0).cells (Int.toNat 4 * 1) = cs (fun _ => 0) := by kernel_rfl
  rw [this, hs, e]
  rfl

set_option maxHeartbeats 2000000 in
set_option maxRecDepth 100000 in
theorem hex_any (s : ByteArray) (hs : hexText s) (hL : s.size ≤ 16 * 4) (w : World) : Calls Try.prog 69 #[.string s, .int .i64 (4 : Int)] w fun r w' => (∃ g, r = .returned (.slice (some ⟨g, 0, none⟩) 4 4) ∧ w'.heap[g]? = some (.cells (cs (limb (hxv s s.size))) 23 (0, 0))) ∧ Below w.heap.size w w' := by
  have hmk := make_row' w
  have HS := hideP hs
  have HL := hideP hL
  have hidx := hideP (fun k (hk : k < s.size) W => index_sb s k hk W)
  have e0 : IntKind.i64.wrap ((s.size : Int) - 1) = (s.size : Int) - 1 := by rw [IntKind.wrap_i64]; omega
  clear hs hL
  unfold cs at hmk
  go_enter Try.func69, Try.ntmps69
  go_wp2_with fail
  refine at_world (fun W0 hW0 => ?_)
  have hG : W0.heap[w.heap.size]? = some (.cells (cs (fun _ => 0)) 23 (0, 0)) := by
    rw [hW0]
    exact heap_new _ _
  have HBW : Hid (Below w.heap.size w W0) := by
    show Below _ _ _
    rw [hW0]
    repeat first | exact Below.refl _ _ | (refine Below.alloc ?_ (by simp <;> omega) _)
  have HG := hideP hG
  clear hW0 hG hmk
  go_loopw [6] (fun i wr => ∃ k : Nat, k ≤ s.size ∧ i = .int .i64 k ∧ wr.heap[w.heap.size]? = some (.cells (cs (limb (hxv s k))) 23 (0, 0)) ∧ But w.heap.size W0 wr) (fun i _ => s.size - (intOf i).toNat)
  case atStart => exact ⟨0, Nat.zero_le _, rfl, by rw [hxv, cs_congr (g := fun _ => 0) (fun j _ => by simp [limb])]; exact HG.out, But.refl _ _⟩
  case round =>
    obtain ⟨k, hk, rfl, hg, hb⟩ := hrel
    by_cases hlt : k < s.size
    · have hL := HL.out
      have hq : k / 16 < 4 := by omega
      have hV := hxv_lt HS.out k (by omega)
      have hdg := HS.out (s.size - 1 - k) (by omega)
      have hd := hxd_lt hdg
      have cg := blk_cell hg (get _ hq)
      have fr : ∀ o, wr.frozen? ⟨w.heap.size, o, none⟩ = false := fun o => blk_free hg
      have hor := or_digit (limb (hxv s k) (k / 16)) (hxd (sb s (s.size - 1 - k))) (4 * (k % 16)) (limb_low_digit hV) hd (by omega)
      have hN := limb_add_digit (hxv s k) (hxd (sb s (s.size - 1 - k))) k
      have h3 := blk_set (o := k / 16) hg (.int .u64 ((limb (hxv s k) (k / 16) + hxd (sb s (s.size - 1 - k)) * 2 ^ (4 * (k % 16)) : Nat) : Int))
      rw [set _ _ hq, cs_congr (g := limb (hxv s (k + 1))) (fun j _ => by
        rw [hxv, hN j hV hd]
        by_cases h1 : j = k / 16
        · rw [if_pos h1, if_pos h1, h1]
        · rw [if_neg h1, if_neg h1])] at h3
      have H3 := hideP h3
      have HB := hideP hb
      have HKS : Hid (k + 1 ≤ s.size) := hlt
      have hix := hidx.out (s.size - 1 - k) (by omega)
      have hlt' : (k : Int) < s.size := by omega
      have e1 : IntKind.i64.wrap ((s.size : Int) - 1 - (k : Int)) = ((s.size - 1 - k : Nat) : Int) := by rw [IntKind.wrap_i64]; omega
      have e4 : IntKind.i64.wrap ((k : Int) + 1) = (k : Int) + 1 := by rw [IntKind.wrap_i64]; omega
      have d1 : ((k : Int)).tdiv 16 = ((k / 16 : Nat) : Int) := by rw [Int.tdiv_eq_ediv_of_nonneg (by omega)]; omega
      have d1' : IntKind.i64.wrap ((k / 16 : Nat) : Int) = ((k / 16 : Nat) : Int) := by rw [IntKind.wrap_i64]; omega
      have d2 : ((k : Int)).tmod 16 = ((k % 16 : Nat) : Int) := by rw [Int.tmod_eq_emod_of_nonneg (by omega)]; omega
      have d2' : IntKind.i64.wrap ((k % 16 : Nat) : Int) = ((k % 16 : Nat) : Int) := by rw [IntKind.wrap_i64]; omega
      have d3 : IntKind.i64.wrap (4 * ((k % 16 : Nat) : Int)) = ((4 * (k % 16) : Nat) : Int) := by rw [IntKind.wrap_i64]; omega
      have d4 : IntKind.u64.wrap ((4 * (k % 16) : Nat) : Int) = ((4 * (k % 16) : Nat) : Int) := by rw [IntKind.wrap_u64]; omega
      have g1 : ((k / 16 : Nat) : Int) < 4 := by omega
      have g2 : ((4 * (k % 16) : Nat) : Int) < 64 := by omega
      have hp : 2 ^ (4 * (k % 16)) ≤ 2 ^ 60 := Nat.pow_le_pow_right (by decide) (by omega)
      have h60 : (2 : Nat) ^ 60 = 1152921504606846976 := by decide
      have hm := Nat.mul_le_mul_right (2 ^ (4 * (k % 16))) (show hxd (sb s (s.size - 1 - k)) ≤ 15 by omega)
      have hwd : IntKind.u64.wrap ((hxd (sb s (s.size - 1 - k)) : Int) * 2 ^ (4 * (k % 16))) = ((hxd (sb s (s.size - 1 - k)) * 2 ^ (4 * (k % 16)) : Nat) : Int) := by
        have e : ((hxd (sb s (s.size - 1 - k)) : Int) * 2 ^ (4 * (k % 16))) = ((hxd (sb s (s.size - 1 - k)) * 2 ^ (4 * (k % 16)) : Nat) : Int) := by simp
        rw [e, M64.wrapN _ (by omega)]
      have hor2 : bits .or .u64 (limb (hxv s k) (k / 16) : Int) ((hxd (sb s (s.size - 1 - k)) : Int) * 2 ^ (4 * (k % 16))) = ((limb (hxv s k) (k / 16) + hxd (sb s (s.size - 1 - k)) * 2 ^ (4 * (k % 16)) : Nat) : Int) := by
        rw [← hor]
        congr 1
      have HOR := hideP hor2
      clear hor hor2
      have hxe : hxd (sb s (s.size - 1 - k)) = if 97 ≤ sb s (s.size - 1 - k) then sb s (s.size - 1 - k) - 97 + 10 else sb s (s.size - 1 - k) - 48 := rfl
      generalize limb (hxv s k) (k / 16) = lv at *
      generalize hxd (sb s (s.size - 1 - k)) = dg at *
      generalize sb s (s.size - 1 - k) = c at *
      generalize s.size - 1 - k = ix at *
      generalize k / 16 = q at *
      generalize 4 * (k % 16) = sh at *
      generalize k % 16 = r at *
      clear hg hb hk hlt hN hV hL h3 hp h60 hm hd
      rcases hdg with ⟨a1, a2⟩ | ⟨a1, a2⟩
      · have b1 : ¬ (97 : Int) ≤ (c : Int) := by omega
        rw [if_neg (by omega)] at hxe
        have w1 : IntKind.u8.wrap ((c : Int) - 48) = (dg : Int) := by rw [IntKind.wrap_u8]; omega
        have w2 : IntKind.u64.wrap (dg : Int) = (dg : Int) := by rw [IntKind.wrap_u64]; omega
        clear a1 a2 hxe
        go_wp2_with fail
        refine ⟨⟨k + 1, HKS.out, by go_num, ?_, HB.out.set _ _⟩, by have := HKS.out; simp [intOf]; omega⟩
        rw [HOR.out]
        exact H3.out
      · have b1 : (97 : Int) ≤ (c : Int) := by omega
        rw [if_pos (by omega)] at hxe
        have w0 : IntKind.u8.wrap ((c : Int) - 48) = ((c - 48 : Nat) : Int) := by rw [IntKind.wrap_u8]; omega
        have w00 : IntKind.u64.wrap ((c - 48 : Nat) : Int) = ((c - 48 : Nat) : Int) := by rw [IntKind.wrap_u64]; omega
        have w1 : IntKind.u8.wrap ((c : Int) - 97) = ((c - 97 : Nat) : Int) := by rw [IntKind.wrap_u8]; omega
        have w2 : IntKind.u64.wrap ((c - 97 : Nat) : Int) = ((c - 97 : Nat) : Int) := by rw [IntKind.wrap_u64]; omega
        have w3 : IntKind.u64.wrap (((c - 97 : Nat) : Int) + 10) = (dg : Int) := by rw [IntKind.wrap_u64]; omega
        clear a1 a2 hxe
        generalize c - 48 = c48 at *
        generalize c - 97 = c97 at *
        go_wp2_with fail
        refine ⟨⟨k + 1, HKS.out, by go_num, ?_, HB.out.set _ _⟩, by have := HKS.out; simp [intOf]; omega⟩
        rw [HOR.out]
        exact H3.out
    · have hkn : k = s.size := by omega
      have hnl : ¬ (k : Int) < s.size := by omega
      rw [hkn] at hg
      have H3 := hideP hg
      have HB := hideP hb
      clear hg hb hk hlt hkn
      go_wp2
      go_ret
      exact ⟨⟨_, rfl, H3.out⟩, HBW.out.trans HB.out.below⟩

end Go.Proofs.Ytiekipkmfopdoaa.W4
