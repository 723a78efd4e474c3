/-
  A word out of bytes.
-/
import Derived.Test.YtpnijncoldihfaaBackC17
import Derived.Test.YtpnijncoldihfaaBackC25
namespace Go.Proofs.Ytpnijncoldihfaa
open Go.RowKit Go.Shelf

/-- The number of the lowest k of n bytes, the highest first. -/
def rdv (bs : Nat → Nat) (n : Nat) : Nat → Nat
  | 0 => 0
  | k + 1 => rdv bs n k + bs (n - 1 - k) * 2 ^ (8 * k)

theorem rdv_lt (bs : Nat → Nat) (n : Nat) (h : ∀ j, bs j < 256) : ∀ k, rdv bs n k < 2 ^ (8 * k)
  | 0 => by simp [rdv]
  | k + 1 => by
    have h1 := rdv_lt bs n h k
    have h2 : (bs (n - 1 - k) + 1) * 2 ^ (8 * k) ≤ 256 * 2 ^ (8 * k) := Nat.mul_le_mul_right _ (h _)
    rw [show 8 * (k + 1) = 8 * k + 8 by omega, Nat.pow_add, show (2 : Nat) ^ 8 = 256 by decide, Nat.mul_comm _ 256]
    rw [Nat.add_mul, Nat.one_mul] at h2
    unfold rdv
    omega

theorem pow_byte (k : Nat) : 2 ^ (8 * k) = 18446744073709551616 ^ (k / 8) * 2 ^ (8 * (k % 8)) := by
  rw [show (18446744073709551616 : Nat) = 2 ^ 64 by decide, ← Nat.pow_mul, ← Nat.pow_add]
  congr 1
  omega

theorem limb_add_byte (V b k j : Nat) (hV : V < 2 ^ (8 * k)) (hb : b < 256) : limb (V + b * 2 ^ (8 * k)) j = if j = k / 8 then limb V j + b * 2 ^ (8 * (k % 8)) else limb V j := by
  have hs := Nat.mod_lt k (show 0 < 8 by decide)
  have hL : (0 : Nat) < 18446744073709551616 ^ j := Nat.pow_pos (by decide)
  rcases Nat.lt_trichotomy j (k / 8) with h | h | h
  · rw [if_neg (by omega)]
    obtain ⟨t, ht⟩ : ∃ t, k / 8 = j + (t + 1) := ⟨k / 8 - j - 1, by omega⟩
    unfold limb
    rw [pow_byte k, ht, Nat.pow_add, Nat.pow_succ,
      show b * (18446744073709551616 ^ j * (18446744073709551616 ^ t * 18446744073709551616) * 2 ^ (8 * (k % 8))) = 18446744073709551616 ^ j * (18446744073709551616 * (b * 18446744073709551616 ^ t * 2 ^ (8 * (k % 8)))) by
        rw [Nat.mul_left_comm, Nat.mul_comm (18446744073709551616 ^ t) 18446744073709551616]
        simp only [Nat.mul_assoc, Nat.mul_comm b], Nat.add_mul_div_left _ _ hL, Nat.add_mul_mod_self_left]
  · rw [if_pos h]
    unfold limb
    have h1 : V / 18446744073709551616 ^ j < 2 ^ (8 * (k % 8)) := by
      rw [Nat.div_lt_iff_lt_mul hL, Nat.mul_comm, h, ← pow_byte]; exact hV
    have h2 : 256 * 2 ^ (8 * (k % 8)) ≤ 18446744073709551616 := by
      rw [show (256 : Nat) = 2 ^ 8 by decide, ← Nat.pow_add, show (18446744073709551616 : Nat) = 2 ^ 64 by decide]; exact Nat.pow_le_pow_right (by decide) (by omega)
    have h3 : (b + 1) * 2 ^ (8 * (k % 8)) ≤ 256 * 2 ^ (8 * (k % 8)) := Nat.mul_le_mul_right _ hb
    rw [Nat.add_mul, Nat.one_mul] at h3
    have h4 : b * 2 ^ (8 * k) = 18446744073709551616 ^ j * (b * 2 ^ (8 * (k % 8))) := by rw [pow_byte k, ← h, Nat.mul_left_comm]
    rw [h4, Nat.add_mul_div_left _ _ hL]
    generalize b * 2 ^ (8 * (k % 8)) = c at *
    rw [Nat.mod_eq_of_lt (by omega), Nat.mod_eq_of_lt (by omega)]
  · rw [if_neg (by omega)]
    unfold limb
    have h1 : 256 * 2 ^ (8 * k) ≤ 18446744073709551616 ^ j := by
      rw [show (256 : Nat) = 2 ^ 8 by decide, ← Nat.pow_add, show (18446744073709551616 : Nat) = 2 ^ 64 by decide, ← Nat.pow_mul]; exact Nat.pow_le_pow_right (by decide) (by omega)
    have h3 : (b + 1) * 2 ^ (8 * k) ≤ 256 * 2 ^ (8 * k) := Nat.mul_le_mul_right _ hb
    rw [Nat.add_mul, Nat.one_mul] at h3
    rw [Nat.div_eq_of_lt (by omega), Nat.div_eq_of_lt (by omega)]

theorem limb_low (V k : Nat) (hV : V < 2 ^ (8 * k)) : limb V (k / 8) < 2 ^ (8 * (k % 8)) := by
  unfold limb
  refine Nat.lt_of_le_of_lt (Nat.mod_le _ _) ?_
  rw [Nat.div_lt_iff_lt_mul (Nat.pow_pos (by decide)), Nat.mul_comm, ← pow_byte]
  exact hV

end Go.Proofs.Ytpnijncoldihfaa

namespace Go.Proofs.Ytpnijncoldihfaa
open Go.RowKit Go.Shelf

/-- Where a word that is read has come to. -/
structure RI (t : Nat) (w wr : World) (V : Nat) : Prop where
  r : wr.heap[w.heap.size]? = some (.cells (c4 (fun _ => 0)) t (0, 0))
  x : wr.heap[w.heap.size + 1]? = some (.cells (c4 (limb V)) t (0, 0))
  b : Below w.heap.size w wr

theorem RI.put {t : Nat} {w wr : World} {V j v V' : Nat} (I : RI t w wr V) (hj : j < 4) (hV : (fun i => if i = j then v else limb V i) = limb V') : RI t w (wr.drew.setCell ⟨w.heap.size + 1, j, none⟩ (.int .u64 v)) V' := by
  refine ⟨(Below.heap_setCell wr.drew _ _ _ (by show w.heap.size ≠ w.heap.size + 1; omega)).trans I.r, ?_, I.b.drew.setCell (p := ⟨w.heap.size + 1, j, none⟩) (by simp <;> omega) _⟩
  have h := blk_set (w := wr.drew) (o := j) I.x (.int .u64 v)
  rw [cset4 _ v hj, hV] at h
  exact h

theorem results_cell_tmp {P : Program} {fn : Func} {ts : Array Value} {w : World} {j k ty : Nat} {p : Addr} {u : Value} (hf : fn.results = #[.cell j ty, .tmp k]) (hj : ts.getD j undef = .pointer (some p)) (h1 : (loadVar ty p).run P w = .ok u w) :
    (results fn ts).run P w = .ok (.tuple #[u, ts.getD k undef]) w := by
  unfold results
  rw [hf]
  rw [Array.getD_eq_getD_getElem?] at hj
  simp [hj, asAddr, h1]

theorem under24 : Try.prog.underlying 24 = some (.array 4 22) := by kernel_rfl

theorem size24 : (Try.prog.info? 24).map (·.size) = some 4 := by kernel_rfl

set_option maxHeartbeats 4000000 in
set_option maxRecDepth 100000 in
theorem read_any (bs : Nat → Nat) (hbs : ∀ j, bs j < 256) (n cap blk off : Nat) (hn : n ≤ 32) (w : World) (hblk : blk < w.heap.size) (hc : ∀ j, j < n → w.cell? ⟨blk, off + j, none⟩ = some (.int .u8 (bs j))) :
    Calls Try.prog 72 #[.slice (some ⟨blk, off, none⟩) n cap] w fun e w' => e = .returned (.tuple #[wv (rdv bs n n), .int .i64 0]) ∧ Below w.heap.size w w' := by
  have HBS := hideP hbs
  have HC := hideP hc
  have HBL := hideP hblk
  have HNN := hideP hn
  generalize hres : wv (rdv bs n n) = res
  have HRES := hideP hres
  clear hres hbs hc hblk
  have g0 : ¬ (n : Int) > 32 := by omega
  have g0' : ¬ (32 : Int) < (n : Int) := by omega
  clear hn
  have HE : Hid (RI 24 w ((w.alloc (.cells #[.int .u64 0, .int .u64 0, .int .u64 0, .int .u64 0] 24 (0, 0))).alloc (.cells #[.int .u64 0, .int .u64 0, .int .u64 0, .int .u64 0] 24 (0, 0))) (rdv bs n 0)) :=
    ⟨(heap_old _ _ (by simp)).trans (heap_new _ _), by rw [show limb (rdv bs n 0) = fun _ => 0 from limb_nought]; exact heap_new1 _ _ _, ((Below.refl _ w).alloc (Nat.le_refl _) _).alloc (by simp) _⟩
  go_enter Try.func72, Try.ntmps72
  go_wp2_with fail
  generalize (w.alloc (.cells #[.int .u64 0, .int .u64 0, .int .u64 0, .int .u64 0] 24 (0, 0))).alloc (.cells #[.int .u64 0, .int .u64 0, .int .u64 0, .int .u64 0] 24 (0, 0)) = W2 at HE ⊢
  rename_i Q' K hK
  have HK := hideP hK
  clear hK
  go_loopw [12] (fun i wr => ∃ (k : Nat), k ≤ n ∧ i = .int .i64 k ∧ RI 24 w wr (rdv bs n k)) (fun i _ => n - (intOf i).toNat)
  case atStart => exact ⟨0, Nat.zero_le _, rfl, HE.out⟩
  case round =>
    obtain ⟨k, hk, rfl, I⟩ := hrel
    have HI := hideP I
    clear I HE
    have hn := HNN.out
    by_cases hlt : k < n
    · have HN : Hid (k < n) := hlt
      have hV := rdv_lt bs n HBS.out k
      have hb := HBS.out (n - 1 - k)
      have hlow := limb_low _ k hV
      have hadd : (fun i => if i = k / 8 then limb (rdv bs n k) (k / 8) + bs (n - 1 - k) * 2 ^ (8 * (k % 8)) else limb (rdv bs n k) i) = limb (rdv bs n (k + 1)) := by
        funext j
        show _ = limb (rdv bs n k + bs (n - 1 - k) * 2 ^ (8 * k)) j
        rw [limb_add_byte _ _ k j hV hb]
        by_cases hj : j = k / 8
        · rw [if_pos hj, if_pos hj, hj]
        · rw [if_neg hj, if_neg hj]
      have hsum : limb (rdv bs n k) (k / 8) + bs (n - 1 - k) * 2 ^ (8 * (k % 8)) < 18446744073709551616 := by
        have h := limb_add_byte _ _ k (k / 8) hV hb
        rw [if_pos rfl] at h
        rw [← h]
        exact limb_lt _ _
      have cx := blk_cell HI.out.x (cget4 (limb (rdv bs n k)) (show k / 8 < 4 by omega))
      have fx : ∀ o, wr.frozen? ⟨w.heap.size + 1, o, none⟩ = false := fun o => blk_free HI.out.x
      have cb := (HI.out.b.cell (p := ⟨blk, off + (n - 1 - k), none⟩) HBL.out).trans (HC.out (n - 1 - k) (by omega))
      have HP := hideP (HI.out.put (show k / 8 < 4 by omega) hadd)
      have g1 : (k : Int) < (n : Int) := by omega
      have e0 : IntKind.i64.wrap ((n : Int) - 1) = ((n - 1 : Nat) : Int) := by rw [IntKind.wrap_i64]; omega
      have e0' : IntKind.i64.wrap (((n - 1 : Nat) : Int) - (k : Int)) = ((n - 1 - k : Nat) : Int) := by rw [IntKind.wrap_i64]; omega
      have g2 : ((n - 1 - k : Nat) : Int) < (n : Int) := by omega
      have g2' : n - 1 - k < n := by omega
      have e1 : ((k : Int)).tdiv 8 = ((k / 8 : Nat) : Int) := by rw [Int.tdiv_eq_ediv_of_nonneg (by omega)]; omega
      have e1' : IntKind.i64.wrap ((k / 8 : Nat) : Int) = ((k / 8 : Nat) : Int) := by rw [IntKind.wrap_i64]; omega
      have g3 : ((k / 8 : Nat) : Int) < 4 := by omega
      have e2 : ((k : Int)).tmod 8 = ((k % 8 : Nat) : Int) := by rw [Int.tmod_eq_emod_of_nonneg (by omega)]; omega
      have e2' : IntKind.i64.wrap ((k % 8 : Nat) : Int) = ((k % 8 : Nat) : Int) := by rw [IntKind.wrap_i64]; omega
      have e3 : IntKind.i64.wrap (8 * ((k % 8 : Nat) : Int)) = ((8 * (k % 8) : Nat) : Int) := by rw [IntKind.wrap_i64]; omega
      have g4 : ((8 * (k % 8) : Nat) : Int) < 64 := by omega
      have e4 : IntKind.i64.wrap ((k : Int) + 1) = (k : Int) + 1 := by rw [IntKind.wrap_i64]; omega
      have e5 : IntKind.u64.wrap ((bs (n - 1 - k) : Nat) : Int) = ((bs (n - 1 - k) : Nat) : Int) := by rw [IntKind.wrap_u64]; omega
      have hp : ((bs (n - 1 - k) : Nat) : Int) * 2 ^ (8 * (k % 8)) = ((bs (n - 1 - k) * 2 ^ (8 * (k % 8)) : Nat) : Int) := by simp
      have e6 : IntKind.u64.wrap (((bs (n - 1 - k) : Nat) : Int) * 2 ^ (8 * (k % 8))) = ((bs (n - 1 - k) * 2 ^ (8 * (k % 8)) : Nat) : Int) := by rw [hp]; exact M64.wrapN _ (by omega)
      have e7 : bits .or .u64 ((limb (rdv bs n k) (k / 8) : Nat) : Int) ((bs (n - 1 - k) * 2 ^ (8 * (k % 8)) : Nat) : Int) = ((limb (rdv bs n k) (k / 8) + bs (n - 1 - k) * 2 ^ (8 * (k % 8)) : Nat) : Int) := by
        rw [bits_or_u64_nat _ _ (by omega) (by omega), Nat.or_comm, Sh.or_add rfl hlow, Nat.add_comm]
      clear hlt hk hV hb hlow hadd hsum hp hn HI
      generalize bs (n - 1 - k) * 2 ^ (8 * (k % 8)) = bsh at *
      generalize limb (rdv bs n k) (k / 8) + bsh = sm at *
      generalize limb (rdv bs n k) (k / 8) = lx at *
      generalize bs (n - 1 - k) = bk at *
      generalize n - 1 - k = nk at *
      generalize n - 1 = n1 at *
      generalize k / 8 = kq at *
      generalize 8 * (k % 8) = sh at *
      generalize k % 8 = kr at *
      go_wp2_with fail
      go_region
      go_wp2_with fail
      refine ⟨⟨k + 1, HN.out, by go_num, HP.out⟩, by have := HN.out; simp [intOf]; omega⟩
    · have hk6 : k = n := by omega
      subst hk6
      have g1 : ¬ ((k : Nat) : Int) < (k : Int) := by omega
      clear hlt hk hn
      go_wp2_with fail
      refine HK.out _ _ ?_
      have lx := rangeOf HI.out.x
      refine wp_seq ?_
      refine wp_region_list ?_
      refine wpList_load_mid rfl 24 _ rfl (w.heap.size + 1) 0 rfl (c4 (limb (rdv bs k k))).toList _ lx under24 rfl size24 ?_
      refine wpList_store_mid rfl 24 _ _ rfl w.heap.size 0 (c4 (limb (rdv bs k k))) rfl rfl (there4 HI.out.r) size24 (oneCell4 _) ?_
      have hb2 := blk_sets (c4 (limb (rdv bs k k))).toList 0 HI.out.r
      rw [putAll4] at hb2
      have HL := hideP (HI.out.b.trans ((But.sets (c4 (limb (rdv bs k k))).toList 0 (But.refl w.heap.size wr)).below.mono (by omega)))
      have HB2 := hideP hb2
      clear hb2 HI lx
      (try simp only [put_none])
      generalize wr.setCells w.heap.size 0 (c4 (limb (rdv bs k k))).toList = w2 at HL HB2 ⊢
      go_wp2_with fail
      refine bodyPost_ret_by (results_cell_tmp rfl rfl (run_loadVar_mid _ _ 0 24 (c4 (limb (rdv bs k k))).toList _ (rangeOf HB2.out) under24 rfl size24)) rfl ⟨?_, HL.out⟩
      rw [← HRES.out, wv_c4]
      rfl

end Go.Proofs.Ytpnijncoldihfaa
