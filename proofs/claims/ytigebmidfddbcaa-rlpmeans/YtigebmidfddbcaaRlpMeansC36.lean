/-
  The words of the document: out of bytes, their least bytes (for this seat).
-/
import Derived.WalkKit
import Derived.WalkLawsBesides
import Derived.WalkSpells
import Derived.BigQuiet
import Derived.Deep.QuietTactic
import Derived.Laws.Externs
import Derived.Shelf.Spec.BitsCarry
import Derived.Lib.Mul64
import Derived.Laws.Bits64b
import Derived.Deep.MidRow
import Derived.Laws.CopyOwn
import Derived.OwnWalk
import Derived.Deep.Upon
import Derived.Test.YtigebmidfddbcaaRlpMeansC30
namespace Go.Proofs.Ytigebmidfddbcaa
open Go.RowKit Go.Shelf

/-- What four limbs stand for. -/
def num (a b c d : Nat) : Nat := a + 18446744073709551616 * (b + 18446744073709551616 * (c + 18446744073709551616 * d))

theorem wv_num {Z a b c d : Nat} (ha : a < 18446744073709551616) (hb : b < 18446744073709551616) (hc : c < 18446744073709551616) (hd : d < 18446744073709551616) (h : Z % M256 = num a b c d) :
    Value.agg #[.int .u64 a, .int .u64 b, .int .u64 c, .int .u64 d] = wv Z := by
  rw [← wv_mod Z, h]
  exact wv_eq (k := 0) ha hb hc hd (by rw [Nat.mul_zero, Nat.add_zero]; rfl)

set_option maxRecDepth 100000 in
theorem refOf_any (n : Nat) (hn : n < 18446744073709551616) (w : World) : Calls Try.prog 65 #[.int .u64 n] w fun e w' => e = .returned (wv n) ∧ Below w.heap.size w w' := by
  have hr : Value.agg #[.int .u64 (n : Int), .int .u64 ((0 : Nat) : Int), .int .u64 ((0 : Nat) : Int), .int .u64 ((0 : Nat) : Int)] = wv n := by
    refine wv_num hn (by omega) (by omega) (by omega) ?_
    rw [Nat.mod_eq_of_lt (by unfold M256; omega)]
    unfold num
    omega
  have HR := hideP hr
  clear hr hn
  go_enter Try.func65, Try.ntmps65
  go_wp2
  refine bodyPost_ret (v := .agg #[.int .u64 (n : Int), .int .u64 0, .int .u64 0, .int .u64 0]) (by simp [results, Try.results65, go_sem]) rfl ⟨by rw [← HR.out]; rfl, ?_⟩
  repeat first | exact Below.refl _ _ | apply Below.drew | (refine Below.alloc ?_ (by simp <;> omega) _) | (refine Below.setCell ?_ (by simp <;> omega) _)

theorem under23 : Try.prog.underlying 58 = some (.array 4 57) := by kernel_rfl

theorem size23 : (Try.prog.info? 58).map (·.size) = some 4 := by kernel_rfl

set_option maxHeartbeats 4000000 in
set_option maxRecDepth 100000 in
theorem refBytes_any (X : Nat) (w : World) : Calls Try.prog 77 #[wv X] w fun e w' => e = .returned (b32 X) ∧ Below w.heap.size w w' := by
  have HE := hideP (YI.start 58 w X)
  rw [wv_c4]
  generalize hres : b32 X = res
  have HRES := hideP hres
  clear hres
  generalize hcx : c4 (limb X) = cx at HE ⊢
  clear hcx
  rw [← zero32] at HE
  go_enter Try.func77, Try.ntmps77
  go_wp2_with fail
  generalize ((w.alloc (.cells cx 58 (0, 0))).alloc (.cells #[.int .u8 0, .int .u8 0, .int .u8 0, .int .u8 0, .int .u8 0, .int .u8 0, .int .u8 0, .int .u8 0, .int .u8 0, .int .u8 0, .int .u8 0, .int .u8 0, .int .u8 0, .int .u8 0, .int .u8 0, .int .u8 0, .int .u8 0, .int .u8 0, .int .u8 0, .int .u8 0, .int .u8 0, .int .u8 0, .int .u8 0, .int .u8 0, .int .u8 0, .int .u8 0, .int .u8 0, .int .u8 0, .int .u8 0, .int .u8 0, .int .u8 0, .int .u8 0] 128 (0, 0))).alloc (.cells #[.int .u8 0, .int .u8 0, .int .u8 0, .int .u8 0, .int .u8 0, .int .u8 0, .int .u8 0, .int .u8 0, .int .u8 0, .int .u8 0, .int .u8 0, .int .u8 0, .int .u8 0, .int .u8 0, .int .u8 0, .int .u8 0, .int .u8 0, .int .u8 0, .int .u8 0, .int .u8 0, .int .u8 0, .int .u8 0, .int .u8 0, .int .u8 0, .int .u8 0, .int .u8 0, .int .u8 0, .int .u8 0, .int .u8 0, .int .u8 0, .int .u8 0, .int .u8 0] 128 (0, 0)) = W2 at HE ⊢
  rename_i Q' K hK
  have HK := hideP hK
  clear hK
  go_loopw [4] (fun i wr => ∃ (k : Nat), k ≤ 32 ∧ i = .int .i64 k ∧ YI 58 w wr X k) (fun i _ => 32 - (intOf i).toNat)
  case atStart => exact ⟨0, Nat.zero_le _, rfl, HE.out⟩
  case round =>
    obtain ⟨k, hk, rfl, I⟩ := hrel
    have HI := hideP I
    clear I HE
    by_cases hlt : k < 32
    · have HN : Hid (k < 32) := hlt
      have cx := blk_cell HI.out.x (cget4 (limb X) (show k / 8 < 4 by omega))
      have fo : ∀ o, wr.frozen? ⟨w.heap.size + 1 + 1, o, none⟩ = false := fun o => blk_free HI.out.o.choose_spec.1
      have co := blk_cell HI.out.o.choose_spec.1 (get32 _ (show 31 - k < 32 by omega))
      have HP := hideP (HI.out.put hlt)
      have hv := limb_byt X k
      have hll := limb_lt X (k / 8)
      have hbl := byt_lt X k
      have g1 : (k : Int) < 32 := by omega
      have e0 : IntKind.i64.wrap (31 - (k : Int)) = ((31 - k : Nat) : Int) := by rw [IntKind.wrap_i64]; omega
      have g2 : ((31 - k : Nat) : Int) < 32 := by omega
      have e1 : ((k : Int)).tdiv 8 = ((k / 8 : Nat) : Int) := by rw [Int.tdiv_eq_ediv_of_nonneg (by omega)]; omega
      have e1' : IntKind.i64.wrap ((k / 8 : Nat) : Int) = ((k / 8 : Nat) : Int) := by rw [IntKind.wrap_i64]; omega
      have g3 : ((k / 8 : Nat) : Int) < 4 := by omega
      have e2 : ((k : Int)).tmod 8 = ((k % 8 : Nat) : Int) := by rw [Int.tmod_eq_emod_of_nonneg (by omega)]; omega
      have e2' : IntKind.i64.wrap ((k % 8 : Nat) : Int) = ((k % 8 : Nat) : Int) := by rw [IntKind.wrap_i64]; omega
      have e3 : IntKind.i64.wrap (8 * ((k % 8 : Nat) : Int)) = ((8 * (k % 8) : Nat) : Int) := by rw [IntKind.wrap_i64]; omega
      have e3' : IntKind.u64.wrap ((8 * (k % 8) : Nat) : Int) = ((8 * (k % 8) : Nat) : Int) := by rw [IntKind.wrap_u64]; omega
      have g4 : ((8 * (k % 8) : Nat) : Int) < 64 := by omega
      have e4 : IntKind.i64.wrap ((k : Int) + 1) = (k : Int) + 1 := by rw [IntKind.wrap_i64]; omega
      have hq : ((limb X (k / 8) : Int) / 2 ^ (8 * (k % 8))) = ((limb X (k / 8) / 2 ^ (8 * (k % 8)) : Nat) : Int) := by simp
      have e6 : ((limb X (k / 8) : Int) / 2 ^ (8 * (k % 8))).tmod 256 = ((byt X k : Nat) : Int) := by
        rw [hq, Int.tmod_eq_emod_of_nonneg (Int.natCast_nonneg _), ← hv]; rfl
      have e5 : IntKind.u8.wrap ((limb X (k / 8) : Int) / 2 ^ (8 * (k % 8))) = ((byt X k : Nat) : Int) := by
        rw [hq, IntKind.wrap_u8, ← hv]; rfl
      have e7 : IntKind.u8.wrap ((byt X k : Nat) : Int) = ((byt X k : Nat) : Int) := by rw [IntKind.wrap_u8]; omega
      clear hlt hk hv hll hbl hq
      generalize limb X (k / 8) = lx at *
      generalize byt X k = bk at *
      generalize k / 8 = kq at *
      generalize 8 * (k % 8) = sh at *
      generalize k % 8 = kr at *
      generalize 31 - k = kt at *
      go_wp2_with fail
      refine ⟨⟨k + 1, HN.out, by go_num, HP.out⟩, by have := HN.out; simp [intOf]; omega⟩
    · have hk6 : k = 32 := by omega
      subst hk6
      have g1 : ¬ ((32 : Nat) : Int) < 32 := by decide
      clear hlt hk
      go_wp2_with fail
      refine HK.out _ _ ?_
      refine endRow (C := c32 (fun j => byt X (31 - j))) rfl rfl rfl (by decide) (by show 23 < 24; decide) rfl under52 rfl size52 (oneCell32 _) (rangeOf HI.out.done) (there32 HI.out.r) ?_
      intro wS h
      exact ⟨by rw [← HRES.out]; rfl, HI.out.b.trans (h.below.mono (by omega))⟩

/-- The number of the highest k of n bytes. -/
def rdh (bs : Nat → Nat) (n : Nat) : Nat → Nat
  | 0 => 0
  | k + 1 => rdh bs n k + bs k * 2 ^ (8 * (n - 1 - k))

theorem rdh_rdv (bs : Nat → Nat) (n : Nat) : ∀ k, k ≤ n → rdh bs n k + rdv bs n (n - k) = rdv bs n n
  | 0, _ => by simp [rdh]
  | k + 1, h => by
    have h1 := rdh_rdv bs n k (by omega)
    have h2 : rdv bs n (n - k) = rdv bs n (n - (k + 1)) + bs k * 2 ^ (8 * (n - 1 - k)) := by
      rw [show n - k = n - (k + 1) + 1 by omega]
      show _ + bs (n - 1 - (n - (k + 1))) * 2 ^ (8 * (n - (k + 1))) = _
      rw [show n - 1 - (n - (k + 1)) = k by omega, show n - (k + 1) = n - 1 - k by omega]
    show rdh bs n k + bs k * 2 ^ (8 * (n - 1 - k)) + _ = _
    omega

theorem rdh_done (bs : Nat → Nat) (n : Nat) : rdh bs n n = rdv bs n n := by
  have h := rdh_rdv bs n n (Nat.le_refl _)
  rw [Nat.sub_self] at h
  exact h

theorem rdh_high (bs : Nat → Nat) (n : Nat) : ∀ k, k ≤ n → ∃ K, rdh bs n k = K * 2 ^ (8 * (n - k))
  | 0, _ => ⟨0, by simp [rdh]⟩
  | k + 1, h => by
    obtain ⟨K, hK⟩ := rdh_high bs n k (by omega)
    refine ⟨K * 256 + bs k, ?_⟩
    show rdh bs n k + bs k * 2 ^ (8 * (n - 1 - k)) = _
    rw [hK, Nat.add_mul, show 8 * (n - k) = 8 * (n - (k + 1)) + 8 by omega, Nat.pow_add, show (2 : Nat) ^ 8 = 256 by decide, show n - 1 - k = n - (k + 1) by omega, Nat.mul_assoc, Nat.mul_comm 256]

theorem limb_shift_low (m d j : Nat) (h : j < d) : limb (18446744073709551616 ^ d * m) j = 0 := by
  obtain ⟨t, rfl⟩ : ∃ t, d = j + (t + 1) := ⟨d - j - 1, by omega⟩
  unfold limb
  rw [Nat.pow_add, Nat.mul_assoc, Nat.mul_div_cancel_left _ (Nat.pow_pos (by decide)), Nat.pow_succ, Nat.mul_comm (18446744073709551616 ^ t), Nat.mul_assoc, Nat.mul_mod_right]

theorem limb_shift_high (m d t : Nat) : limb (18446744073709551616 ^ d * m) (d + t) = limb m t := by
  unfold limb
  rw [Nat.pow_add, ← Nat.div_div_eq_div_mul, Nat.mul_div_cancel_left _ (Nat.pow_pos (by decide))]

theorem limb_byte_zero (K b s t : Nat) (hs : s ≤ 56) (hb : b < 256) : limb (2 ^ s * (256 * K + b)) t = if t = 0 then limb (2 ^ s * (256 * K)) 0 + b * 2 ^ s else limb (2 ^ s * (256 * K)) t := by
  obtain ⟨u, hu⟩ : ∃ u, 64 - s = 8 + u := ⟨56 - s, by omega⟩
  have hB : (18446744073709551616 : Nat) = 2 ^ s * (256 * 2 ^ u) := by
    rw [show (256 : Nat) = 2 ^ 8 by decide, ← Nat.pow_add, ← Nat.pow_add, show s + (8 + u) = 64 by omega]
  have hP : 0 < 2 ^ s := Nat.pow_pos (by decide)
  have hU : 0 < 2 ^ u := Nat.pow_pos (by decide)
  have h1 : 2 ^ s * (256 * K + b) % 18446744073709551616 = 2 ^ s * (256 * K) % 18446744073709551616 + b * 2 ^ s := by
    rw [hB, Nat.mul_mod_mul_left, Nat.mul_mod_mul_left]
    have : (256 * K + b) % (256 * 2 ^ u) = 256 * K % (256 * 2 ^ u) + b := by
      rw [Nat.mul_mod_mul_left, Nat.mod_mul]
      rw [show (256 * K + b) / 256 = K by omega]
      omega
    rw [this, Nat.mul_add, Nat.mul_comm b]
  have h2 : 2 ^ s * (256 * K + b) / 18446744073709551616 = 2 ^ s * (256 * K) / 18446744073709551616 := by
    rw [hB, Nat.mul_div_mul_left _ _ hP, Nat.mul_div_mul_left _ _ hP, ← Nat.div_div_eq_div_mul, ← Nat.div_div_eq_div_mul]
    rw [show (256 * K + b) / 256 = K by omega, show 256 * K / 256 = K by omega]
  cases t with
  | zero => rw [if_pos rfl]; unfold limb; rw [Nat.pow_zero, Nat.div_one, Nat.div_one]; exact h1
  | succ t =>
    rw [if_neg (by omega)]
    unfold limb
    rw [Nat.pow_succ, Nat.mul_comm (18446744073709551616 ^ t), ← Nat.div_div_eq_div_mul, ← Nat.div_div_eq_div_mul, h2]

theorem limb_add_top (K b p j : Nat) (hb : b < 256) : limb (K * 2 ^ (8 * (p + 1)) + b * 2 ^ (8 * p)) j = if j = p / 8 then limb (K * 2 ^ (8 * (p + 1))) j + b * 2 ^ (8 * (p % 8)) else limb (K * 2 ^ (8 * (p + 1))) j := by
  have e2 : K * 2 ^ (8 * (p + 1)) = 18446744073709551616 ^ (p / 8) * (2 ^ (8 * (p % 8)) * (256 * K)) := by
    rw [← Nat.mul_assoc, ← pow_byte, show 8 * (p + 1) = 8 * p + 8 by omega, Nat.pow_add, show (2 : Nat) ^ 8 = 256 by decide, Nat.mul_comm K, Nat.mul_assoc]
  have e1 : K * 2 ^ (8 * (p + 1)) + b * 2 ^ (8 * p) = 18446744073709551616 ^ (p / 8) * (2 ^ (8 * (p % 8)) * (256 * K + b)) := by
    have e3 : b * 2 ^ (8 * p) = 18446744073709551616 ^ (p / 8) * (2 ^ (8 * (p % 8)) * b) := by rw [pow_byte p, Nat.mul_comm b, Nat.mul_assoc]
    rw [e2, e3, ← Nat.mul_add, ← Nat.mul_add]
  rw [e1, e2]
  rcases Nat.lt_or_ge j (p / 8) with h | h
  · rw [limb_shift_low _ _ _ h, limb_shift_low _ _ _ h, if_neg (by omega)]
  · obtain ⟨t, rfl⟩ : ∃ t, j = p / 8 + t := ⟨j - p / 8, by omega⟩
    rw [limb_shift_high, limb_shift_high, limb_byte_zero _ _ _ _ (by omega) hb]
    by_cases ht : t = 0
    · subst ht; rw [if_pos rfl, if_pos (Nat.add_zero _)]
    · rw [if_neg ht, if_neg (by omega)]

set_option maxHeartbeats 4000000 in
set_option maxRecDepth 100000 in
theorem refRead_any (bs : Nat → Nat) (hbs : ∀ j, bs j < 256) (n cap : Nat) (ad : Addr) (hn : n ≤ 32) (w : World) (hc : ∀ j, j < n → w.cell? (ad.add j) = some (.int .u8 (bs j))) :
    Calls Try.prog 55 #[.slice (some ad) n cap] w fun e w' => e = .returned (wv (rdv bs n n)) ∧ Below w.heap.size w w' := by
  have HBS := hideP hbs
  have HC := hideP hc
  have HNN := hideP hn
  rw [← rdh_done]
  generalize hres : wv (rdh bs n n) = res
  have HRES := hideP hres
  clear hres hbs hc hn
  have HE : Hid (RI 58 w ((w.alloc (.cells #[.int .u64 0, .int .u64 0, .int .u64 0, .int .u64 0] 58 (0, 0))).alloc (.cells #[.int .u64 0, .int .u64 0, .int .u64 0, .int .u64 0] 58 (0, 0))) (rdh bs n 0)) :=
    ⟨(heap_old _ _ (by simp)).trans (heap_new _ _), by rw [show limb (rdh bs n 0) = fun _ => 0 from limb_nought]; exact heap_new1 _ _ _, ((Below.refl _ w).alloc (Nat.le_refl _) _).alloc (by simp) _⟩
  go_enter Try.func55, Try.ntmps55
  go_wp2_with fail
  generalize (w.alloc (.cells #[.int .u64 0, .int .u64 0, .int .u64 0, .int .u64 0] 58 (0, 0))).alloc (.cells #[.int .u64 0, .int .u64 0, .int .u64 0, .int .u64 0] 58 (0, 0)) = W2 at HE ⊢
  rename_i Q' K hK
  have HK := hideP hK
  clear hK
  go_loopw [4] (fun i wr => ∃ (k : Nat), k ≤ n ∧ i = .int .i64 k ∧ RI 58 w wr (rdh bs n k)) (fun i _ => n - (intOf i).toNat)
  case atStart => exact ⟨0, Nat.zero_le _, rfl, HE.out⟩
  case round =>
    obtain ⟨k, hk, rfl, I⟩ := hrel
    have HI := hideP I
    clear I HE
    have hn := HNN.out
    by_cases hlt : k < n
    · have HN : Hid (k < n) := hlt
      have hb := HBS.out k
      obtain ⟨T, hT⟩ := rdh_high bs n k hk
      have hp1 : n - k = n - 1 - k + 1 := by omega
      rw [hp1] at hT
      have hstep : ∀ j, limb (rdh bs n (k + 1)) j = if j = (n - 1 - k) / 8 then limb (rdh bs n k) j + bs k * 2 ^ (8 * ((n - 1 - k) % 8)) else limb (rdh bs n k) j := fun j => by
        show limb (rdh bs n k + bs k * 2 ^ (8 * (n - 1 - k))) j = _
        rw [hT]
        exact limb_add_top T (bs k) (n - 1 - k) j hb
      have hp32 : n - 1 - k < 32 := by omega
      generalize hp : n - 1 - k = p at *
      have hadd : (fun i => if i = p / 8 then limb (rdh bs n k) (p / 8) + bs k * 2 ^ (8 * (p % 8)) else limb (rdh bs n k) i) = limb (rdh bs n (k + 1)) := by
        funext j
        rw [hstep j]
        by_cases hj : j = p / 8
        · rw [if_pos hj, if_pos hj, hj]
        · rw [if_neg hj, if_neg hj]
      have hsum : limb (rdh bs n k) (p / 8) + bs k * 2 ^ (8 * (p % 8)) < 18446744073709551616 := by
        have h := hstep (p / 8)
        rw [if_pos rfl] at h
        rw [← h]
        exact limb_lt _ _
      have cx := blk_cell HI.out.x (cget4 (limb (rdh bs n k)) (show p / 8 < 4 by omega))
      have fx : ∀ o, wr.frozen? ⟨w.heap.size + 1, o, none⟩ = false := fun o => blk_free HI.out.x
      have cb := (HI.out.b.cell (p := ad.add k) (World.block_lt_of_cell? w _ (HC.out k hlt))).trans (HC.out k hlt)
      have HP := hideP (HI.out.put (show p / 8 < 4 by omega) hadd)
      have g1 : (k : Int) < (n : Int) := by omega
      have e0 : IntKind.i64.wrap ((n : Int) - 1) = (n : Int) - 1 := by rw [IntKind.wrap_i64]; omega
      have e0' : IntKind.i64.wrap ((n : Int) - 1 - (k : Int)) = (p : Int) := by rw [IntKind.wrap_i64]; omega
      have e1 : ((p : Int)).tdiv 8 = ((p / 8 : Nat) : Int) := by rw [Int.tdiv_eq_ediv_of_nonneg (by omega)]; omega
      have e1' : IntKind.i64.wrap ((p / 8 : Nat) : Int) = ((p / 8 : Nat) : Int) := by rw [IntKind.wrap_i64]; omega
      have g3 : ((p / 8 : Nat) : Int) < 4 := by omega
      have e2 : ((p : Int)).tmod 8 = ((p % 8 : Nat) : Int) := by rw [Int.tmod_eq_emod_of_nonneg (by omega)]; omega
      have e2' : IntKind.i64.wrap ((p % 8 : Nat) : Int) = ((p % 8 : Nat) : Int) := by rw [IntKind.wrap_i64]; omega
      have e3 : IntKind.i64.wrap (8 * ((p % 8 : Nat) : Int)) = ((8 * (p % 8) : Nat) : Int) := by rw [IntKind.wrap_i64]; omega
      have e3' : IntKind.u64.wrap ((8 * (p % 8) : Nat) : Int) = ((8 * (p % 8) : Nat) : Int) := by rw [IntKind.wrap_u64]; omega
      have g4 : ((8 * (p % 8) : Nat) : Int) < 64 := by omega
      have e4 : IntKind.i64.wrap ((k : Int) + 1) = (k : Int) + 1 := by rw [IntKind.wrap_i64]; omega
      have e5 : IntKind.u64.wrap ((bs k : Nat) : Int) = ((bs k : Nat) : Int) := by rw [IntKind.wrap_u64]; omega
      have hpp : ((bs k : Nat) : Int) * 2 ^ (8 * (p % 8)) = ((bs k * 2 ^ (8 * (p % 8)) : Nat) : Int) := by simp
      have e6 : IntKind.u64.wrap (((bs k : Nat) : Int) * 2 ^ (8 * (p % 8))) = ((bs k * 2 ^ (8 * (p % 8)) : Nat) : Int) := by rw [hpp]; exact M64.wrapN _ (by omega)
      have e7 : IntKind.u64.wrap ((limb (rdh bs n k) (p / 8) : Int) + ((bs k * 2 ^ (8 * (p % 8)) : Nat) : Int)) = ((limb (rdh bs n k) (p / 8) + bs k * 2 ^ (8 * (p % 8)) : Nat) : Int) := by rw [← Int.natCast_add]; exact M64.wrapN _ (by omega)
      clear hlt hk hT hb hstep hadd hsum hpp hp hp1 hp32 hn HI
      generalize bs k * 2 ^ (8 * (p % 8)) = bsh at *
      generalize limb (rdh bs n k) (p / 8) + bsh = sm at *
      generalize limb (rdh bs n k) (p / 8) = lx at *
      generalize bs k = bk at *
      generalize p / 8 = kq at *
      generalize 8 * (p % 8) = sh at *
      generalize p % 8 = kr at *
      go_wp2_with fail
      go_region
      go_wp2_with fail
      refine ⟨⟨k + 1, HN.out, by go_num, HP.out⟩, by have := HN.out; simp [intOf]; omega⟩
    · have hk6 : k = n := by omega
      subst hk6
      have g1 : ¬ ((k : Nat) : Int) < (k : Int) := by omega
      clear hlt hk hn
      go_wp2_with fail
      refine HK.out _ _ ?_
      refine endRow (C := c4 (limb (rdh bs k k))) rfl rfl rfl (by decide) (by show 35 < 36; decide) rfl under23 rfl size23 (oneCell4 _) (rangeOf HI.out.x) (there4 HI.out.r) ?_
      intro wS h
      exact ⟨by rw [← HRES.out, wv_c4], HI.out.b.trans (h.below.mono (by omega))⟩

set_option maxHeartbeats 4000000 in
set_option maxRecDepth 100000 in
theorem refRead_nil (w : World) : Calls Try.prog 55 #[.slice none 0 0] w fun e w' => e = .returned (wv 0) ∧ Below w.heap.size w w' := by
  go_enter Try.func55, Try.ntmps55
  go_wp2_with fail
  go_loopw [4] (fun i wr => i = .int .i64 0 ∧ wr = (w.alloc (.cells #[.int .u64 0, .int .u64 0, .int .u64 0, .int .u64 0] 58 (0, 0))).alloc (.cells #[.int .u64 0, .int .u64 0, .int .u64 0, .int .u64 0] 58 (0, 0))) (fun _ _ => 0)
  case atStart => exact ⟨rfl, rfl⟩
  case round =>
    obtain ⟨rfl, rfl⟩ := hrel
    go_wp2_with fail
    refine bodyPost_ret (v := .agg #[.int .u64 0, .int .u64 0, .int .u64 0, .int .u64 0]) (by simp [results, Try.results55, go_sem]) rfl ⟨rfl, ?_⟩
    repeat first | exact Below.refl _ _ | (refine Below.alloc ?_ (by simp <;> omega) _) | (refine Below.setCell ?_ (by simp <;> omega) _)

theorem byt_split (X k : Nat) : X % 2 ^ (8 * (k + 1)) = X % 2 ^ (8 * k) + 2 ^ (8 * k) * byt X k := by
  unfold byt
  rw [show 8 * (k + 1) = 8 * k + 8 by omega, Nat.pow_add, show (2 : Nat) ^ 8 = 256 by decide, Nat.mod_mul]

theorem M256_pow : M256 = 2 ^ (8 * 32) := by decide

/-- The k highest bytes are noughts. -/
theorem high_noughts (X k : Nat) (hk : k ≤ 32) (h : ∀ j, j < k → byt X (31 - j) = 0) : X % M256 = X % 2 ^ (8 * (32 - k)) := by
  induction k with
  | zero => rw [M256_pow]
  | succ k ih =>
    rw [ih (by omega) (fun j hj => h j (by omega))]
    have e : 32 - k = 32 - (k + 1) + 1 := by omega
    rw [e, byt_split, show 32 - (k + 1) = 31 - k by omega, h k (by omega), Nat.mul_zero, Nat.add_zero]

theorem LB.ofNoughts {X k : Nat} (hk : k ≤ 32) (h : ∀ j, j < k → byt X (31 - j) = 0) (he : k < 32 → byt X (31 - k) ≠ 0) : LB X (32 - k) := by
  have h1 := high_noughts X k hk h
  refine ⟨by omega, ?_, fun h0 => ?_⟩
  · rw [h1]; exact Nat.mod_lt _ (Nat.pow_pos (by decide))
  · have h2 := he (by omega)
    rw [h1, show 32 - k = 31 - k + 1 by omega, byt_split, Nat.add_sub_cancel]
    have h3 : 2 ^ (8 * (31 - k)) * 1 ≤ 2 ^ (8 * (31 - k)) * byt X (31 - k) := Nat.mul_le_mul_left _ (by omega)
    omega

end Go.Proofs.Ytigebmidfddbcaa
