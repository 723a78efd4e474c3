/-
  Regions in a round of a range over a function.
-/
import Derived.Test.YtppijhcfodccfaaGreatCurveNoneC04
import Derived.Test.YtppijhcfodccfaaGreatCurveNoneC10
import Derived.Test.YtppijhcfodccfaaGreatCurveNoneC16
import Derived.Test.YtppijhcfodccfaaGreatCurveNoneC17
import Derived.Test.YtppijhcfodccfaaGreatCurveNoneC14
import Derived.Test.YtppijhcfodccfaaGreatCurveNoneC03
namespace Go.Proofs.YtppijhcfodccfaaGreat
open Go.RowKit Go.Shelf

attribute [local go_sem] Oper.semAt_some

/-- How many bits a number has. -/
def bl (k : Nat) : Nat := if k = 0 then 0 else k.log2 + 1

theorem bl_iff (k i : Nat) : i < bl k ↔ 2 ^ i ≤ k := by
  unfold bl
  by_cases h : k = 0
  · subst h
    rw [if_pos rfl]
    have := Nat.two_pow_pos i
    omega
  · rw [if_neg h, ← Nat.le_log2 h]
    omega

theorem bl_lt (k : Nat) : k < 2 ^ bl k := by
  rcases Nat.lt_or_ge k (2 ^ bl k) with h | h
  · exact h
  · exact absurd ((bl_iff k (bl k)).2 h) (Nat.lt_irrefl _)

theorem bl_le {k n : Nat} (h : k < 2 ^ n) : bl k ≤ n := by
  rcases Nat.lt_or_ge n (bl k) with h' | h'
  · exact absurd ((bl_iff k n).1 h') (by omega)
  · exact h'

/-- The bit that comes behind q others. -/
def bitq (k q : Nat) : Bool := decide (k / 2 ^ (bl k - 1 - q) % 2 = 1)

theorem limb_bit9 (k i : Nat) : limb k (i / 64) / 2 ^ (i % 64) % 2 = k / 2 ^ i % 2 := by
  unfold limb
  have e : (18446744073709551616 : Nat) = 2 ^ 64 := by decide
  have h : i = 64 * (i / 64) + i % 64 := by omega
  have hm : i % 64 < 64 := Nat.mod_lt _ (by decide)
  generalize i / 64 = a at *
  generalize i % 64 = b at *
  subst h
  rw [e, ← Nat.pow_mul, Nat.pow_add, ← Nat.div_div_eq_div_mul]
  generalize k / 2 ^ (64 * a) = x
  have e2 : (2 : Nat) ^ 64 = 2 ^ b * (2 * 2 ^ (63 - b)) := by rw [← Nat.mul_assoc, Nat.mul_comm (2 ^ b) 2, ← Nat.pow_succ', ← Nat.pow_add]; congr 1; omega
  rw [e2, Nat.mod_mul_right_div_self, Nat.mod_mul_right_mod]

theorem top_bit {k n : Nat} (h : k < 2 ^ (n + 1)) : k / 2 ^ n % 2 = 1 ↔ n < bl k := by
  rw [bl_iff]
  have h2 : k / 2 ^ n < 2 := (Nat.div_lt_iff_lt_mul (Nat.two_pow_pos n)).2 (by rw [Nat.pow_succ] at h; omega)
  rw [Nat.mod_eq_of_lt h2]
  constructor
  · intro h1
    have := Nat.div_mul_le_self k (2 ^ n)
    rw [h1] at this
    omega
  · intro h1
    have : 1 ≤ k / 2 ^ n := (Nat.le_div_iff_mul_le (Nat.two_pow_pos n)).2 (by omega)
    omega

/-- The word that the iterator reads. -/
def RowK (B k : Nat) (W : World) : Prop := W.heap[B]? = some (.cells (W4.cs (limb k)) 65 (0, 0))

def KpK (B k : Nat) (W W' : World) : Prop := RowK B k W → RowK B k W'

set_option maxHeartbeats 2000000 in
set_option maxRecDepth 100000 in
theorem bits1_any (m : Nat) (hm : 1 ≤ m) (l B k : Nat) (hk : k < 2 ^ 256) (J : Nat → World → Prop) (Jx : World → Prop)
    (hY : ∀ (q : Nat) (V : World), q < bl k → J q V → YieldAt Fence.wide (m - 1) Tryz.prog l #[.bool (bitq k q)] V fun e V' => (e = .returned (.bool true) ∧ J (q + 1) V' ∧ KpK B k V V') ∨ (e = .returned (.bool false) ∧ Jx V'))
    (W : World) (hr : RowK B k W) (h0 : J 0 W) :
    CallsIn Fence.wide m Tryz.prog 251 #[.func (.yield l) #[] #[], .pointer (some ⟨B, 0, none⟩)] W fun e W' => (∃ v, e = .returned v) ∧ (J (bl k) W' ∨ Jx W') := by
  have HR := hideP hr
  have HY := hideP hY
  have HL := hideP (bl_le hk)
  clear hY hr hk
  refine callsIn_of_wp Tryz.func251 rfl trivial ?_ rfl
  simp only [Tryz.ntmps251, List.size_toArray, List.length_cons, List.length_nil, Nat.reduceAdd, Nat.reduceSub, Array.replicate_succ, Array.replicate_zero, List.push_toArray, List.append_toArray, List.nil_append, List.cons_append]
  gi_wp2
  gi_loopw [3, 4] (fun b i wr => ∃ n : Nat, n ≤ 256 ∧ b = .bool (decide (n < bl k)) ∧ i = .int .i64 ((n : Int) - 1) ∧ J (bl k - n) wr ∧ Hid (RowK B k wr)) (fun _ i _ => (intOf i + 1).toNat)
  case atStart =>
    have := HL.out
    exact ⟨256, Nat.le_refl _, by rw [decide_eq_false (by omega)], rfl, by rw [show bl k - 256 = 0 by omega]; exact h0, HR⟩
  case round =>
    obtain ⟨n, hn, rfl, rfl, hJ, hR⟩ := hrel
    cases n with
    | zero =>
      have HJ := hideP hJ
      clear hJ
      gi_wp2
      go_end0
      exact ⟨⟨_, rfl⟩, .inl HJ.out⟩
    | succ i =>
      have hi : ((i + 1 : Nat) : Int) - 1 = (i : Int) := by omega
      rw [hi]
      have hcell : wr.cell? ⟨B, i / 64, none⟩ = some (.int .u64 (limb k (i / 64))) := by
        have h4 : i / 64 < 4 := by omega
        refine blk_cell hR.out ?_
        match i / 64, h4 with
        | 0, _ => rfl
        | 1, _ => rfl
        | 2, _ => rfl
        | 3, _ => rfl
      have hge : (0 : Int) ≤ (i : Int) := by omega
      have hw1 : wrap64 ((i : Int) / 64) = ((i / 64 : Nat) : Int) := by unfold wrap64; omega
      have hw3 : IntKind.i64.wrap ((i : Int) - 1) = (i : Int) - 1 := by rw [IntKind.wrap_i64]; omega
      have hix : ((i / 64 : Nat) : Int) < 4 := by omega
      have hset : (Int.tmod ((limb k (i / 64) : Int) / 2 ^ (i % 64)) 2 == (1 : Int)) = decide (k / 2 ^ i % 2 = 1) := by
        have e : ((limb k (i / 64) : Int) / 2 ^ (i % 64)) = ((limb k (i / 64) / 2 ^ (i % 64) : Nat) : Int) := by simp
        rw [e, Int.tmod_eq_emod_of_nonneg (Int.natCast_nonneg _), ← limb_bit9, Bool.eq_iff_iff, beq_iff_eq, decide_eq_true_eq]
        omega
      have HN : Hid (i ≤ 256) := Nat.le_of_succ_le hn
      have HMJ : Hid (i + 1 ≤ 256) := hn
      have HTB := hideP (fun h : bl k ≤ i + 1 => top_bit (n := i) (Nat.lt_of_lt_of_le (bl_lt k) (Nat.pow_le_pow_right (by decide) h)))
      have HEX : Hid (((i : Int) - 1) = ((i : Nat) : Int) - 1) := rfl
      generalize limb k (i / 64) = x at *
      generalize hqq : i / 64 = q at *
      have HQQ := hideP hqq
      clear hqq hn
      rcases Nat.lt_or_ge i (bl k) with hc | hc
      · have hyy := HY.out (bl k - (i + 1)) wr (by omega) hJ
        have hbq : bitq k (bl k - (i + 1)) = decide (k / 2 ^ i % 2 = 1) := by unfold bitq; rw [show bl k - 1 - (bl k - (i + 1)) = i by omega]
        rw [hbq] at hyy
        obtain ⟨fn, tmps, assign, body, hy, hRd⟩ := hyy
        have HC := hideP hc
        have H1 : Hid (decide (i < bl k) = true) := decide_eq_true hc
        have H2 : Hid (bl k - (i + 1) + 1 = bl k - i) := (by omega : bl k - (i + 1) + 1 = bl k - i)
        have hb2 : (decide (i + 1 < bl k) = true) ∨ (decide (i + 1 < bl k) = false ∧ decide (k / 2 ^ i % 2 = 1) = true) := by
          rcases Nat.lt_or_ge (i + 1) (bl k) with h | h
          · exact .inl (decide_eq_true h)
          · exact .inr ⟨decide_eq_false (by omega), decide_eq_true ((HTB.out h).2 hc)⟩
        clear HTB hbq hJ hc
        generalize decide (k / 2 ^ i % 2 = 1) = bb at *
        generalize decide (i + 1 < bl k) = bg at *
        have fin : ∀ (e : Ending) (W3 : World), ((e = .returned (.bool true) ∧ J (bl k - (i + 1) + 1) W3 ∧ KpK B k wr W3) ∨ (e = .returned (.bool false) ∧ Jx W3)) → True := fun _ _ _ => trivial
        clear fin
        rcases hb2 with rfl | ⟨rfl, rfl⟩
        · gi_wp2
          refine hRd.mono ?_
          rintro e W3 (⟨rfl, hJ3, hk3⟩ | ⟨rfl, hJx3⟩)
          · have HR3 := hideP (hk3 hR.out)
            have HJ3 := hideP hJ3
            clear hJ3 hk3 hRd hcell
            gi_wp2
            exact ⟨⟨i, HN.out, by rw [H1.out], rfl, by rw [← H2.out]; exact HJ3.out, HR3⟩, by simp [intOf]⟩
          · gi_wp2
            refine bodyPost_ret (results_none rfl _ _ _) rfl ?_
            exact ⟨⟨_, rfl⟩, .inr hJx3⟩
        · gi_wp2
          refine hRd.mono ?_
          rintro e W3 (⟨rfl, hJ3, hk3⟩ | ⟨rfl, hJx3⟩)
          · have HR3 := hideP (hk3 hR.out)
            have HJ3 := hideP hJ3
            clear hJ3 hk3 hRd hcell
            gi_wp2
            exact ⟨⟨i, HN.out, by rw [H1.out], rfl, by rw [← H2.out]; exact HJ3.out, HR3⟩, by simp [intOf]⟩
          · gi_wp2
            refine bodyPost_ret (results_none rfl _ _ _) rfl ?_
            exact ⟨⟨_, rfl⟩, .inr hJx3⟩
      · have h1 : decide (i + 1 < bl k) = false := decide_eq_false (by omega)
        have h2 : decide (k / 2 ^ i % 2 = 1) = false := decide_eq_false (fun h => by have := (HTB.out (by omega)).1 h; omega)
        have H1 : Hid (decide (i < bl k) = false) := decide_eq_false (by omega)
        have H2 : Hid (bl k - (i + 1) = bl k - i) := (by omega : bl k - (i + 1) = bl k - i)
        have HJ := hideP hJ
        rw [h2] at hset
        rw [h1]
        clear h1 h2 HTB hJ hc
        gi_wp2
        refine ⟨fun f h => (by cases h), ?_⟩
        gi_wp2
        exact ⟨⟨i, HN.out, by rw [H1.out], rfl, by rw [← H2.out]; exact HJ.out, hR⟩, by simp [intOf]⟩

/-- The iterator over a word's bits. -/
theorem bits_gives (m : Nat) (hm : 1 ≤ m) (B k : Nat) (hk : k < 2 ^ 256) (w : World) (hr : RowK B k w) :
    Gives m Tryz.prog 251 #[.pointer (some ⟨B, 0, none⟩)] (fun q => #[.bool (bitq k q)]) (bl k) (KpK B k) w := by
  intro l J Jx W hW _ _ hY h0
  exact bits1_any m hm l B k hk J Jx hY W (below_other hW hr) h0

set_option maxHeartbeats 1000000 in
set_option maxRecDepth 100000 in
theorem bits_any (k : Nat) (w : World) : Calls Tryz.prog 229 #[.agg (W4.cs (limb k))] w fun e w' => e = .returned (.func (.func 251) #[] #[.pointer (some ⟨w.heap.size, 0, none⟩)]) ∧ w' = w.alloc (.cells (W4.cs (limb k)) 65) := by
  rw [show W4.cs (limb k) = #[.int .u64 (limb k 0), .int .u64 (limb k 1), .int .u64 (limb k 2), .int .u64 (limb k 3)] from rfl]
  go_enter Tryz.func229, Tryz.ntmps229
  go_wp2
  go_ret
  exact ⟨rfl, rfl⟩

end Go.Proofs.YtppijhcfodccfaaGreat

namespace Go.Proofs.YtppijhcfodccfaaGreat.P4
open Go.RowKit Go.Shelf

abbrev T3 := K × K × K

noncomputable def scS (m : Nat) (s : T3) : Array Value := sc m s.1 s.2.1 s.2.2

def red (m : Nat) (s : T3) : T3 := (rest m s.1, rest m s.2.1, rest m s.2.2)

theorem scS_red (m : Nat) (s : T3) : scS m (red m s) = scS m s := by
  unfold scS red
  rw [sc_eq, sc_eq, pl_eq, pl_eq, ev_rest, ev_rest, ev_rest]

/-- A point and itself. -/
def dblS (m : Nat) (s : T3) : T3 :=
  let x := s.1
  let y := s.2.1
  let z := s.2.2
  let sq := kmul m y y
  let t1 := kmul m x sq
  let t2 := kadd m t1 t1
  let mid := kadd m t2 t2
  let sl0 := kmul m x x
  let sl := kadd m sl0 (kadd m sl0 sl0)
  let X := ksub m (kmul m sl sl) (kadd m mid mid)
  let q1 := kmul m sq sq
  let q2 := kadd m q1 q1
  let q3 := kadd m q2 q2
  let Y := ksub m (kmul m sl (ksub m mid X)) (kadd m q3 q3)
  (X, Y, kadd m (kmul m y z) (kmul m y z))

/-- Two points that are not the same. -/
def addS (m : Nat) (s : T3) (q : K × K) : T3 :=
  let x := s.1
  let y := s.2.1
  let z := s.2.2
  let sq := kmul m z z
  let X := kmul m q.1 sq
  let Y := kmul m q.2 (kmul m sq z)
  let across := ksub m X x
  let up := ksub m Y y
  let sq2 := kmul m across across
  let cube := kmul m sq2 across
  let mid := kmul m x sq2
  let X3 := ksub m (ksub m (kmul m up up) cube) (kadd m mid mid)
  let Y3 := ksub m (kmul m up (ksub m mid X3)) (kmul m y cube)
  (X3, Y3, kmul m z across)

/-- A scaled point and a place. -/
def plusS (m : Nat) (s : T3) (q : K × K) : T3 :=
  if Like m s.2.2 k0 then (q.1, q.2, k1)
  else if Like m (kmul m q.1 (kmul m s.2.2 s.2.2)) s.1 ∧ Like m (kmul m q.2 (kmul m (kmul m s.2.2 s.2.2) s.2.2)) s.2.1 then dblS m s
  else addS m s q

theorem double_S {w : World} {g p m : Nat} {b : K} (hG : GAt w g p m b) (s : T3) : Calls Tryz.prog 230 #[.pointer (some ⟨g, 0, none⟩), .agg (scS m s)] w fun e w' => e = .returned (.agg (scS m (dblS m s))) ∧ Below w.heap.size w w' :=
  double_any hG s.1 s.2.1 s.2.2

theorem plus_S {w : World} {g p m : Nat} {b : K} (hG : GAt w g p m b) (s : T3) (q : K × K) : Calls Tryz.prog 180 #[.pointer (some ⟨g, 0, none⟩), .agg (scS m s), .agg (pl m q.1 q.2)] w fun e w' => e = .returned (.agg (scS m (plusS m s q))) ∧ Below w.heap.size w w' := by
  unfold plusS
  by_cases hz : Like m s.2.2 k0
  · rw [if_pos hz]
    exact plus_zero hG s.1 s.2.1 s.2.2 q.1 q.2 hz
  · rw [if_neg hz]
    by_cases hq : Like m (kmul m q.1 (kmul m s.2.2 s.2.2)) s.1 ∧ Like m (kmul m q.2 (kmul m (kmul m s.2.2 s.2.2) s.2.2)) s.2.1
    · rw [if_pos hq]
      exact plus_same hG s.1 s.2.1 s.2.2 q.1 q.2 hz hq
    · rw [if_neg hq]
      exact plus_add hG s.1 s.2.1 s.2.2 q.1 q.2 hz hq

/-- One bit more. -/
def stepS (m : Nat) (q : K × K) (bit : Bool) (s : T3) : T3 := red m (if bit = true then plusS m (red m (dblS m s)) q else dblS m s)

/-- A point so many times, by the bits of k: behind j bits. -/
def timesJ (m : Nat) (q : K × K) (k : Nat) : Nat → T3
  | 0 => (k1, k1, k0)
  | j + 1 => stepS m q (bitq k j) (timesJ m q k j)

def timesS (m : Nat) (q : K × K) (k : Nat) : T3 := timesJ m q k (bl k)

end Go.Proofs.YtppijhcfodccfaaGreat.P4

namespace Go.Proofs.YtppijhcfodccfaaGreat.P4
open Go.RowKit Go.Shelf

set_option maxHeartbeats 4000000 in
set_option maxRecDepth 100000 in
theorem at_any {w : World} {g p m : Nat} {b : K} (hG : GAt w g p m b) (x y : K) (i : Bool) (hx : Fits x) (hy : Fits y) : Calls Tryz.prog 182 #[.pointer (some ⟨g, 0, none⟩), .agg (pt x y i)] w fun e w' => e = .returned (.agg (pl m x y)) ∧ Below w.heap.size w w' := by
  have hg := hG.glt
  have hp := hG.plt
  have HG9 := hideP hG
  clear hG
  go_enter Tryz.func182, Tryz.ntmps182
  refine wp_seqH (fun K0 HK0 => ?_)
  go_wp2_with fail
  refine HK0.out _ _ ?_
  clear HK0 K0
  refine at_world (fun W0 hW0 => ?_)
  have hb0 : W0.heap[w.heap.size]? = some (.cells (pt (x) (y) (i)) 125 (0, 0)) := by
    rw [hW0]
    exact ((heap_old _ _ (by simp <;> omega)).trans (heap_new _ _))
  have hbr : ∃ C : Array Value, W0.heap[w.heap.size + 1]? = some (.cells C 262 (0, 0)) ∧ C.size = 8 := by
    rw [hW0]
    exact ⟨_, heap_new1 _ _ _, rfl⟩
  have hbw : Below w.heap.size w W0 := by
    rw [hW0]
    repeat first | exact Below.refl _ _ | (refine Below.alloc ?_ (by simp <;> omega) _)
  clear hW0
  have HG := hideP (HG9.out.below hbw)
  clear HG9
  have HBW := hideP hbw
  clear hbw
  generalize hN : w.heap.size = N at *
  clear hN
  generalize hB1 : N + 1 = B1 at *
  have o1 : N < B1 := by omega
  clear hB1
  have H0 := hideP hb0
  clear hb0
  obtain ⟨Cr, hbr, s_B1⟩ := hbr
  have Hr := hideP hbr
  clear hbr
  refine wp_seqH (fun K1 HK1 => ?_)
  refine wp_region_heldS (S := fun V => KQ W0 B1 8 262 V) (by kernel_rfl) (KQ.init Hr.out s_B1) (fun hS => ?_)
  refine wpAnyH_takeL (i := 0) (v := ?_) rfl (by kernel_rfl) (by kernel_rfl) (by kernel_rfl) (fun _ _ _ h => h) (Or.inl ⟨by kernel_rfl, ?_⟩) hS ?_
  rotate_left
  · intro V hV
    go_simp
    (try with_reducible rfl)
  simp only [put_list, List.set_cons_succ, List.set_cons_zero]
  refine wpAnyH_takeL (i := 1) (v := ?_) rfl (by kernel_rfl) (by kernel_rfl) (by kernel_rfl) (fun _ _ _ h => h) (Or.inl ⟨by kernel_rfl, ?_⟩) hS ?_
  rotate_left
  · intro V hV
    go_simp
    (try with_reducible rfl)
  simp only [put_list, List.set_cons_succ, List.set_cons_zero]
  refine wpAnyH_takeL (i := 2) (v := ?_) rfl (by kernel_rfl) (by kernel_rfl) (by kernel_rfl) (fun _ _ _ h => h) (Or.inl ⟨by kernel_rfl, ?_⟩) hS ?_
  rotate_left
  · intro V hV
    go_simp
    (try with_reducible rfl)
  simp only [put_list, List.set_cons_succ, List.set_cons_zero]
  refine wpAnyH_takeL (i := 3) (v := ifv p) rfl (by kernel_rfl) (by kernel_rfl) (by kernel_rfl) (fun _ _ _ h => h) (Or.inl ⟨by kernel_rfl, ?_⟩) hS ?_
  · intro V hV
    have hf := (HG.out.kq hV (by omega) (by omega)).fld
    go_simp
    (try with_reducible rfl)
  simp only [put_list, List.set_cons_succ, List.set_cons_zero]
  refine wpAnyH_takeL (i := 4) (v := ?_) rfl (by kernel_rfl) (by kernel_rfl) (by kernel_rfl) (fun _ _ _ h => h) (Or.inl ⟨by kernel_rfl, ?_⟩) hS ?_
  rotate_left
  · intro V hV
    go_simp
    (try with_reducible rfl)
  simp only [put_list, List.set_cons_succ, List.set_cons_zero]
  refine wpAnyH_takeL (i := 5) (v := .agg (nv (x))) rfl (by kernel_rfl) (by kernel_rfl) (by kernel_rfl) (fun _ _ _ h => h) (yields_loadC (by kernel_rfl) 32 _ rfl (N) (0) rfl (nv (x)) _ (fun V hV => pt_x (hV.box H0.out (by omega))) underE rfl (infoE (nv_size _))) hS ?_
  simp only [put_list, List.set_cons_succ, List.set_cons_zero]
  refine wpAnyH_takeL (i := 7) (v := ?_) rfl (by kernel_rfl) (by kernel_rfl) (by kernel_rfl) (fun _ _ _ h => h) (Or.inl ⟨by kernel_rfl, ?_⟩) hS ?_
  rotate_left
  · intro V hV
    go_simp
    (try with_reducible rfl)
  simp only [put_list, List.set_cons_succ, List.set_cons_zero]
  refine wpAnyH_takeL (i := 8) (v := ?_) rfl (by kernel_rfl) (by kernel_rfl) (by kernel_rfl) (fun _ _ _ h => h) (Or.inl ⟨by kernel_rfl, ?_⟩) hS ?_
  rotate_left
  · intro V hV
    go_simp
    (try with_reducible rfl)
  simp only [put_list, List.set_cons_succ, List.set_cons_zero]
  refine wpAnyH_takeL (i := 9) (v := ?_) rfl (by kernel_rfl) (by kernel_rfl) (by kernel_rfl) (fun _ _ _ h => h) (Or.inl ⟨by kernel_rfl, ?_⟩) hS ?_
  rotate_left
  · intro V hV
    go_simp
    (try with_reducible rfl)
  simp only [put_list, List.set_cons_succ, List.set_cons_zero]
  refine wpAnyH_takeL (i := 10) (v := ifv p) rfl (by kernel_rfl) (by kernel_rfl) (by kernel_rfl) (fun _ _ _ h => h) (Or.inl ⟨by kernel_rfl, ?_⟩) hS ?_
  · intro V hV
    have hf := (HG.out.kq hV (by omega) (by omega)).fld
    go_simp
    (try with_reducible rfl)
  simp only [put_list, List.set_cons_succ, List.set_cons_zero]
  refine wpAnyH_takeL (i := 11) (v := ?_) rfl (by kernel_rfl) (by kernel_rfl) (by kernel_rfl) (fun _ _ _ h => h) (Or.inl ⟨by kernel_rfl, ?_⟩) hS ?_
  rotate_left
  · intro V hV
    go_simp
    (try with_reducible rfl)
  simp only [put_list, List.set_cons_succ, List.set_cons_zero]
  refine wpAnyH_takeL (i := 12) (v := .agg (nv (y))) rfl (by kernel_rfl) (by kernel_rfl) (by kernel_rfl) (fun _ _ _ h => h) (yields_loadC (by kernel_rfl) 32 _ rfl (N) (4) rfl (nv (y)) _ (fun V hV => pt_y (hV.box H0.out (by omega))) underE rfl (infoE (nv_size _))) hS ?_
  simp only [put_list, List.set_cons_succ, List.set_cons_zero]
  refine wpAnyH_ready (rs := [6]) (by kernel_rfl) (by simp) (AllReadyH.cons rfl (fun K hK => ?_) AllReadyH.nil)
  refine ite_wp (by kernel_rfl) ?_
  refine wp_invoke1D (.tmp 8) (.tmp 10) "In" _ 11 rfl rfl rfl rfl (cm_In p _ _) (c_In ((HG.out.kq hS (by omega) (by omega)).ok) (x) hx) ?_
  intro x4 hbc
  refine hK.out _ _ (hS.call hbc) (fun hS => ?_)
  clear hK K hbc
  simp only [List.set_cons_succ, List.set_cons_zero]
  refine wpAnyH_ready (rs := [13]) (by kernel_rfl) (by simp) (AllReadyH.cons rfl (fun K hK => ?_) AllReadyH.nil)
  refine ite_wp (by kernel_rfl) ?_
  refine wp_invoke1D (.tmp 15) (.tmp 17) "In" _ 18 rfl rfl rfl rfl (cm_In p _ _) (c_In ((HG.out.kq hS (by omega) (by omega)).ok) (y) hy) ?_
  intro x5 hbc
  refine hK.out _ _ (hS.call hbc) (fun hS => ?_)
  clear hK K hbc
  simp only [List.set_cons_succ, List.set_cons_zero]
  refine wpAnyH_takeL (i := 14) (v := .agg (pl m (x) (y))) rfl (by kernel_rfl) (by kernel_rfl) (by kernel_rfl) (fun _ _ _ h => h) (yields_build2 (by kernel_rfl) 262 (.tmp 11) (.tmp 18) rfl rfl rfl (bd_pl _ _ _)) hS ?_
  simp only [put_list, List.set_cons_succ, List.set_cons_zero]
  refine wpAnyH_ready (rs := [15]) (by kernel_rfl) (by simp) (AllReadyH.cons rfl (fun K hK => ?_) AllReadyH.nil)
  refine ite_wp (by kernel_rfl) ?_
  refine wp_store_midN 262 (.tmp 4) (.tmp 19) rfl rfl (B1) 0 (pl m (x) (y)) rfl rfl (hS.there (pl_size _ _ _)) (infoPl (pl_size _ _ _)) (pl_one _ _ _) ?_
  have g1 := hS.put (C := pl m (x) (y)) (pl_size _ _ _)
  have hS9 := hS.store (C := pl m (x) (y)) (pl_size _ _ _)
  clear hS
  generalize World.setCells _ (B1) 0 (pl m (x) (y)).toList = x6 at g1 hS9 ⊢
  refine hK.out _ _ hS9 (fun hS => ?_)
  clear hK K hS9
  refine wpAnyH_done (by kernel_rfl) ?_ _
  (try simp only [put_none])
  refine HK1.out _ _ ?_
  clear HK1 K1
  refine wp_ret ?_
  exact bodyPost_ret_by (results_cell rfl rfl (loadC _ B1 0 262 (pl m (x) (y)) _ (rangeOf g1) underPl rfl (infoPl (pl_size _ _ _)))) rfl ⟨rfl, HBW.out.trans (hS.below.mono (by omega))⟩

end Go.Proofs.YtppijhcfodccfaaGreat.P4

namespace Go.Proofs.YtppijhcfodccfaaGreat.P4
open Go.RowKit Go.Shelf

set_option maxHeartbeats 4000000 in
set_option maxRecDepth 100000 in
theorem nowhere_any {w : World} {g p m : Nat} {b : K} (hG : GAt w g p m b) : Calls Tryz.prog 228 #[.pointer (some ⟨g, 0, none⟩)] w fun e w' => e = .returned (.agg (sc m k1 k1 k0)) ∧ Below w.heap.size w w' := by
  have hg := hG.glt
  have hp := hG.plt
  have HG9 := hideP hG
  clear hG
  go_enter Tryz.func228, Tryz.ntmps228
  refine wp_seqH (fun K0 HK0 => ?_)
  go_wp2_with fail
  refine HK0.out _ _ ?_
  clear HK0 K0
  refine at_world (fun W0 hW0 => ?_)
  have hbr : ∃ C : Array Value, W0.heap[w.heap.size]? = some (.cells C 264 (0, 0)) ∧ C.size = 12 := by
    rw [hW0]
    exact ⟨_, heap_new _ _, rfl⟩
  have hbw : Below w.heap.size w W0 := by
    rw [hW0]
    repeat first | exact Below.refl _ _ | (refine Below.alloc ?_ (by simp <;> omega) _)
  clear hW0
  have HG := hideP (HG9.out.below hbw)
  clear HG9
  have HBW := hideP hbw
  clear hbw
  generalize hN : w.heap.size = N at *
  clear hN
  obtain ⟨Cr, hbr, s_N⟩ := hbr
  have Hr := hideP hbr
  clear hbr
  refine wp_seqH (fun K1 HK1 => ?_)
  refine wp_region_heldS (S := fun V => KQ W0 N 12 264 V) (by kernel_rfl) (KQ.init Hr.out s_N) (fun hS => ?_)
  refine wpAnyH_takeL (i := 0) (v := ?_) rfl (by kernel_rfl) (by kernel_rfl) (by kernel_rfl) (fun _ _ _ h => h) (Or.inl ⟨by kernel_rfl, ?_⟩) hS ?_
  rotate_left
  · intro V hV
    go_simp
    (try with_reducible rfl)
  simp only [put_list, List.set_cons_succ, List.set_cons_zero]
  refine wpAnyH_takeL (i := 1) (v := ?_) rfl (by kernel_rfl) (by kernel_rfl) (by kernel_rfl) (fun _ _ _ h => h) (Or.inl ⟨by kernel_rfl, ?_⟩) hS ?_
  rotate_left
  · intro V hV
    go_simp
    (try with_reducible rfl)
  simp only [put_list, List.set_cons_succ, List.set_cons_zero]
  refine wpAnyH_takeL (i := 2) (v := ?_) rfl (by kernel_rfl) (by kernel_rfl) (by kernel_rfl) (fun _ _ _ h => h) (Or.inl ⟨by kernel_rfl, ?_⟩) hS ?_
  rotate_left
  · intro V hV
    go_simp
    (try with_reducible rfl)
  simp only [put_list, List.set_cons_succ, List.set_cons_zero]
  refine wpAnyH_takeL (i := 3) (v := .agg (ev m (k1))) rfl (by kernel_rfl) (by kernel_rfl) (by kernel_rfl) (fun _ _ _ h => h) (yields_loadC (by kernel_rfl) 32 _ rfl (g) (5) rfl (ev m (k1)) _ (fun V hV => (HG.out.kq hV (by omega) (by omega)).one) underE rfl (infoE (ev_size _ _))) hS ?_
  simp only [put_list, List.set_cons_succ, List.set_cons_zero]
  refine wpAnyH_takeL (i := 4) (v := ?_) rfl (by kernel_rfl) (by kernel_rfl) (by kernel_rfl) (fun _ _ _ h => h) (Or.inl ⟨by kernel_rfl, ?_⟩) hS ?_
  rotate_left
  · intro V hV
    go_simp
    (try with_reducible rfl)
  simp only [put_list, List.set_cons_succ, List.set_cons_zero]
  refine wpAnyH_takeL (i := 5) (v := ?_) rfl (by kernel_rfl) (by kernel_rfl) (by kernel_rfl) (fun _ _ _ h => h) (Or.inl ⟨by kernel_rfl, ?_⟩) hS ?_
  rotate_left
  · intro V hV
    go_simp
    (try with_reducible rfl)
  simp only [put_list, List.set_cons_succ, List.set_cons_zero]
  refine wpAnyH_takeL (i := 6) (v := ?_) rfl (by kernel_rfl) (by kernel_rfl) (by kernel_rfl) (fun _ _ _ h => h) (Or.inl ⟨by kernel_rfl, ?_⟩) hS ?_
  rotate_left
  · intro V hV
    go_simp
    (try with_reducible rfl)
  simp only [put_list, List.set_cons_succ, List.set_cons_zero]
  refine wpAnyH_takeL (i := 7) (v := .agg (ev m (k1))) rfl (by kernel_rfl) (by kernel_rfl) (by kernel_rfl) (fun _ _ _ h => h) (yields_loadC (by kernel_rfl) 32 _ rfl (g) (5) rfl (ev m (k1)) _ (fun V hV => (HG.out.kq hV (by omega) (by omega)).one) underE rfl (infoE (ev_size _ _))) hS ?_
  simp only [put_list, List.set_cons_succ, List.set_cons_zero]
  refine wpAnyH_takeL (i := 8) (v := .agg (pl m (k1) (k1))) rfl (by kernel_rfl) (by kernel_rfl) (by kernel_rfl) (fun _ _ _ h => h) (yields_build2 (by kernel_rfl) 262 (.tmp 6) (.tmp 10) rfl rfl rfl (bd_pl _ _ _)) hS ?_
  simp only [put_list, List.set_cons_succ, List.set_cons_zero]
  refine wpAnyH_takeL (i := 9) (v := ?_) rfl (by kernel_rfl) (by kernel_rfl) (by kernel_rfl) (fun _ _ _ h => h) (Or.inl ⟨by kernel_rfl, ?_⟩) hS ?_
  rotate_left
  · intro V hV
    go_simp
    (try with_reducible rfl)
  simp only [put_list, List.set_cons_succ, List.set_cons_zero]
  refine wpAnyH_takeL (i := 10) (v := ?_) rfl (by kernel_rfl) (by kernel_rfl) (by kernel_rfl) (fun _ _ _ h => h) (Or.inl ⟨by kernel_rfl, ?_⟩) hS ?_
  rotate_left
  · intro V hV
    go_simp
    (try with_reducible rfl)
  simp only [put_list, List.set_cons_succ, List.set_cons_zero]
  refine wpAnyH_takeL (i := 11) (v := ?_) rfl (by kernel_rfl) (by kernel_rfl) (by kernel_rfl) (fun _ _ _ h => h) (Or.inl ⟨by kernel_rfl, ?_⟩) hS ?_
  rotate_left
  · intro V hV
    go_simp
    (try with_reducible rfl)
  simp only [put_list, List.set_cons_succ, List.set_cons_zero]
  refine wpAnyH_takeL (i := 12) (v := .agg (ev m (k0))) rfl (by kernel_rfl) (by kernel_rfl) (by kernel_rfl) (fun _ _ _ h => h) (yields_loadC (by kernel_rfl) 32 _ rfl (g) (1) rfl (ev m (k0)) _ (fun V hV => (HG.out.kq hV (by omega) (by omega)).zero) underE rfl (infoE (ev_size _ _))) hS ?_
  simp only [put_list, List.set_cons_succ, List.set_cons_zero]
  refine wpAnyH_takeL (i := 13) (v := .agg (sc m (k1) (k1) (k0))) rfl (by kernel_rfl) (by kernel_rfl) (by kernel_rfl) (fun _ _ _ h => h) (yields_build2 (by kernel_rfl) 264 (.tmp 11) (.tmp 15) rfl rfl rfl (bd_sc _ _ _ _)) hS ?_
  simp only [put_list, List.set_cons_succ, List.set_cons_zero]
  refine wpAnyH_ready (rs := [14]) (by kernel_rfl) (by simp) (AllReadyH.cons rfl (fun K hK => ?_) AllReadyH.nil)
  refine ite_wp (by kernel_rfl) ?_
  refine wp_store_midN 264 (.tmp 2) (.tmp 16) rfl rfl (N) 0 (sc m (k1) (k1) (k0)) rfl rfl (hS.there (sc_size _ _ _ _)) (infoSc (sc_size _ _ _ _)) (sc_one _ _ _ _) ?_
  have g1 := hS.put (C := sc m (k1) (k1) (k0)) (sc_size _ _ _ _)
  have hS9 := hS.store (C := sc m (k1) (k1) (k0)) (sc_size _ _ _ _)
  clear hS
  generalize World.setCells _ (N) 0 (sc m (k1) (k1) (k0)).toList = x3 at g1 hS9 ⊢
  refine hK.out _ _ hS9 (fun hS => ?_)
  clear hK K hS9
  refine wpAnyH_done (by kernel_rfl) ?_ _
  (try simp only [put_none])
  refine HK1.out _ _ ?_
  clear HK1 K1
  refine wp_ret ?_
  exact bodyPost_ret_by (results_cell rfl rfl (loadC _ N 0 264 (sc m (k1) (k1) (k0)) _ (rangeOf g1) underSc rfl (infoSc (sc_size _ _ _ _)))) rfl ⟨rfl, HBW.out.trans (hS.below.mono (by omega))⟩

end Go.Proofs.YtppijhcfodccfaaGreat.P4

namespace Go.Proofs.YtppijhcfodccfaaGreat
open Go.RowKit Go.Shelf

/-- What an operation does in a round of a loop over a function, at the wide fence, is what it does elsewhere. -/
theorem upon_in {P : Program} {o : Oper} {a : Act} {next next' : Act → World → Prop} {Q : Exit → Act → World → Prop} {l n : Nat} (hn : ∀ a w, next a w → next' a w) (r : Result Next) (h : o.upon P a next Q r) :
    o.uponIn (Fence.wide.inRound l) n P a next' Q r := by
  cases r with
  | ok x w' =>
    cases x with
    | value v => exact hn _ _ h
    | skip => exact hn _ _ h
    | defer d => exact hn _ _ h
    | enter f args =>
      refine ⟨fun e => by simp [Fence.inRound, Fence.wide] at e, CallsIn.inRound l (callsIn_wide.2 (Calls.mono h ?_))⟩
      intro e w'' he
      cases e with
      | returned v => exact hn _ _ he
      | panicked chain => exact he
      | outgrown => exact he
    | row row args =>
      refine ⟨fun e => by simp [Fence.inRound, Fence.wide] at e, fun c cs _ => ?_⟩
      obtain ⟨v, w'', hv, hs⟩ := h c cs
      exact ⟨v, w'', hn _ _ hv, by rw [fenced_inRound]; exact stepsIn_wide.2 hs⟩
    | _ => exact absurd h (by simp [Oper.upon])
  | halt hh w' =>
    cases hh with
    | panic v => exact h
    | _ => exact absurd h (by simp [Oper.upon])

/-- No operation is a defer statement. -/
def plainOps (ops : List Oper) : Bool := ops.all fun o => match o.op with | .defer _ => false | _ => true

theorem list_in {P : Program} {ops : Array Oper} {Q : Exit → Act → World → Prop} {l n : Nat} (hlo : ¬ LetsOut Q) :
    ∀ (rest : List Oper) (a : Act) (w : World), plainOps rest = true → wpList P ops Q rest a w → wpListIn (Fence.wide.inRound l) n P ops Q rest a w
  | [], _, _, _, h => h
  | o :: rest, a, w, hp, h => by
    unfold plainOps at hp
    rw [List.all_cons, Bool.and_eq_true] at hp
    unfold wpList at h
    unfold wpListIn
    split at h
    · rename_i hw
      rw [if_pos hw]
      refine ⟨fun _ _ => trivial, ?_⟩
      rw [show (Fence.wide.inRound l).round = some l from rfl, Oper.semAt_some l a.eval o (fun c e => by have := hp.1; rw [e] at this; simp at this)]
      rcases h with h | h
      · exact upon_in (fun a w h => list_in hlo rest a w hp.2 h) _ h
      · exact absurd h.2 hlo
    · rename_i hw
      rw [if_neg hw]
      exact ⟨fun _ _ => trivial, list_in hlo rest _ w hp.2 h⟩

/-- A region that keeps its order, in a round. -/
theorem regionIn_list {P : Program} {id : Nat} {ops : List Oper} {Q : Exit → Act → World → Prop} {l n : Nat} {a : Act} {w : World} (hlo : ¬ LetsOut Q) (hp : plainOps ops = true)
    (h : wpList P ops.toArray Q ops a w) : (Code.region id ops.toArray false).wpIn (Fence.wide.inRound l) n P Q a w :=
  wpIn_region_lit (list_in hlo _ _ _ hp h)

end Go.Proofs.YtppijhcfodccfaaGreat
