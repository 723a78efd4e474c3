/-
  Kids from the last to the first: the library's iterator.
-/
import Derived.Test.YtigebmidfddbcaaRlpMeansC07
import Derived.RangeFuncNested
import Derived.RangeFuncBound
import Derived.RangeFuncCalls
import Derived.RangeFuncLeaves
import Derived.RangeFuncBox
import Derived.Shelf.Abstract
import Derived.Shelf.RegionOpen
import Derived.OwnWalkIn
import Derived.TacticsInMore
import Derived.LoopNIn
import Derived.LoopIn
namespace Go.Proofs.Ytigebmidfddbcaa
open Go.RowKit

/-- Bytes laid over others from a place on. -/
def wrt (g : Nat → Nat) (p : Nat) (L : List Nat) : Nat → Nat := fun i => if p ≤ i ∧ i < p + L.length then L.getD (i - p) 0 else g i

theorem wrt_nil (g : Nat → Nat) (p : Nat) : wrt g p [] = g := by
  funext i
  unfold wrt
  rw [if_neg (by rw [List.length_nil]; omega)]

theorem wrt_cons (g : Nat → Nat) (p v : Nat) (L : List Nat) : (fun i => if i = p then v else wrt g (p + 1) L i) = wrt g p (v :: L) := by
  funext i
  unfold wrt
  by_cases h : i = p
  · subst h
    rw [if_pos rfl, if_pos ⟨Nat.le_refl _, by simp⟩, Nat.sub_self]
    rfl
  · rw [if_neg h]
    by_cases h2 : p + 1 ≤ i ∧ i < p + 1 + L.length
    · rw [if_pos h2, if_pos ⟨by omega, by simp; omega⟩, show i - p = (i - (p + 1)) + 1 by omega]
      rfl
    · rw [if_neg h2, if_neg (by simp; omega)]

theorem wrt_append (g : Nat → Nat) (p : Nat) (x y : List Nat) : wrt (wrt g (p + x.length) y) p x = wrt g p (x ++ y) := by
  funext i
  unfold wrt
  by_cases h1 : p ≤ i ∧ i < p + x.length
  · rw [if_pos h1, if_pos ⟨h1.1, by rw [List.length_append]; omega⟩, List.getD_eq_getElem?_getD, List.getD_eq_getElem?_getD, List.getElem?_append_left (by omega)]
  · rw [if_neg h1]
    by_cases h2 : p + x.length ≤ i ∧ i < p + x.length + y.length
    · rw [if_pos h2, if_pos ⟨by omega, by rw [List.length_append]; omega⟩, List.getD_eq_getElem?_getD, List.getD_eq_getElem?_getD, List.getElem?_append_right (by omega), show i - p - x.length = i - (p + x.length) by omega]
    · rw [if_neg h2, if_neg (by rw [List.length_append]; omega)]

/-- The i lowest bytes of a number, the highest first. -/
def lowd (k : Nat) : Nat → List Nat
  | 0 => []
  | i + 1 => (k / 256 ^ i % 256) :: lowd k i

theorem lowd_length (k : Nat) : ∀ i, (lowd k i).length = i
  | 0 => rfl
  | i + 1 => by unfold lowd; rw [List.length_cons, lowd_length k i]

/-- How many bytes a number has. -/
def NB (k : Nat) : Nat := (Lib.bitLen k + 7) / 8

theorem NB_le {k : Nat} (h : k < 18446744073709551616) : NB k ≤ 8 := by
  have := bitLen_le64 h
  unfold NB
  omega

theorem pow256 (i : Nat) : 256 ^ i = 2 ^ (8 * i) := by rw [Nat.pow_mul]

theorem NB_lt {k : Nat} (h : k < 18446744073709551616) : k < 256 ^ NB k := by
  rw [pow256]
  exact Nat.lt_of_lt_of_le (bitLen_upper (Lib.bitLen k) k (by simpa using h) (Nat.le_refl _)) (Nat.pow_le_pow_right (by decide) (by unfold NB; omega))

theorem NB_ge {k : Nat} (h : k < 18446744073709551616) (h0 : 0 < NB k) : 256 ^ (NB k - 1) ≤ k := by
  rw [pow256]
  have hl := bitLen_le64 h
  refine bitLen_lower (by unfold NB; omega) (by unfold NB at h0 ⊢; omega)

/-- What stands ahead of a payload of so many bytes. -/
def hdB (m k : Nat) : List Nat := if k ≤ 55 then [m + k] else (m + 55 + NB k) :: lowd k (NB k)

theorem hdB_length {m k : Nat} : (hdB m k).length = hsz k := by
  unfold hdB hsz
  by_cases h : k ≤ 55
  · rw [if_pos h, if_pos h]; rfl
  · rw [if_neg h, if_neg h, List.length_cons, lowd_length]
    unfold NB
    omega

set_option maxHeartbeats 4000000 in
set_option maxRecDepth 100000 in
theorem whead_any {P G n a m k : Nat} {g : Nat → Nat} (hm : m ≤ 192) (hk : k ≤ 9223372036854775807) (w : World) (h : WR w P G n (a + (hdB m k).length) g) :
    Calls Try.prog 71 #[.pointer (some ⟨P, 0, none⟩), .int .u8 m, .int .i64 k] w fun e w' => e = .returned (.tuple #[]) ∧ WR w' P G n a (wrt g a (hdB m k)) ∧ Fr P G w w' := by
  by_cases h55 : k ≤ 55
  · have hl : hdB m k = [m + k] := if_pos h55
    rw [hl] at h ⊢
    have cp := put_any (v := m + k) w h
    rw [← wrt_cons, wrt_nil]
    have CP := hideP cp
    have g1 : (k : Int) ≤ 55 := by omega
    have e1 : IntKind.u8.wrap ((k : Nat) : Int) = ((k : Nat) : Int) := by rw [IntKind.wrap_u8]; omega
    have e2 : IntKind.u8.wrap (((m : Nat) : Int) + ((k : Nat) : Int)) = ((m + k : Nat) : Int) := by rw [IntKind.wrap_u8]; omega
    clear hl cp h h55 hm hk
    generalize m + k = mk at *
    go_enter Try.func71, Try.ntmps71
    go_wp2_with fail
    refine CP.out.mono ?_
    rintro e w' ⟨rfl, h1, h2⟩
    have H1 := hideP h1
    have H2 := hideP h2
    clear h1 h2
    go_wp2_with fail
    refine bodyPost_ret (v := .tuple #[]) (by simp [results, Try.results71, go_sem]) rfl ⟨rfl, H1.out, H2.out⟩
  · have hl : hdB m k = (m + 55 + NB k) :: lowd k (NB k) := if_neg h55
    have h64 : k < 18446744073709551616 := by omega
    have hnb8 := NB_le h64
    have hlt := NB_lt h64
    rw [hl, List.length_cons, lowd_length] at h
    rw [hl]
    have g1 : ¬ (k : Int) ≤ 55 := by omega
    have e0 : IntKind.u8.wrap (((m : Nat) : Int) + 55) = ((m + 55 : Nat) : Int) := by rw [IntKind.wrap_u8]; omega
    have HH := hideP h
    have HLT := hideP hlt
    have H64 := hideP h64
    have HNB := hideP hnb8
    have HMM := hideP hm
    have HK1 := hideP hk
    clear h hl hlt hnb8 h64 h55 hm hk
    go_enter Try.func71, Try.ntmps71
    go_wp2_with fail
    rename_i Q' K hK
    have HKC := hideP hK
    clear hK
    go_loopw [1, 2] (fun mk q wr => ∃ (i : Nat), i ≤ NB k ∧ q = .int .i64 (k / 256 ^ i : Nat) ∧ mk = .int .u8 (m + 55 + i : Nat) ∧ WR wr P G n (a + 1 + (NB k - i)) (wrt g (a + 1 + (NB k - i)) (lowd k i)) ∧ Fr P G w wr) (fun _ q _ => (intOf q).toNat)
    case atStart => exact ⟨0, Nat.zero_le _, by simp, by simp, by rw [Nat.sub_zero, show a + 1 + NB k = a + (NB k + 1) by omega]; unfold lowd; rw [wrt_nil]; exact HH.out, Fr.refl _ _ _⟩
    case round =>
      obtain ⟨i, hi, rfl, rfl, hW, hF⟩ := hrel
      have HW := hideP hW
      have HF := hideP hF
      clear hW hF
      have h64 := H64.out
      have hqk : k / 256 ^ i ≤ k := Nat.div_le_self _ _
      have hnb8 := HNB.out
      have hm := HMM.out
      have hk1 := HK1.out
      by_cases hz : k / 256 ^ i = 0
      · have hii : i = NB k := by
          rcases Nat.lt_or_ge i (NB k) with hl | hl
          · have h1 := NB_ge h64 (by omega)
            have h2 : 256 ^ i ≤ 256 ^ (NB k - 1) := Nat.pow_le_pow_right (by decide) (by omega)
            have := Nat.div_pos (Nat.le_trans h2 h1) (Nat.pow_pos (by decide))
            omega
          · omega
        subst hii
        rw [hz]
        rw [Nat.sub_self, Nat.add_zero] at HW
        have cp := put_any (v := m + 55 + NB k) wr HW.out
        rw [wrt_cons] at cp
        have CP := hideP cp
        clear cp hz hqk h64 hnb8 hm hk1 hi
        generalize hmk : m + 55 + NB k = mk at *
        have HMK := hideP hmk
        clear hmk
        go_wp2_with fail
        refine HKC.out _ _ ?_
        go_wp2_with fail
        refine CP.out.mono ?_
        rintro e w' ⟨rfl, h1, h2⟩
        have H1 := hideP h1
        have H2 := hideP h2
        clear h1 h2
        go_wp2_with fail
        go_end0
        refine ⟨rfl, ?_, HF.out.trans H2.out⟩
        rw [HMK.out]
        exact H1.out
      · have hii : i < NB k := by
          rcases Nat.lt_or_ge i (NB k) with hl | hl
          · exact hl
          · obtain rfl : i = NB k := by omega
            exact absurd (Nat.div_eq_of_lt HLT.out) hz
        have hpos : a + 1 + (NB k - i) = a + 1 + (NB k - (i + 1)) + 1 := by omega
        have hww := HW.out
        rw [hpos] at hww
        have cp := put_any (v := k / 256 ^ i % 256) wr hww
        rw [wrt_cons] at cp
        have hlow : k / 256 ^ i % 256 :: lowd k i = lowd k (i + 1) := by rw [lowd]
        rw [hlow] at cp
        have CP := hideP cp
        have hdd : k / 256 ^ i / 256 = k / 256 ^ (i + 1) := by rw [Nat.div_div_eq_div_mul, Nat.pow_succ]
        have g2 : ((k / 256 ^ i : Nat) : Int) > 0 := Int.natCast_pos.2 (Nat.pos_of_ne_zero hz)
        have g2' : (0 : Int) < ((k / 256 ^ i : Nat) : Int) := Int.natCast_pos.2 (Nat.pos_of_ne_zero hz)
        have e1 : IntKind.u8.wrap ((k / 256 ^ i : Nat) : Int) = ((k / 256 ^ i % 256 : Nat) : Int) := by rw [IntKind.wrap_u8]; omega
        have e2 : IntKind.u8.wrap (((m + 55 + i : Nat) : Int) + 1) = ((m + 55 + (i + 1) : Nat) : Int) := by rw [IntKind.wrap_u8]; omega
        have e3 : ((k / 256 ^ i : Nat) : Int) / 256 = ((k / 256 ^ (i + 1) : Nat) : Int) := by rw [← hdd]; omega
        have hlt2 : k / 256 ^ (i + 1) < k / 256 ^ i := by rw [← hdd]; omega
        have HLT2 := hideP hlt2
        have HII := hideP hii
        clear cp hww hlow hdd hpos hii hz hqk h64 hnb8 hm hk1 hi hlt2
        generalize k / 256 ^ i % 256 = kb at *
        generalize hk0 : k / 256 ^ (i + 1) = k1 at *
        generalize k / 256 ^ i = ki at *
        generalize hm1 : m + 55 + (i + 1) = m1 at *
        generalize m + 55 + i = m0 at *
        have HK0 := hideP hk0
        have HM1 := hideP hm1
        clear hk0 hm1
        go_wp2_with fail
        refine CP.out.mono ?_
        rintro e w' ⟨rfl, h1, h2⟩
        have H1 := hideP h1
        have H2 := hideP h2
        clear h1 h2
        go_wp2_with fail
        exact ⟨⟨i + 1, HII.out, by rw [HK0.out], by rw [HM1.out], H1.out, HF.out.trans H2.out⟩, by simp [intOf]; exact HLT2.out⟩

end Go.Proofs.Ytigebmidfddbcaa

namespace Go.Proofs.Ytigebmidfddbcaa
open Go.RowKit Go.Shelf

attribute [local go_sem] Oper.semAt_some

/-- The words of items in a row. -/
structure KW where
  l : Nat → Int
  a : Nat → Option Addr
  n : Nat → Nat
  c : Nat → Nat
  a' : Nat → Option Addr
  n' : Nat → Nat
  c' : Nat → Nat

def KW.val (K : KW) (j : Nat) : Value := .agg #[.int .i64 (K.l j), .slice (K.a j) (K.n j) (K.c j), .slice (K.a' j) (K.n' j) (K.c' j)]

/-- The row as the iterator reads it. -/
def RowB (Bn g n c : Nat) (K : KW) (W : World) : Prop :=
  W.cell? ⟨Bn, 0, none⟩ = some (.slice (some ⟨g, 0, none⟩) n c) ∧ ∀ j, j < n → W.cell? ⟨g, j * 3, none⟩ = some (.int .i64 (K.l j)) ∧ W.cell? ⟨g, j * 3 + 1, none⟩ = some (.slice (K.a j) (K.n j) (K.c j)) ∧ W.cell? ⟨g, j * 3 + 2, none⟩ = some (.slice (K.a' j) (K.n' j) (K.c' j))

def KpB (Bn g n c : Nat) (K : KW) (W W' : World) : Prop := RowB Bn g n c K W → RowB Bn g n c K W'

set_option maxHeartbeats 2000000 in
set_option maxRecDepth 100000 in
theorem back1_nil (m : Nat) (l Bn c : Nat) (ao : Option Addr) (W : World) (hBn : W.cell? ⟨Bn, 0, none⟩ = some (.slice ao 0 c)) :
    CallsIn Fence.wide m Try.prog 80 #[.func (.yield l) #[] #[], .pointer (some ⟨Bn, 0, none⟩)] W fun e W' => (∃ v, e = .returned v) ∧ W' = W := by
  refine callsIn_of_wp Try.func80 rfl trivial ?_ rfl
  simp only [Try.ntmps80, List.size_toArray, List.length_cons, List.length_nil, Nat.reduceAdd, Nat.reduceSub, Array.replicate_succ, Array.replicate_zero, List.push_toArray, List.append_toArray, List.nil_append, List.cons_append]
  gi_wp2
  gi_loopw [3] (fun i wr => i = .int .i64 (-1) ∧ wr = W) (fun _ _ => 0)
  case atStart => exact ⟨rfl, rfl⟩
  case round =>
    obtain ⟨rfl, rfl⟩ := hrel
    gi_wp2
    go_end0
    exact ⟨⟨_, rfl⟩, rfl⟩

set_option maxHeartbeats 2000000 in
set_option maxRecDepth 100000 in
theorem back_in (m : Nat) (ao : Option Addr) (n c : Nat) (w : World) :
    CallsIn Fence.wide m Try.prog 70 #[.slice ao n c] w fun e w' => e = .returned (.func (.func 80) #[] #[.pointer (some ⟨w.heap.size, 0, none⟩)]) ∧ w' = w.alloc (.cells #[.slice ao n c] 24) := by
  refine callsIn_of_wp Try.func70 rfl trivial ?_ rfl
  simp only [Try.ntmps70, List.size_toArray, List.length_cons, List.length_nil, Nat.reduceAdd, Nat.reduceSub, Array.replicate_succ, Array.replicate_zero, List.push_toArray, List.append_toArray, List.nil_append, List.cons_append]
  gi_wp2
  go_ret
  exact ⟨rfl, rfl⟩

theorem KpB.trans {Bn g n c : Nat} {K : KW} {A B C : World} (h : KpB Bn g n c K A B) (k : KpB Bn g n c K B C) : KpB Bn g n c K A C := fun hr => k (h hr)

theorem KpB.of_same {Bn g n c : Nat} {K : KW} {W W' : World} (h1 : W'.heap[Bn]? = W.heap[Bn]?) (h2 : W'.heap[g]? = W.heap[g]?) : KpB Bn g n c K W W' := by
  rintro ⟨hb, hr⟩
  refine ⟨(World.cell?_of_block (w := W) (a := ⟨Bn, 0, none⟩) h1).trans hb, fun j hj => ?_⟩
  obtain ⟨c0, c1, c2⟩ := hr j hj
  exact ⟨(World.cell?_of_block (w := W) (a := ⟨g, j * 3, none⟩) h2).trans c0, (World.cell?_of_block (w := W) (a := ⟨g, j * 3 + 1, none⟩) h2).trans c1, (World.cell?_of_block (w := W) (a := ⟨g, j * 3 + 2, none⟩) h2).trans c2⟩

end Go.Proofs.Ytigebmidfddbcaa
