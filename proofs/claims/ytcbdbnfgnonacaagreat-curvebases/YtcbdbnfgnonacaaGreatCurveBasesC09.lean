/-
 The document's New.
-/
import Derived.Test.YtcbdbnfgnonacaaGreatCurveBasesC06
set_option maxHeartbeats 4000000
set_option maxRecDepth 100000
namespace Go.Proofs.YtcbdbnfgnonacaaGreat
open Go.RowKit Go.Shelf
theorem ZhQ {w : World} {b t o n : Nat} {C : Array Value} (h : w.heap[b]? = some (.cells C t (0, 0))) (hn : o + n ≤ C.size) : w.there b o n := fun j hj => by
 refine ⟨?_, Zax h⟩
 rw [Zae h (Array.getElem?_eq_getElem (by omega))]
 rfl
def sb (s : ByteArray) (j : Nat) : Nat := (s.data[j]?.getD 0).toNat
theorem ZgV (s : ByteArray) (k : Nat) (hk : k < s.size) (W : World) : (Instr.index 9 (.string s) (.int .i64 (k : Int))).run Tryz.prog W = .ok (.int .u8 (sb s k)) W := by
 have hd : s.data[k]? = some s.data[k] := Array.getElem?_eq_getElem hk
 have h := run_index_string (P := Tryz.prog) (w := W) 9 s .i64 (k : Int) Tryz.underlying9
 rw [h]
 unfold sb
 rw [hd]
 have e : ((k : Int)).toNat = k := by omega
 have g : ¬ ((k : Int) < 0 ∨ (s.size : Int) ≤ (k : Int)) := by omega
 simp [e, hk]
 rfl
def hxd (c : Nat) : Nat := if 97 ≤ c then c - 97 + 10 else c - 48
def hxv (s : ByteArray) : Nat → Nat
 | 0 => 0
 | k + 1 => hxv s k + hxd (sb s (s.size - 1 - k)) * 16 ^ k
theorem Zda (V d k j : Nat) (hV : V < 16 ^ k) (hd : d < 16) : limb (V + d * 16 ^ k) j = if j = k / 16 then limb V j + d * 2 ^ (4 * (k % 16)) else limb V j := by
 have e : (16 : Nat) ^ k = 2 ^ (4 * (k % 16)) * 18446744073709551616 ^ (k / 16) := by
  rw [show (18446744073709551616 : Nat) = 2 ^ 64 by decide, ← Nat.pow_mul, ← Nat.pow_add, show (16 : Nat) = 2 ^ 4 by decide, ← Nat.pow_mul]
  congr 1
  omega
 have hlow : V / 18446744073709551616 ^ (k / 16) < 2 ^ (4 * (k % 16)) := by
  rw [Nat.div_lt_iff_lt_mul (Nat.pow_pos (by decide)), ← e]
  exact hV
 have hp : 2 ^ (4 * (k % 16)) ≤ 2 ^ 60 := Nat.pow_le_pow_right (by decide) (by omega)
 unfold limb
 by_cases h : j = k / 16
 ·
  subst h
  rw [if_pos rfl, e, ← Nat.mul_assoc, Nat.add_mul_div_right _ _ (Nat.pow_pos (by decide))]
  have h60 : (2 : Nat) ^ 60 = 1152921504606846976 := by decide
  have hm : d * 2 ^ (4 * (k % 16)) ≤ 15 * 2 ^ (4 * (k % 16)) := Nat.mul_le_mul_right _ (by omega)
  generalize d * 2 ^ (4 * (k % 16)) = D at *
  generalize 2 ^ (4 * (k % 16)) = P at *
  generalize V / 18446744073709551616 ^ (k / 16) = Q at *
  omega
 ·
  rw [if_neg h]
  rcases Nat.lt_or_gt_of_ne h with h1 | h1
  ·
   have hk : k / 16 = (k / 16 - j - 1) + 1 + j := by omega
   have e2 : d * 16 ^ k = d * 2 ^ (4 * (k % 16)) * 18446744073709551616 ^ (k / 16 - j - 1) * 18446744073709551616 * 18446744073709551616 ^ j := by
    rw [e]
    conv => lhs; rw [hk, Nat.pow_add, Nat.pow_succ]
    simp only [Nat.mul_assoc]
   rw [e2, Nat.add_mul_div_right _ _ (Nat.pow_pos (by decide)), Nat.add_mul_mod_self_right]
  ·
   have hz : ∀ N, N < 16 ^ (k + 1) → N / 18446744073709551616 ^ j = 0 := fun N hN => by
    apply Nat.div_eq_of_lt
    refine Nat.lt_of_lt_of_le hN ?_
    rw [show (18446744073709551616 : Nat) = 16 ^ 16 by decide, ← Nat.pow_mul]
    exact Nat.pow_le_pow_right (by decide) (by omega)
   have hN : V + d * 16 ^ k < 16 ^ (k + 1) := by
    rw [Nat.pow_succ]
    have := Nat.mul_le_mul_right (16 ^ k) (show d ≤ 15 by omega)
    omega
   rw [hz _ hN, hz V (Nat.lt_trans hV (Nat.pow_lt_pow_right (by decide) (by omega)))]
def Zbg (s : ByteArray) : Prop := ∀ j, j < s.size → (48 ≤ sb s j ∧ sb s j ≤ 57) ∨ (97 ≤ sb s j ∧ sb s j ≤ 102)
theorem ZhR {c : Nat} (h : (48 ≤ c ∧ c ≤ 57) ∨ (97 ≤ c ∧ c ≤ 102)) : hxd c < 16 := by
 unfold hxd
 split <;> omega
theorem ZhS {s : ByteArray} (hs : Zbg s) : ∀ k, k ≤ s.size → hxv s k < 16 ^ k
 | 0, _ => by simp [hxv]
 | k + 1, h => by
  have ih := ZhS hs k (by omega)
  have hd := ZhR (hs (s.size - 1 - k) (by omega))
  rw [hxv, Nat.pow_succ]
  have := Nat.mul_le_mul_right (16 ^ k) (show hxd (sb s (s.size - 1 - k)) ≤ 15 by omega)
  omega
theorem ZgW (a d n : Nat) (ha : a < 2 ^ n) (hd : d < 16) (hn : n ≤ 60) : bits .or .u64 (a : Int) ((d * 2 ^ n : Nat) : Int) = ((a + d * 2 ^ n : Nat) : Int) := by
 have hp : 2 ^ n ≤ 2 ^ 60 := Nat.pow_le_pow_right (by decide) hn
 have h60 : (2 : Nat) ^ 60 = 1152921504606846976 := by decide
 have hm := Nat.mul_le_mul_right (2 ^ n) (show d ≤ 15 by omega)
 have h := bits_or_u64_nat a (d * 2 ^ n) (by omega) (by omega)
 have e : a ||| d * 2 ^ n = a + d * 2 ^ n := by
  rw [Nat.mul_comm, Nat.or_comm, ← Nat.two_pow_add_eq_or_of_lt ha d, Nat.add_comm]
 rw [h, e]
theorem Zdb {V k : Nat} (hV : V < 16 ^ k) : limb V (k / 16) < 2 ^ (4 * (k % 16)) := by
 unfold limb
 refine Nat.lt_of_le_of_lt (Nat.mod_le _ _) ?_
 rw [Nat.div_lt_iff_lt_mul (Nat.pow_pos (by decide)), show (18446744073709551616 : Nat) = 2 ^ 64 by decide, ← Nat.pow_mul, ← Nat.pow_add]
 refine Nat.lt_of_lt_of_le hV ?_
 rw [show (16 : Nat) = 2 ^ 4 by decide, ← Nat.pow_mul]
 exact Nat.pow_le_pow_right (by decide) (by omega)
end Go.Proofs.YtcbdbnfgnonacaaGreat
namespace Go.Proofs.YtcbdbnfgnonacaaGreat.W4
open Go.RowKit Go.Shelf
def cs (g : Nat → Nat) : Array Value := #[.int .u64 (g 0), .int .u64 (g 1), .int .u64 (g 2), .int .u64 (g 3)]
theorem get (g : Nat → Nat) {j : Nat} (h : j < 4) : (cs g)[j]? = some (.int .u64 (g j)) := by
 match j, h with
 | 0, _ => rfl
 | 1, _ => rfl
 | 2, _ => rfl
 | 3, _ => rfl
 | k + 4, h => exact absurd h (by omega)
theorem set (g : Nat → Nat) {j : Nat} (v : Nat) (h : j < 4) : (cs g).setIfInBounds j (.int .u64 v) = cs (fun i => if i = j then v else g i) := by
 match j, h with
 | 0, _ => rfl
 | 1, _ => rfl
 | 2, _ => rfl
 | 3, _ => rfl
 | k + 4, h => exact absurd h (by omega)
theorem under : Tryz.prog.underlying 32 = some (.array 4 27) := by kernel_rfl
theorem info (g : Nat → Nat) : (Tryz.prog.info? 32).map (·.size) = some (cs g).size := by kernel_rfl
theorem one (g : Nat → Nat) : (cs g).all (·.oneCell') = true := by simp [cs, Value.oneCell']
theorem Za5 (g : Nat → Nat) : (cs g).size = 4 := rfl
def R : Nat := 115792089237316195423570985008687907853269984665640564039457584007913129639936
theorem R_eq : R = 18446744073709551616 ^ 4 := by decide
theorem ZhT : ∃ k, R = 2 ^ k := ⟨64 * 4, by rw [R_eq, show (18446744073709551616 : Nat) = 2 ^ 64 by decide, ← Nat.pow_mul]⟩
theorem Zke : 0 < R := by decide
def wv (X : Nat) : Value := .agg (cs (limb X))
theorem ZhU (X : Nat) : wv X = .agg #[.int .u64 (limb X 0), .int .u64 (limb X 1), .int .u64 (limb X 2), .int .u64 (limb X 3)] := rfl
theorem Zba {f g : Nat → Nat} (h : ∀ j, j < 4 → f j = g j) : cs f = cs g := by
 unfold cs
 rw [h 0 (by omega), h 1 (by omega), h 2 (by omega), h 3 (by omega)]
theorem ZcF {g : Nat → Nat} (h : ∀ j, j < 4 → g j < 18446744073709551616) : Value.agg (cs g) = wv (val g 4) := by
 unfold wv
 rw [Zba (fun j hj => (ZcQ 4 h hj).symm)]
theorem Zar {X : Nat} (h : X < R) : val (limb X) 4 = X := by
 rw [Zfb, ← R_eq, Nat.mod_eq_of_lt h]
theorem ZbK {g : Nat → Nat} (h : ∀ j, j < 4 → g j < 18446744073709551616) : val g 4 < R := by
 rw [R_eq]; exact Zcq _ h
theorem cells {w : World} {b t : Nat} {g : Nat → Nat} (h : w.heap[b]? = some (.cells (cs g) t (0, 0))) : w.cell? ⟨b, 0, none⟩ = some (.int .u64 (g 0)) ∧ w.cell? ⟨b, 1, none⟩ = some (.int .u64 (g 1)) ∧ w.cell? ⟨b, 2, none⟩ = some (.int .u64 (g 2)) ∧ w.cell? ⟨b, 3, none⟩ = some (.int .u64 (g 3)) :=
 ⟨Zae h rfl, Zae h rfl, Zae h rfl, Zae h rfl⟩
theorem infoU' : (Tryz.prog.info? 27).map (fun i => (i.zero, i.size, i.bytes)) = some (some (.int .u64 0), 1, 8) := by kernel_rfl
theorem Zed (W : World) : (Instr.makeSlice 37 (.int .i64 (4 : Int)) (.int .i64 (4 : Int))).run Tryz.prog W = .ok (.slice (some ⟨W.heap.size, 0, none⟩) 4 4) (W.alloc (.cells (cs (fun _ => 0)) 27)) := by
 have hT : Tryz.prog.underlying 37 = some (.slice 27) := by kernel_rfl
 obtain ⟨i0, hi, hz, hs, hb⟩ := info_parts infoU'
 have := run_makeSlice (P := Tryz.prog) (w := W) 37 27 i0 (.int .u64 0) hT hi hz .i64 .i64 4 4 (by decide) (by decide) (by rw [hs]; decide) (by rw [hb]; decide) (by decide)
 have e : madeCells (Value.int IntKind.u64 0).cells (Int.toNat 4 * 1) = cs (fun _ => 0) := by kernel_rfl
 rw [this, hs, e]
 rfl
theorem Zdi (s : ByteArray) (hs : Zbg s) (hL : s.size ≤ 16 * 4) (w : World) : Calls Tryz.prog 94 #[.string s, .int .i64 (4 : Int)] w fun r w' => (∃ g, r = .returned (.slice (some ⟨g, 0, none⟩) 4 4) ∧ w'.heap[g]? = some (.cells (cs (limb (hxv s s.size))) 27 (0, 0))) ∧ Below w.heap.size w w' := by
 have hmk := Zed w
 have HS := hideP hs
 have HL := hideP hL
 have hidx := hideP (fun k (hk : k < s.size) W => ZgV s k hk W)
 have e0 : IntKind.i64.wrap ((s.size : Int) - 1) = (s.size : Int) - 1 := by rw [IntKind.wrap_i64]; omega
 clear hs hL
 unfold cs at hmk
 go_enter Tryz.func94, Tryz.ntmps94
 go_wp2_with fail
 refine Zam (fun W0 hW0 => ?_)
 have hG : W0.heap[w.heap.size]? = some (.cells (cs (fun _ => 0)) 27 (0, 0)) := by
  rw [hW0]
  exact Zaf _ _
 have HBW : Hid (Below w.heap.size w W0) := by
  show Below _ _ _
  rw [hW0]
  repeat first | exact Below.refl _ _ | (refine Below.alloc ?_ (by simp <;> omega) _)
 have HG := hideP hG
 clear hW0 hG hmk
 go_loopw [6] (fun i wr => ∃ k : Nat, k ≤ s.size ∧ i = .int .i64 k ∧ wr.heap[w.heap.size]? = some (.cells (cs (limb (hxv s k))) 27 (0, 0)) ∧ But w.heap.size W0 wr) (fun i _ => s.size - (intOf i).toNat)
 case atStart => exact ⟨0, Nat.zero_le _, rfl, by rw [hxv, Zba (g := fun _ => 0) (fun j _ => by simp [limb])]; exact HG.out, But.refl _ _⟩
 case round =>
  obtain ⟨k, hk, rfl, hg, hb⟩ := hrel
  by_cases hlt : k < s.size
  ·
   have hL := HL.out
   have hq : k / 16 < 4 := by omega
   have hV := ZhS HS.out k (by omega)
   have hdg := HS.out (s.size - 1 - k) (by omega)
   have hd := ZhR hdg
   have cg := Zae hg (get _ hq)
   have fr : ∀ o, wr.frozen? ⟨w.heap.size, o, none⟩ = false := fun o => Zax hg
   have hor := ZgW (limb (hxv s k) (k / 16)) (hxd (sb s (s.size - 1 - k))) (4 * (k % 16)) (Zdb hV) hd (by omega)
   have hN := Zda (hxv s k) (hxd (sb s (s.size - 1 - k))) k
   have h3 := Zaz (o := k / 16) hg (.int .u64 ((limb (hxv s k) (k / 16) + hxd (sb s (s.size - 1 - k)) * 2 ^ (4 * (k % 16)) : Nat) : Int))
   rw [set _ _ hq, Zba (g := limb (hxv s (k + 1))) (fun j _ => by
    rw [hxv, hN j hV hd]
    by_cases h1 : j = k / 16
    ·
     rw [if_pos h1, if_pos h1, h1]
    ·
     rw [if_neg h1, if_neg h1])] at h3
   have H3 := hideP h3
   have HB := hideP hb
   have HKS : Hid (k + 1 ≤ s.size) := hlt
   have hix := hidx.out (s.size - 1 - k) (by omega)
   have hlt' : (k : Int) < s.size := by omega
   have e1 : IntKind.i64.wrap ((s.size : Int) - 1 - (k : Int)) = ((s.size - 1 - k : Nat) : Int) := by rw [IntKind.wrap_i64]; omega
   have e4 : IntKind.i64.wrap ((k : Int) + 1) = (k : Int) + 1 := by rw [IntKind.wrap_i64]; omega
   have d1 : ((k : Int)).tdiv 16 = ((k / 16 : Nat) : Int) := by rw [Int.tdiv_eq_ediv_of_nonneg (by omega)]; omega
   have d1' : IntKind.i64.wrap ((k / 16 : Nat) : Int) = ((k / 16 : Nat) : Int) := by rw [IntKind.wrap_i64]; omega
   have d2 : ((k : Int)).tmod 16 = ((k % 16 : Nat) : Int) := by rw [Int.tmod_eq_emod_of_nonneg (by omega)]; omega
   have d2' : IntKind.i64.wrap ((k % 16 : Nat) : Int) = ((k % 16 : Nat) : Int) := by rw [IntKind.wrap_i64]; omega
   have d3 : IntKind.i64.wrap (4 * ((k % 16 : Nat) : Int)) = ((4 * (k % 16) : Nat) : Int) := by rw [IntKind.wrap_i64]; omega
   have d4 : IntKind.u64.wrap ((4 * (k % 16) : Nat) : Int) = ((4 * (k % 16) : Nat) : Int) := by rw [IntKind.wrap_u64]; omega
   have g1 : ((k / 16 : Nat) : Int) < 4 := by omega
   have g2 : ((4 * (k % 16) : Nat) : Int) < 64 := by omega
   have hp : 2 ^ (4 * (k % 16)) ≤ 2 ^ 60 := Nat.pow_le_pow_right (by decide) (by omega)
   have h60 : (2 : Nat) ^ 60 = 1152921504606846976 := by decide
   have hm := Nat.mul_le_mul_right (2 ^ (4 * (k % 16))) (show hxd (sb s (s.size - 1 - k)) ≤ 15 by omega)
   have hwd : IntKind.u64.wrap ((hxd (sb s (s.size - 1 - k)) : Int) * 2 ^ (4 * (k % 16))) = ((hxd (sb s (s.size - 1 - k)) * 2 ^ (4 * (k % 16)) : Nat) : Int) := by
    have e : ((hxd (sb s (s.size - 1 - k)) : Int) * 2 ^ (4 * (k % 16))) = ((hxd (sb s (s.size - 1 - k)) * 2 ^ (4 * (k % 16)) : Nat) : Int) := by simp
    rw [e, M64.wrapN _ (by omega)]
   have hor2 : bits .or .u64 (limb (hxv s k) (k / 16) : Int) ((hxd (sb s (s.size - 1 - k)) : Int) * 2 ^ (4 * (k % 16))) = ((limb (hxv s k) (k / 16) + hxd (sb s (s.size - 1 - k)) * 2 ^ (4 * (k % 16)) : Nat) : Int) := by
    rw [← hor]
    congr 1
   have HOR := hideP hor2
   clear hor hor2
   have hxe : hxd (sb s (s.size - 1 - k)) = if 97 ≤ sb s (s.size - 1 - k) then sb s (s.size - 1 - k) - 97 + 10 else sb s (s.size - 1 - k) - 48 := rfl
   generalize limb (hxv s k) (k / 16) = lv at *
   generalize hxd (sb s (s.size - 1 - k)) = dg at *
   generalize sb s (s.size - 1 - k) = c at *
   generalize s.size - 1 - k = ix at *
   generalize k / 16 = q at *
   generalize 4 * (k % 16) = sh at *
   generalize k % 16 = r at *
   clear hg hb hk hlt hN hV hL h3 hp h60 hm hd
   rcases hdg with ⟨a1, a2⟩ | ⟨a1, a2⟩
   ·
    have b1 : ¬ (97 : Int) ≤ (c : Int) := by omega
    rw [if_neg (by omega)] at hxe
    have w1 : IntKind.u8.wrap ((c : Int) - 48) = (dg : Int) := by rw [IntKind.wrap_u8]; omega
    have w2 : IntKind.u64.wrap (dg : Int) = (dg : Int) := by rw [IntKind.wrap_u64]; omega
    clear a1 a2 hxe
    go_wp2_with fail
    refine ⟨⟨k + 1, HKS.out, by go_num, ?_, HB.out.set _ _⟩, by have := HKS.out; simp [intOf]; omega⟩
    rw [HOR.out]
    exact H3.out
   ·
    have b1 : (97 : Int) ≤ (c : Int) := by omega
    rw [if_pos (by omega)] at hxe
    have w0 : IntKind.u8.wrap ((c : Int) - 48) = ((c - 48 : Nat) : Int) := by rw [IntKind.wrap_u8]; omega
    have w00 : IntKind.u64.wrap ((c - 48 : Nat) : Int) = ((c - 48 : Nat) : Int) := by rw [IntKind.wrap_u64]; omega
    have w1 : IntKind.u8.wrap ((c : Int) - 97) = ((c - 97 : Nat) : Int) := by rw [IntKind.wrap_u8]; omega
    have w2 : IntKind.u64.wrap ((c - 97 : Nat) : Int) = ((c - 97 : Nat) : Int) := by rw [IntKind.wrap_u64]; omega
    have w3 : IntKind.u64.wrap (((c - 97 : Nat) : Int) + 10) = (dg : Int) := by rw [IntKind.wrap_u64]; omega
    clear a1 a2 hxe
    generalize c - 48 = c48 at *
    generalize c - 97 = c97 at *
    go_wp2_with fail
    refine ⟨⟨k + 1, HKS.out, by go_num, ?_, HB.out.set _ _⟩, by have := HKS.out; simp [intOf]; omega⟩
    rw [HOR.out]
    exact H3.out
  ·
   have hkn : k = s.size := by omega
   have hnl : ¬ (k : Int) < s.size := by omega
   rw [hkn] at hg
   have H3 := hideP hg
   have HB := hideP hb
   clear hg hb hk hlt hkn
   go_wp2
   go_ret
   exact ⟨⟨_, rfl, H3.out⟩, HBW.out.trans HB.out.below⟩
end Go.Proofs.YtcbdbnfgnonacaaGreat.W4
namespace Go.Proofs.YtcbdbnfgnonacaaGreat.W6
open Go.RowKit Go.Shelf
def cs (g : Nat → Nat) : Array Value := #[.int .u64 (g 0), .int .u64 (g 1), .int .u64 (g 2), .int .u64 (g 3), .int .u64 (g 4), .int .u64 (g 5)]
theorem get (g : Nat → Nat) {j : Nat} (h : j < 6) : (cs g)[j]? = some (.int .u64 (g j)) := by
 match j, h with
 | 0, _ => rfl
 | 1, _ => rfl
 | 2, _ => rfl
 | 3, _ => rfl
 | 4, _ => rfl
 | 5, _ => rfl
 | k + 6, h => exact absurd h (by omega)
theorem set (g : Nat → Nat) {j : Nat} (v : Nat) (h : j < 6) : (cs g).setIfInBounds j (.int .u64 v) = cs (fun i => if i = j then v else g i) := by
 match j, h with
 | 0, _ => rfl
 | 1, _ => rfl
 | 2, _ => rfl
 | 3, _ => rfl
 | 4, _ => rfl
 | 5, _ => rfl
 | k + 6, h => exact absurd h (by omega)
theorem under : Tryz.prog.underlying 28 = some (.array 6 27) := by kernel_rfl
theorem info (g : Nat → Nat) : (Tryz.prog.info? 28).map (·.size) = some (cs g).size := by kernel_rfl
theorem one (g : Nat → Nat) : (cs g).all (·.oneCell') = true := by simp [cs, Value.oneCell']
theorem Za5 (g : Nat → Nat) : (cs g).size = 6 := rfl
def R : Nat := 39402006196394479212279040100143613805079739270465446667948293404245721771497210611414266254884915640806627990306816
theorem R_eq : R = 18446744073709551616 ^ 6 := by decide
theorem ZhT : ∃ k, R = 2 ^ k := ⟨64 * 6, by rw [R_eq, show (18446744073709551616 : Nat) = 2 ^ 64 by decide, ← Nat.pow_mul]⟩
theorem Zke : 0 < R := by decide
def wv (X : Nat) : Value := .agg (cs (limb X))
theorem ZhU (X : Nat) : wv X = .agg #[.int .u64 (limb X 0), .int .u64 (limb X 1), .int .u64 (limb X 2), .int .u64 (limb X 3), .int .u64 (limb X 4), .int .u64 (limb X 5)] := rfl
theorem Zba {f g : Nat → Nat} (h : ∀ j, j < 6 → f j = g j) : cs f = cs g := by
 unfold cs
 rw [h 0 (by omega), h 1 (by omega), h 2 (by omega), h 3 (by omega), h 4 (by omega), h 5 (by omega)]
theorem ZcF {g : Nat → Nat} (h : ∀ j, j < 6 → g j < 18446744073709551616) : Value.agg (cs g) = wv (val g 6) := by
 unfold wv
 rw [Zba (fun j hj => (ZcQ 6 h hj).symm)]
theorem Zar {X : Nat} (h : X < R) : val (limb X) 6 = X := by
 rw [Zfb, ← R_eq, Nat.mod_eq_of_lt h]
theorem ZbK {g : Nat → Nat} (h : ∀ j, j < 6 → g j < 18446744073709551616) : val g 6 < R := by
 rw [R_eq]; exact Zcq _ h
theorem cells {w : World} {b t : Nat} {g : Nat → Nat} (h : w.heap[b]? = some (.cells (cs g) t (0, 0))) : w.cell? ⟨b, 0, none⟩ = some (.int .u64 (g 0)) ∧ w.cell? ⟨b, 1, none⟩ = some (.int .u64 (g 1)) ∧ w.cell? ⟨b, 2, none⟩ = some (.int .u64 (g 2)) ∧ w.cell? ⟨b, 3, none⟩ = some (.int .u64 (g 3)) ∧ w.cell? ⟨b, 4, none⟩ = some (.int .u64 (g 4)) ∧ w.cell? ⟨b, 5, none⟩ = some (.int .u64 (g 5)) :=
 ⟨Zae h rfl, Zae h rfl, Zae h rfl, Zae h rfl, Zae h rfl, Zae h rfl⟩
theorem infoU' : (Tryz.prog.info? 27).map (fun i => (i.zero, i.size, i.bytes)) = some (some (.int .u64 0), 1, 8) := by kernel_rfl
theorem Zed (W : World) : (Instr.makeSlice 37 (.int .i64 (6 : Int)) (.int .i64 (6 : Int))).run Tryz.prog W = .ok (.slice (some ⟨W.heap.size, 0, none⟩) 6 6) (W.alloc (.cells (cs (fun _ => 0)) 27)) := by
 have hT : Tryz.prog.underlying 37 = some (.slice 27) := by kernel_rfl
 obtain ⟨i0, hi, hz, hs, hb⟩ := info_parts infoU'
 have := run_makeSlice (P := Tryz.prog) (w := W) 37 27 i0 (.int .u64 0) hT hi hz .i64 .i64 6 6 (by decide) (by decide) (by rw [hs]; decide) (by rw [hb]; decide) (by decide)
 have e : madeCells (Value.int IntKind.u64 0).cells (Int.toNat 6 * 1) = cs (fun _ => 0) := by kernel_rfl
 rw [this, hs, e]
 rfl
theorem Zdi (s : ByteArray) (hs : Zbg s) (hL : s.size ≤ 16 * 6) (w : World) : Calls Tryz.prog 94 #[.string s, .int .i64 (6 : Int)] w fun r w' => (∃ g, r = .returned (.slice (some ⟨g, 0, none⟩) 6 6) ∧ w'.heap[g]? = some (.cells (cs (limb (hxv s s.size))) 27 (0, 0))) ∧ Below w.heap.size w w' := by
 have hmk := Zed w
 have HS := hideP hs
 have HL := hideP hL
 have hidx := hideP (fun k (hk : k < s.size) W => ZgV s k hk W)
 have e0 : IntKind.i64.wrap ((s.size : Int) - 1) = (s.size : Int) - 1 := by rw [IntKind.wrap_i64]; omega
 clear hs hL
 unfold cs at hmk
 go_enter Tryz.func94, Tryz.ntmps94
 go_wp2_with fail
 refine Zam (fun W0 hW0 => ?_)
 have hG : W0.heap[w.heap.size]? = some (.cells (cs (fun _ => 0)) 27 (0, 0)) := by
  rw [hW0]
  exact Zaf _ _
 have HBW : Hid (Below w.heap.size w W0) := by
  show Below _ _ _
  rw [hW0]
  repeat first | exact Below.refl _ _ | (refine Below.alloc ?_ (by simp <;> omega) _)
 have HG := hideP hG
 clear hW0 hG hmk
 go_loopw [6] (fun i wr => ∃ k : Nat, k ≤ s.size ∧ i = .int .i64 k ∧ wr.heap[w.heap.size]? = some (.cells (cs (limb (hxv s k))) 27 (0, 0)) ∧ But w.heap.size W0 wr) (fun i _ => s.size - (intOf i).toNat)
 case atStart => exact ⟨0, Nat.zero_le _, rfl, by rw [hxv, Zba (g := fun _ => 0) (fun j _ => by simp [limb])]; exact HG.out, But.refl _ _⟩
 case round =>
  obtain ⟨k, hk, rfl, hg, hb⟩ := hrel
  by_cases hlt : k < s.size
  ·
   have hL := HL.out
   have hq : k / 16 < 6 := by omega
   have hV := ZhS HS.out k (by omega)
   have hdg := HS.out (s.size - 1 - k) (by omega)
   have hd := ZhR hdg
   have cg := Zae hg (get _ hq)
   have fr : ∀ o, wr.frozen? ⟨w.heap.size, o, none⟩ = false := fun o => Zax hg
   have hor := ZgW (limb (hxv s k) (k / 16)) (hxd (sb s (s.size - 1 - k))) (4 * (k % 16)) (Zdb hV) hd (by omega)
   have hN := Zda (hxv s k) (hxd (sb s (s.size - 1 - k))) k
   have h3 := Zaz (o := k / 16) hg (.int .u64 ((limb (hxv s k) (k / 16) + hxd (sb s (s.size - 1 - k)) * 2 ^ (4 * (k % 16)) : Nat) : Int))
   rw [set _ _ hq, Zba (g := limb (hxv s (k + 1))) (fun j _ => by
    rw [hxv, hN j hV hd]
    by_cases h1 : j = k / 16
    ·
     rw [if_pos h1, if_pos h1, h1]
    ·
     rw [if_neg h1, if_neg h1])] at h3
   have H3 := hideP h3
   have HB := hideP hb
   have HKS : Hid (k + 1 ≤ s.size) := hlt
   have hix := hidx.out (s.size - 1 - k) (by omega)
   have hlt' : (k : Int) < s.size := by omega
   have e1 : IntKind.i64.wrap ((s.size : Int) - 1 - (k : Int)) = ((s.size - 1 - k : Nat) : Int) := by rw [IntKind.wrap_i64]; omega
   have e4 : IntKind.i64.wrap ((k : Int) + 1) = (k : Int) + 1 := by rw [IntKind.wrap_i64]; omega
   have d1 : ((k : Int)).tdiv 16 = ((k / 16 : Nat) : Int) := by rw [Int.tdiv_eq_ediv_of_nonneg (by omega)]; omega
   have d1' : IntKind.i64.wrap ((k / 16 : Nat) : Int) = ((k / 16 : Nat) : Int) := by rw [IntKind.wrap_i64]; omega
   have d2 : ((k : Int)).tmod 16 = ((k % 16 : Nat) : Int) := by rw [Int.tmod_eq_emod_of_nonneg (by omega)]; omega
   have d2' : IntKind.i64.wrap ((k % 16 : Nat) : Int) = ((k % 16 : Nat) : Int) := by rw [IntKind.wrap_i64]; omega
   have d3 : IntKind.i64.wrap (4 * ((k % 16 : Nat) : Int)) = ((4 * (k % 16) : Nat) : Int) := by rw [IntKind.wrap_i64]; omega
   have d4 : IntKind.u64.wrap ((4 * (k % 16) : Nat) : Int) = ((4 * (k % 16) : Nat) : Int) := by rw [IntKind.wrap_u64]; omega
   have g1 : ((k / 16 : Nat) : Int) < 6 := by omega
   have g2 : ((4 * (k % 16) : Nat) : Int) < 64 := by omega
   have hp : 2 ^ (4 * (k % 16)) ≤ 2 ^ 60 := Nat.pow_le_pow_right (by decide) (by omega)
   have h60 : (2 : Nat) ^ 60 = 1152921504606846976 := by decide
   have hm := Nat.mul_le_mul_right (2 ^ (4 * (k % 16))) (show hxd (sb s (s.size - 1 - k)) ≤ 15 by omega)
   have hwd : IntKind.u64.wrap ((hxd (sb s (s.size - 1 - k)) : Int) * 2 ^ (4 * (k % 16))) = ((hxd (sb s (s.size - 1 - k)) * 2 ^ (4 * (k % 16)) : Nat) : Int) := by
    have e : ((hxd (sb s (s.size - 1 - k)) : Int) * 2 ^ (4 * (k % 16))) = ((hxd (sb s (s.size - 1 - k)) * 2 ^ (4 * (k % 16)) : Nat) : Int) := by simp
    rw [e, M64.wrapN _ (by omega)]
   have hor2 : bits .or .u64 (limb (hxv s k) (k / 16) : Int) ((hxd (sb s (s.size - 1 - k)) : Int) * 2 ^ (4 * (k % 16))) = ((limb (hxv s k) (k / 16) + hxd (sb s (s.size - 1 - k)) * 2 ^ (4 * (k % 16)) : Nat) : Int) := by
    rw [← hor]
    congr 1
   have HOR := hideP hor2
   clear hor hor2
   have hxe : hxd (sb s (s.size - 1 - k)) = if 97 ≤ sb s (s.size - 1 - k) then sb s (s.size - 1 - k) - 97 + 10 else sb s (s.size - 1 - k) - 48 := rfl
   generalize limb (hxv s k) (k / 16) = lv at *
   generalize hxd (sb s (s.size - 1 - k)) = dg at *
   generalize sb s (s.size - 1 - k) = c at *
   generalize s.size - 1 - k = ix at *
   generalize k / 16 = q at *
   generalize 4 * (k % 16) = sh at *
   generalize k % 16 = r at *
   clear hg hb hk hlt hN hV hL h3 hp h60 hm hd
   rcases hdg with ⟨a1, a2⟩ | ⟨a1, a2⟩
   ·
    have b1 : ¬ (97 : Int) ≤ (c : Int) := by omega
    rw [if_neg (by omega)] at hxe
    have w1 : IntKind.u8.wrap ((c : Int) - 48) = (dg : Int) := by rw [IntKind.wrap_u8]; omega
    have w2 : IntKind.u64.wrap (dg : Int) = (dg : Int) := by rw [IntKind.wrap_u64]; omega
    clear a1 a2 hxe
    go_wp2_with fail
    refine ⟨⟨k + 1, HKS.out, by go_num, ?_, HB.out.set _ _⟩, by have := HKS.out; simp [intOf]; omega⟩
    rw [HOR.out]
    exact H3.out
   ·
    have b1 : (97 : Int) ≤ (c : Int) := by omega
    rw [if_pos (by omega)] at hxe
    have w0 : IntKind.u8.wrap ((c : Int) - 48) = ((c - 48 : Nat) : Int) := by rw [IntKind.wrap_u8]; omega
    have w00 : IntKind.u64.wrap ((c - 48 : Nat) : Int) = ((c - 48 : Nat) : Int) := by rw [IntKind.wrap_u64]; omega
    have w1 : IntKind.u8.wrap ((c : Int) - 97) = ((c - 97 : Nat) : Int) := by rw [IntKind.wrap_u8]; omega
    have w2 : IntKind.u64.wrap ((c - 97 : Nat) : Int) = ((c - 97 : Nat) : Int) := by rw [IntKind.wrap_u64]; omega
    have w3 : IntKind.u64.wrap (((c - 97 : Nat) : Int) + 10) = (dg : Int) := by rw [IntKind.wrap_u64]; omega
    clear a1 a2 hxe
    generalize c - 48 = c48 at *
    generalize c - 97 = c97 at *
    go_wp2_with fail
    refine ⟨⟨k + 1, HKS.out, by go_num, ?_, HB.out.set _ _⟩, by have := HKS.out; simp [intOf]; omega⟩
    rw [HOR.out]
    exact H3.out
  ·
   have hkn : k = s.size := by omega
   have hnl : ¬ (k : Int) < s.size := by omega
   rw [hkn] at hg
   have H3 := hideP hg
   have HB := hideP hb
   clear hg hb hk hlt hkn
   go_wp2
   go_ret
   exact ⟨⟨_, rfl, H3.out⟩, HBW.out.trans HB.out.below⟩
end Go.Proofs.YtcbdbnfgnonacaaGreat.W6
namespace Go.Proofs.YtcbdbnfgnonacaaGreat
open Go.RowKit Go.Shelf
def nBnP : Nat := 21888242871839275222246405745257275088696311157297823662689037894645226208583
theorem Zjk (w : World) : Calls Tryz.prog 72 #[] w fun r w' => r = .returned (.agg (W4.cs (limb nBnP))) ∧ Below w.heap.size w w' := by
 have HV := hideP (show (Value.agg #[.int .u64 4332616871279656263, .int .u64 10917124144477883021, .int .u64 13281191951274694749, .int .u64 3486998266802970665]) = .agg (W4.cs (limb nBnP)) by kernel_rfl)
 rw [← HV.out]
 go_enter Tryz.func72, Tryz.ntmps72
 go_wp2
 refine bodyPost_ret (v := .agg #[.int .u64 4332616871279656263, .int .u64 10917124144477883021, .int .u64 13281191951274694749, .int .u64 3486998266802970665]) (by simp [results, Tryz.results72, go_sem]) rfl ⟨rfl, ?_⟩
 repeat first | exact Below.refl _ _ | apply Below.drew | (refine Below.alloc ?_ (by simp <;> omega) _) | (refine Below.setCell ?_ (by simp <;> omega) _)
theorem Zjl (w : World) : Calls Tryz.prog 87 #[] w fun r w' => (∃ g, r = .returned (.slice (some ⟨g, 0, none⟩) 4 4) ∧ w'.heap[g]? = some (.cells (W4.cs (limb nBnP)) 27 (0, 0))) ∧ Below w.heap.size w w' := by
 have hc : Calls Tryz.prog 94 #[.string ⟨#[51, 48, 54, 52, 52, 101, 55, 50, 101, 49, 51, 49, 97, 48, 50, 57, 98, 56, 53, 48, 52, 53, 98, 54, 56, 49, 56, 49, 53, 56, 53, 100, 57, 55, 56, 49, 54, 97, 57, 49, 54, 56, 55, 49, 99, 97, 56, 100, 51, 99, 50, 48, 56, 99, 49, 54, 100, 56, 55, 99, 102, 100, 52, 55]⟩, .int .i64 (4 : Int)] w fun r w' => (∃ g, r = .returned (.slice (some ⟨g, 0, none⟩) 4 4) ∧ w'.heap[g]? = some (.cells (W4.cs (limb nBnP)) 27 (0, 0))) ∧ Below w.heap.size w w' := by
  have h := W4.Zdi ⟨#[51, 48, 54, 52, 52, 101, 55, 50, 101, 49, 51, 49, 97, 48, 50, 57, 98, 56, 53, 48, 52, 53, 98, 54, 56, 49, 56, 49, 53, 56, 53, 100, 57, 55, 56, 49, 54, 97, 57, 49, 54, 56, 55, 49, 99, 97, 56, 100, 51, 99, 50, 48, 56, 99, 49, 54, 100, 56, 55, 99, 102, 100, 52, 55]⟩ (by unfold Zbg; decide +kernel) (by decide) w
  rw [show hxv ⟨#[51, 48, 54, 52, 52, 101, 55, 50, 101, 49, 51, 49, 97, 48, 50, 57, 98, 56, 53, 48, 52, 53, 98, 54, 56, 49, 56, 49, 53, 56, 53, 100, 57, 55, 56, 49, 54, 97, 57, 49, 54, 56, 55, 49, 99, 97, 56, 100, 51, 99, 50, 48, 56, 99, 49, 54, 100, 56, 55, 99, 102, 100, 52, 55]⟩ (ByteArray.size ⟨#[51, 48, 54, 52, 52, 101, 55, 50, 101, 49, 51, 49, 97, 48, 50, 57, 98, 56, 53, 48, 52, 53, 98, 54, 56, 49, 56, 49, 53, 56, 53, 100, 57, 55, 56, 49, 54, 97, 57, 49, 54, 56, 55, 49, 99, 97, 56, 100, 51, 99, 50, 48, 56, 99, 49, 54, 100, 56, 55, 99, 102, 100, 52, 55]⟩) = nBnP by kernel_rfl] at h
  exact h
 have HC := hideP hc
 clear hc
 go_enter Tryz.func87, Tryz.ntmps87
 go_wp2_with fail
 refine HC.out.mono ?_
 rintro r w1 ⟨⟨g, rfl, hg⟩, hb⟩
 have HG := hideP hg
 have HB := hideP hb
 clear hg hb
 go_wp2
 go_ret
 exact ⟨⟨g, rfl, HG.out⟩, HB.out⟩
def nBnR : Nat := 21888242871839275222246405745257275088548364400416034343698204186575808495617
theorem ZgX (w : World) : Calls Tryz.prog 154 #[] w fun r w' => r = .returned (.agg (W4.cs (limb nBnR))) ∧ Below w.heap.size w w' := by
 have HV := hideP (show (Value.agg #[.int .u64 4891460686036598785, .int .u64 2896914383306846353, .int .u64 13281191951274694749, .int .u64 3486998266802970665]) = .agg (W4.cs (limb nBnR)) by kernel_rfl)
 rw [← HV.out]
 go_enter Tryz.func154, Tryz.ntmps154
 go_wp2
 refine bodyPost_ret (v := .agg #[.int .u64 4891460686036598785, .int .u64 2896914383306846353, .int .u64 13281191951274694749, .int .u64 3486998266802970665]) (by simp [results, Tryz.results154, go_sem]) rfl ⟨rfl, ?_⟩
 repeat first | exact Below.refl _ _ | apply Below.drew | (refine Below.alloc ?_ (by simp <;> omega) _) | (refine Below.setCell ?_ (by simp <;> omega) _)
theorem Zjm (w : World) : Calls Tryz.prog 69 #[] w fun r w' => (∃ g, r = .returned (.slice (some ⟨g, 0, none⟩) 4 4) ∧ w'.heap[g]? = some (.cells (W4.cs (limb nBnR)) 27 (0, 0))) ∧ Below w.heap.size w w' := by
 have hc : Calls Tryz.prog 94 #[.string ⟨#[51, 48, 54, 52, 52, 101, 55, 50, 101, 49, 51, 49, 97, 48, 50, 57, 98, 56, 53, 48, 52, 53, 98, 54, 56, 49, 56, 49, 53, 56, 53, 100, 50, 56, 51, 51, 101, 56, 52, 56, 55, 57, 98, 57, 55, 48, 57, 49, 52, 51, 101, 49, 102, 53, 57, 51, 102, 48, 48, 48, 48, 48, 48, 49]⟩, .int .i64 (4 : Int)] w fun r w' => (∃ g, r = .returned (.slice (some ⟨g, 0, none⟩) 4 4) ∧ w'.heap[g]? = some (.cells (W4.cs (limb nBnR)) 27 (0, 0))) ∧ Below w.heap.size w w' := by
  have h := W4.Zdi ⟨#[51, 48, 54, 52, 52, 101, 55, 50, 101, 49, 51, 49, 97, 48, 50, 57, 98, 56, 53, 48, 52, 53, 98, 54, 56, 49, 56, 49, 53, 56, 53, 100, 50, 56, 51, 51, 101, 56, 52, 56, 55, 57, 98, 57, 55, 48, 57, 49, 52, 51, 101, 49, 102, 53, 57, 51, 102, 48, 48, 48, 48, 48, 48, 49]⟩ (by unfold Zbg; decide +kernel) (by decide) w
  rw [show hxv ⟨#[51, 48, 54, 52, 52, 101, 55, 50, 101, 49, 51, 49, 97, 48, 50, 57, 98, 56, 53, 48, 52, 53, 98, 54, 56, 49, 56, 49, 53, 56, 53, 100, 50, 56, 51, 51, 101, 56, 52, 56, 55, 57, 98, 57, 55, 48, 57, 49, 52, 51, 101, 49, 102, 53, 57, 51, 102, 48, 48, 48, 48, 48, 48, 49]⟩ (ByteArray.size ⟨#[51, 48, 54, 52, 52, 101, 55, 50, 101, 49, 51, 49, 97, 48, 50, 57, 98, 56, 53, 48, 52, 53, 98, 54, 56, 49, 56, 49, 53, 56, 53, 100, 50, 56, 51, 51, 101, 56, 52, 56, 55, 57, 98, 57, 55, 48, 57, 49, 52, 51, 101, 49, 102, 53, 57, 51, 102, 48, 48, 48, 48, 48, 48, 49]⟩) = nBnR by kernel_rfl] at h
  exact h
 have HC := hideP hc
 clear hc
 go_enter Tryz.func69, Tryz.ntmps69
 go_wp2_with fail
 refine HC.out.mono ?_
 rintro r w1 ⟨⟨g, rfl, hg⟩, hb⟩
 have HG := hideP hg
 have HB := hideP hb
 clear hg hb
 go_wp2
 go_ret
 exact ⟨⟨g, rfl, HG.out⟩, HB.out⟩
def nBlsP : Nat := 4002409555221667393417789825735904156556882819939007885332058136124031650490837864442687629129015664037894272559787
theorem ZhV (w : World) : Calls Tryz.prog 78 #[] w fun r w' => r = .returned (.agg (W6.cs (limb nBlsP))) ∧ Below w.heap.size w w' := by
 have HV := hideP (show (Value.agg #[.int .u64 13402431016077863595, .int .u64 2210141511517208575, .int .u64 7435674573564081700, .int .u64 7239337960414712511, .int .u64 5412103778470702295, .int .u64 1873798617647539866]) = .agg (W6.cs (limb nBlsP)) by kernel_rfl)
 rw [← HV.out]
 go_enter Tryz.func78, Tryz.ntmps78
 go_wp2
 refine bodyPost_ret (v := .agg #[.int .u64 13402431016077863595, .int .u64 2210141511517208575, .int .u64 7435674573564081700, .int .u64 7239337960414712511, .int .u64 5412103778470702295, .int .u64 1873798617647539866]) (by simp [results, Tryz.results78, go_sem]) rfl ⟨rfl, ?_⟩
 repeat first | exact Below.refl _ _ | apply Below.drew | (refine Below.alloc ?_ (by simp <;> omega) _) | (refine Below.setCell ?_ (by simp <;> omega) _)
theorem ZhW (w : World) : Calls Tryz.prog 98 #[] w fun r w' => (∃ g, r = .returned (.slice (some ⟨g, 0, none⟩) 6 6) ∧ w'.heap[g]? = some (.cells (W6.cs (limb nBlsP)) 27 (0, 0))) ∧ Below w.heap.size w w' := by
 have hc : Calls Tryz.prog 94 #[.string ⟨#[49, 97, 48, 49, 49, 49, 101, 97, 51, 57, 55, 102, 101, 54, 57, 97, 52, 98, 49, 98, 97, 55, 98, 54, 52, 51, 52, 98, 97, 99, 100, 55, 54, 52, 55, 55, 52, 98, 56, 52, 102, 51, 56, 53, 49, 50, 98, 102, 54, 55, 51, 48, 100, 50, 97, 48, 102, 54, 98, 48, 102, 54, 50, 52, 49, 101, 97, 98, 102, 102, 102, 101, 98, 49, 53, 51, 102, 102, 102, 102, 98, 57, 102, 101, 102, 102, 102, 102, 102, 102, 102, 102, 97, 97, 97, 98]⟩, .int .i64 (6 : Int)] w fun r w' => (∃ g, r = .returned (.slice (some ⟨g, 0, none⟩) 6 6) ∧ w'.heap[g]? = some (.cells (W6.cs (limb nBlsP)) 27 (0, 0))) ∧ Below w.heap.size w w' := by
  have h := W6.Zdi ⟨#[49, 97, 48, 49, 49, 49, 101, 97, 51, 57, 55, 102, 101, 54, 57, 97, 52, 98, 49, 98, 97, 55, 98, 54, 52, 51, 52, 98, 97, 99, 100, 55, 54, 52, 55, 55, 52, 98, 56, 52, 102, 51, 56, 53, 49, 50, 98, 102, 54, 55, 51, 48, 100, 50, 97, 48, 102, 54, 98, 48, 102, 54, 50, 52, 49, 101, 97, 98, 102, 102, 102, 101, 98, 49, 53, 51, 102, 102, 102, 102, 98, 57, 102, 101, 102, 102, 102, 102, 102, 102, 102, 102, 97, 97, 97, 98]⟩ (by unfold Zbg; decide +kernel) (by decide) w
  rw [show hxv ⟨#[49, 97, 48, 49, 49, 49, 101, 97, 51, 57, 55, 102, 101, 54, 57, 97, 52, 98, 49, 98, 97, 55, 98, 54, 52, 51, 52, 98, 97, 99, 100, 55, 54, 52, 55, 55, 52, 98, 56, 52, 102, 51, 56, 53, 49, 50, 98, 102, 54, 55, 51, 48, 100, 50, 97, 48, 102, 54, 98, 48, 102, 54, 50, 52, 49, 101, 97, 98, 102, 102, 102, 101, 98, 49, 53, 51, 102, 102, 102, 102, 98, 57, 102, 101, 102, 102, 102, 102, 102, 102, 102, 102, 97, 97, 97, 98]⟩ (ByteArray.size ⟨#[49, 97, 48, 49, 49, 49, 101, 97, 51, 57, 55, 102, 101, 54, 57, 97, 52, 98, 49, 98, 97, 55, 98, 54, 52, 51, 52, 98, 97, 99, 100, 55, 54, 52, 55, 55, 52, 98, 56, 52, 102, 51, 56, 53, 49, 50, 98, 102, 54, 55, 51, 48, 100, 50, 97, 48, 102, 54, 98, 48, 102, 54, 50, 52, 49, 101, 97, 98, 102, 102, 102, 101, 98, 49, 53, 51, 102, 102, 102, 102, 98, 57, 102, 101, 102, 102, 102, 102, 102, 102, 102, 102, 97, 97, 97, 98]⟩) = nBlsP by kernel_rfl] at h
  exact h
 have HC := hideP hc
 clear hc
 go_enter Tryz.func98, Tryz.ntmps98
 go_wp2_with fail
 refine HC.out.mono ?_
 rintro r w1 ⟨⟨g, rfl, hg⟩, hb⟩
 have HG := hideP hg
 have HB := hideP hb
 clear hg hb
 go_wp2
 go_ret
 exact ⟨⟨g, rfl, HG.out⟩, HB.out⟩
def nBlsR : Nat := 52435875175126190479447740508185965837690552500527637822603658699938581184513
theorem ZfU (w : World) : Calls Tryz.prog 161 #[] w fun r w' => r = .returned (.agg (W4.cs (limb nBlsR))) ∧ Below w.heap.size w w' := by
 have HV := hideP (show (Value.agg #[.int .u64 18446744069414584321, .int .u64 6034159408538082302, .int .u64 3691218898639771653, .int .u64 8353516859464449352]) = .agg (W4.cs (limb nBlsR)) by kernel_rfl)
 rw [← HV.out]
 go_enter Tryz.func161, Tryz.ntmps161
 go_wp2
 refine bodyPost_ret (v := .agg #[.int .u64 18446744069414584321, .int .u64 6034159408538082302, .int .u64 3691218898639771653, .int .u64 8353516859464449352]) (by simp [results, Tryz.results161, go_sem]) rfl ⟨rfl, ?_⟩
 repeat first | exact Below.refl _ _ | apply Below.drew | (refine Below.alloc ?_ (by simp <;> omega) _) | (refine Below.setCell ?_ (by simp <;> omega) _)
theorem ZhX (w : World) : Calls Tryz.prog 70 #[] w fun r w' => (∃ g, r = .returned (.slice (some ⟨g, 0, none⟩) 4 4) ∧ w'.heap[g]? = some (.cells (W4.cs (limb nBlsR)) 27 (0, 0))) ∧ Below w.heap.size w w' := by
 have hc : Calls Tryz.prog 94 #[.string ⟨#[55, 51, 101, 100, 97, 55, 53, 51, 50, 57, 57, 100, 55, 100, 52, 56, 51, 51, 51, 57, 100, 56, 48, 56, 48, 57, 97, 49, 100, 56, 48, 53, 53, 51, 98, 100, 97, 52, 48, 50, 102, 102, 102, 101, 53, 98, 102, 101, 102, 102, 102, 102, 102, 102, 102, 102, 48, 48, 48, 48, 48, 48, 48, 49]⟩, .int .i64 (4 : Int)] w fun r w' => (∃ g, r = .returned (.slice (some ⟨g, 0, none⟩) 4 4) ∧ w'.heap[g]? = some (.cells (W4.cs (limb nBlsR)) 27 (0, 0))) ∧ Below w.heap.size w w' := by
  have h := W4.Zdi ⟨#[55, 51, 101, 100, 97, 55, 53, 51, 50, 57, 57, 100, 55, 100, 52, 56, 51, 51, 51, 57, 100, 56, 48, 56, 48, 57, 97, 49, 100, 56, 48, 53, 53, 51, 98, 100, 97, 52, 48, 50, 102, 102, 102, 101, 53, 98, 102, 101, 102, 102, 102, 102, 102, 102, 102, 102, 48, 48, 48, 48, 48, 48, 48, 49]⟩ (by unfold Zbg; decide +kernel) (by decide) w
  rw [show hxv ⟨#[55, 51, 101, 100, 97, 55, 53, 51, 50, 57, 57, 100, 55, 100, 52, 56, 51, 51, 51, 57, 100, 56, 48, 56, 48, 57, 97, 49, 100, 56, 48, 53, 53, 51, 98, 100, 97, 52, 48, 50, 102, 102, 102, 101, 53, 98, 102, 101, 102, 102, 102, 102, 102, 102, 102, 102, 48, 48, 48, 48, 48, 48, 48, 49]⟩ (ByteArray.size ⟨#[55, 51, 101, 100, 97, 55, 53, 51, 50, 57, 57, 100, 55, 100, 52, 56, 51, 51, 51, 57, 100, 56, 48, 56, 48, 57, 97, 49, 100, 56, 48, 53, 53, 51, 98, 100, 97, 52, 48, 50, 102, 102, 102, 101, 53, 98, 102, 101, 102, 102, 102, 102, 102, 102, 102, 102, 48, 48, 48, 48, 48, 48, 48, 49]⟩) = nBlsR by kernel_rfl] at h
  exact h
 have HC := hideP hc
 clear hc
 go_enter Tryz.func70, Tryz.ntmps70
 go_wp2_with fail
 refine HC.out.mono ?_
 rintro r w1 ⟨⟨g, rfl, hg⟩, hb⟩
 have HG := hideP hg
 have HB := hideP hb
 clear hg hb
 go_wp2
 go_ret
 exact ⟨⟨g, rfl, HG.out⟩, HB.out⟩
theorem ZgY (n : Nat) (hn : n % 2 = 1) : ((1 - (n : Int)) ^ (2 ^ 6)) % 18446744073709551616 = 0 := by
 obtain ⟨k, hk⟩ : ∃ k : Int, 1 - (n : Int) = 2 * k := ⟨(1 - (n : Int)) / 2, by omega⟩
 rw [hk, Int.mul_pow]
 have e : (2 : Int) ^ (2 ^ 6) = 18446744073709551616 := by decide
 rw [e]
 exact Int.mul_emod_right _ _
theorem ZhY (n x : Nat) (h : (1 - (n : Int) * (x : Int)) % 18446744073709551616 = 0) : n * x % 18446744073709551616 = 1 := by
 have e : ((n : Int) * (x : Int)) = ((n * x : Nat) : Int) := (Int.natCast_mul n x).symm
 rw [e] at h
 omega
theorem ZjA (a b K : Int) : (a * (b % K)) % K = (a * b) % K := by rw [Int.mul_emod, Int.emod_emod, ← Int.mul_emod]
theorem sub_em (a b K : Int) : (a - b % K) % K = (a - b) % K := by rw [Int.sub_emod, Int.emod_emod, ← Int.sub_emod]
theorem ZgZ (n x : Nat) (d : Int) (h : (1 - (n : Int) * (x : Int)) % 18446744073709551616 = d % 18446744073709551616) : ∃ y : Nat, y < 18446744073709551616 ∧
  IntKind.u64.wrap ((x : Int) * IntKind.u64.wrap (2 - IntKind.u64.wrap ((n : Int) * (x : Int)))) = (y : Int) ∧ (1 - (n : Int) * (y : Int)) % 18446744073709551616 = (d * d) % 18446744073709551616 := by
 refine ⟨(((x : Int) * (2 - (n : Int) * (x : Int))) % 18446744073709551616).toNat, by omega, ?_, ?_⟩
 ·
  have h0 : (0 : Int) ≤ ((x : Int) * (2 - (n : Int) * (x : Int))) % 18446744073709551616 := Int.emod_nonneg _ (by decide)
  rw [Int.toNat_of_nonneg h0]
  simp only [IntKind.wrap_u64]
  rw [ZjA, Int.mul_emod, sub_em, ← Int.mul_emod]
 ·
  have h0 : (0 : Int) ≤ ((x : Int) * (2 - (n : Int) * (x : Int))) % 18446744073709551616 := Int.emod_nonneg _ (by decide)
  rw [Int.toNat_of_nonneg h0, ← MN.inv_step n x d _ h, Int.sub_emod, ZjA, ← Int.sub_emod]
theorem Zee (n : Nat) (hn : n % 2 = 1) (w : World) : Calls Tryz.prog 149 #[.int .u64 n] w fun e w' => (∃ x : Nat, e = .returned (.int .u64 x) ∧ x < 18446744073709551616 ∧ n * x % 18446744073709551616 = 1) ∧ w = w' := by
 have HN := hideP hn
 clear hn
 go_enter Tryz.func149, Tryz.ntmps149
 go_wp2_with fail
 go_loopw [3, 4] (fun v i wr => wr = w ∧ ∃ k x : Nat, k ≤ 6 ∧ i = .int .i64 k ∧ v = .int .u64 x ∧ x < 18446744073709551616 ∧ (1 - (n : Int) * (x : Int)) % 18446744073709551616 = ((1 - (n : Int)) ^ (2 ^ k)) % 18446744073709551616) (fun _ i _ => 6 - (intOf i).toNat)
 case atStart => exact ⟨rfl, 0, 1, by omega, rfl, rfl, by decide, by rw [show 2 ^ 0 = 1 from rfl, Int.pow_succ, Int.pow_zero]; simp⟩
 case round =>
  obtain ⟨rfl, k, x, hk, rfl, rfl, hx, hd⟩ := hrel
  by_cases hlt : k < 6
  ·
   obtain ⟨y, hy, e1, e2⟩ := ZgZ n x _ hd
   rw [← Int.pow_add, ← Nat.two_mul, Nat.mul_comm 2, ← Nat.pow_succ] at e2
   have HY : Hid (y < 18446744073709551616 ∧ (1 - (n : Int) * (y : Int)) % 18446744073709551616 = ((1 - (n : Int)) ^ (2 ^ (k + 1))) % 18446744073709551616) := ⟨hy, e2⟩
   have hlt' : (k : Int) < 6 := by omega
   have e4 : IntKind.i64.wrap ((k : Int) + 1) = (k : Int) + 1 := by rw [IntKind.wrap_i64]; omega
   have HKS : Hid (k + 1 ≤ 6) := hlt
   clear hk hlt hx hd hy e2
   go_wp2_with fail
   exact ⟨⟨trivial, k + 1, y, HKS.out, by go_num, rfl, HY.out.1, HY.out.2⟩, by have := HKS.out; simp [intOf]; omega⟩
  ·
   have hkn : k = 6 := by omega
   have hnl : ¬ (k : Int) < 6 := by omega
   rw [hkn, ZgY n HN.out] at hd
   have HD : Hid (x < 18446744073709551616 ∧ n * x % 18446744073709551616 = 1) := ⟨hx, ZhY n x hd⟩
   clear hk hlt hx hd hkn
   go_wp2
   go_ret
   exact ⟨⟨x, rfl, HD.out⟩, rfl⟩
theorem Zkf {a x : Nat} (hx : x < 18446744073709551616) (h : a * x % 18446744073709551616 = 1) : ∃ f : Nat, f < 18446744073709551616 ∧ IntKind.u64.wrap (-(x : Int)) = (f : Int) ∧ (a * f + 1) % 18446744073709551616 = 0 := by
 have h0 : 0 < x := by
  rcases Nat.eq_zero_or_pos x with rfl | h1
  ·
   simp at h
  ·
   exact h1
 refine ⟨18446744073709551616 - x, by omega, by rw [IntKind.wrap_u64]; omega, ?_⟩
 have e : a * (18446744073709551616 - x) + a * x = a * 18446744073709551616 := by
  rw [← Nat.mul_add]; congr 1; omega
 generalize a * (18446744073709551616 - x) = A at *
 generalize a * x = C at *
 omega
theorem Zjn (k j : Nat) : limb (18446744073709551616 ^ k) j = if j = k then 1 else 0 := by
 unfold limb
 rcases Nat.lt_trichotomy j k with h | h | h
 ·
  rw [if_neg (by omega)]
  obtain ⟨d, rfl⟩ : ∃ d, k = d + 1 + j := ⟨k - j - 1, by omega⟩
  rw [Nat.pow_add, Nat.mul_div_cancel _ (Nat.pow_pos (by decide)), Nat.pow_succ, Nat.mul_mod_left]
 ·
  subst h
  rw [if_pos rfl, Nat.div_self (Nat.pow_pos (by decide))]
 ·
  rw [if_neg (by omega), Nat.div_eq_of_lt (Nat.pow_lt_pow_right (by decide) h), Nat.zero_mod]
theorem LW.other {w w' : World} {v x : Value} {n D a b c d t : Nat} {ao co : Option Addr} {f : Nat → Nat} (h : LW w v n f) (hn : 2 ≤ n) (hD : w.heap[D]? = some (.cells #[.slice ao a b, x, .slice co c d] t (0, 0))) (hB : But D w w') : LW w' v n f := by
 obtain ⟨g, o, k, e, h1, h2, hg, hc⟩ := h.ex
 have hne : g ≠ D := by
  intro e2
  subst e2
  have c0 := hc 0 (by omega)
  have c1 := hc 1 (by omega)
  simp only [World.cell?, hD] at c0 c1
  rcases (show o = 0 ∨ o = 1 ∨ o = 2 ∨ 3 ≤ o by omega) with rfl | rfl | rfl | h3
  ·
   simp at c0
  ·
   simp at c1
  ·
   simp at c0
  ·
   have h4 : (#[Value.slice ao a b, x, Value.slice co c d] : Array Value)[o]? = none := by
    rw [Array.getElem?_eq_none]
    simp
    omega
   rw [Nat.add_zero] at c0
   rw [h4] at c0
   cases c0
 exact ⟨g, o, k, e, h1, h2, Nat.lt_of_lt_of_le hg hB.below.size, fun j hj => (hB.cell hne).trans (hc j hj)⟩
theorem Zjo {n M : Nat} (hn2 : 2 ≤ n) (hM : FM n M) (w : World) (m : Value) (hm : LW w m n (limb M)) :
  Calls Tryz.prog 86 #[m] w fun r w' => (∃ (fo : Nat) (tv : Value), r = .returned (.agg #[m, .int .u64 fo, tv]) ∧ LW w' tv n (limb (18446744073709551616 ^ n * 18446744073709551616 ^ n % M)) ∧ (M % 18446744073709551616 * fo + 1) % 18446744073709551616 = 0) ∧ Below w.heap.size w w' := by
 have HH := hideP hM
 have HN2 := hideP hn2
 clear hn2
 have HM := hideP hm
 obtain ⟨g2, o2, c2, rfl, _, _, l2, h2⟩ := hm.ex
 have H2 := hideP h2
 clear hM hm h2
 go_enter Tryz.func86, Tryz.ntmps86
 refine Zad (fun K0 HK0 => ?_)
 go_wp2_with fail
 refine HK0.out _ _ ?_
 refine Zad (fun K1 HK1 => ?_)
 go_wp2_with fail
 refine HK1.out _ _ ?_
 refine Zam (fun W0 hW0 => ?_)
 have hR : W0.heap[w.heap.size]? = some (.cells #[.slice none 0 0, .int .u64 0, .slice none 0 0] 39 (0, 0)) := by
  rw [hW0]
  first | exact (Zag _ _ (by simp)).trans (Zaf _ _) | (simp [World.alloc, World.setCell])
 have hF : W0.heap[w.heap.size + 1]? = some (.cells #[.slice (some ⟨g2, o2, none⟩) n c2, .int .u64 0, .slice none 0 0] 39 (0, 0)) := by
  rw [hW0]
  first | exact Zav _ _ _ | (simp [World.alloc, World.setCell])
 have HBW : Hid (Below w.heap.size w W0) := by
  show Below _ _ _
  rw [hW0]
  repeat first | exact Below.refl _ _ | (refine Below.alloc ?_ (by simp <;> omega) _) | (refine Below.setCell ?_ (by simp <;> omega) _)
 have HR := hideP hR
 have HF := hideP hF
 have ca : W0.cell? ⟨g2, o2, none⟩ = some (.int .u64 (limb M 0)) := by
  have := H2.out 0 HH.out.n0
  rw [Nat.add_zero] at this
  exact (HBW.out.cell (p := ⟨g2, o2, none⟩) l2).trans this
 have HM0 := hideP (HM.out.moved HBW.out)
 have g0 : (0 : Int) < (n : Int) := by have := HH.out.n0; omega
 have hl0 : limb M 0 = M % 18446744073709551616 := by simp [limb]
 have hod : limb M 0 % 2 = 1 := by rw [hl0]; have := HH.out.odd; omega
 have HOD := hideP hod
 clear hW0 hR hF hod
 generalize hm0 : limb M 0 = m0 at ca HOD
 refine Zad (fun K2 HK2 => ?_)
 go_wp2_with fail
 refine HK2.out _ _ ?_
 refine Zad (fun K3 HK3 => ?_)
 go_wp2_with fail
 go_loopw [4, 5] (fun v i wr => wr = W0 ∧ ∃ k x : Nat, k ≤ 6 ∧ i = .int .i64 k ∧ v = .int .u64 x ∧ x < 18446744073709551616 ∧ (1 - (m0 : Int) * (x : Int)) % 18446744073709551616 = ((1 - (m0 : Int)) ^ (2 ^ k)) % 18446744073709551616) (fun _ i _ => 6 - (intOf i).toNat)
 case atStart => exact ⟨rfl, 0, 1, by omega, rfl, rfl, by decide, by rw [show 2 ^ 0 = 1 from rfl, Int.pow_succ, Int.pow_zero]; simp⟩
 case round =>
  obtain ⟨rfl, k, x, hk, rfl, rfl, hx, hd⟩ := hrel
  by_cases hlt : k < 6
  ·
   obtain ⟨y, hy, e1, e2⟩ := ZgZ m0 x _ hd
   rw [← Int.pow_add, ← Nat.two_mul, Nat.mul_comm 2, ← Nat.pow_succ] at e2
   have HY : Hid (y < 18446744073709551616 ∧ (1 - (m0 : Int) * (y : Int)) % 18446744073709551616 = ((1 - (m0 : Int)) ^ (2 ^ (k + 1))) % 18446744073709551616) := ⟨hy, e2⟩
   have hlt' : (k : Int) < 6 := by omega
   have e4 : IntKind.i64.wrap ((k : Int) + 1) = (k : Int) + 1 := by rw [IntKind.wrap_i64]; omega
   have HKS : Hid (k + 1 ≤ 6) := hlt
   clear hk hlt hx hd hy e2 hl0 hm0
   go_wp2_with fail
   exact ⟨⟨trivial, k + 1, y, HKS.out, by go_num, rfl, HY.out.1, HY.out.2⟩, by have := HKS.out; simp [intOf]; omega⟩
  ·
   have hkn : k = 6 := by omega
   have hnl : ¬ (k : Int) < 6 := by omega
   rw [hkn, ZgY m0 HOD.out] at hd
   obtain ⟨f, hf1, hf2, hf3⟩ := Zkf hx (ZhY m0 x hd)
   have HFO : Hid ((M % 18446744073709551616 * f + 1) % 18446744073709551616 = 0) := by
    show _ = _
    rw [← hl0, hm0]
    exact hf3
   clear hk hlt hx hd hkn hf1 hf3 hl0 hm0 HOD ca
   go_wp2_with fail
   refine HK3.out _ _ ?_
   have fr : ∀ o, wr.frozen? ⟨w.heap.size + 1, o, none⟩ = false := fun o => Zax HF.out
   have cz := Zae (o := 1) HF.out rfl
   refine Zad (fun K4 HK4 => ?_)
   go_wp2_with fail
   refine HK4.out _ _ ?_
   have hF1 := Zaz (o := 1) HF.out (.int .u64 (f : Int))
   have hB1 := (But.refl (w.heap.size + 1) wr).set 1 (.int .u64 (f : Int))
   refine Zam (fun W1 hW1 => ?_)
   rw [← hW1] at hF1 hB1
   have HF1 : Hid (W1.heap[w.heap.size + 1]? = some (.cells #[.slice (some ⟨g2, o2, none⟩) n c2, .int .u64 (f : Int), .slice none 0 0] 39 (0, 0))) := hF1
   have HR1 := hideP ((hB1.same _ (show w.heap.size ≠ w.heap.size + 1 by omega)).trans HR.out)
   have HBW1 := hideP (HBW.out.trans (hB1.below.mono (by omega)))
   have HM1 := hideP (HM.out.moved HBW1.out)
   clear hW1 hF1 hB1 fr cz HF HR hf2 HBW
   obtain ⟨N, hN⟩ : ∃ N, N = n + n + 1 := ⟨_, rfl⟩
   obtain ⟨NN, hNN⟩ : ∃ NN, NN = n + n := ⟨_, rfl⟩
   have hn := HH.out.n8
   have hmk := Zbo W1 N (by omega)
   have e1 : IntKind.i64.wrap (2 * (n : Int)) = (NN : Int) := by rw [IntKind.wrap_i64]; omega
   have e2 : IntKind.i64.wrap ((NN : Int) + 1) = (N : Int) := by rw [IntKind.wrap_i64]; omega
   have gNN : (NN : Int) < N := by omega
   have HNx : Hid (N = n + n + 1 ∧ NN = n + n ∧ n ≤ 8) := ⟨hN, hNN, hn⟩
   clear hN hNN hn
   refine Zad (fun K5 HK5 => ?_)
   go_wp2_with fail
   refine HK5.out _ _ ?_
   refine Zam (fun W2 hW2 => ?_)
   have hD : W2.heap[W1.heap.size]? = some (.cells (cw N (fun _ => 0)) 27 (0, 0)) := by
    rw [hW2]
    exact Zaf _ _
   have hB2 : Below W1.heap.size W1 W2 := by
    rw [hW2]
    exact (Below.refl _ _).alloc (Nat.le_refl _) _
   obtain ⟨hN, hNN, hn⟩ := HNx.out
   have cz := Zae (o := NN) hD (ZbO _ (by omega))
   have fr : ∀ o, W2.frozen? ⟨W1.heap.size, o, none⟩ = false := fun o => Zax hD
   have hD3 := Zaz (o := NN) hD (.int .u64 ((1 : Nat) : Int))
   rw [ZdT, Zfj (g := limb (18446744073709551616 ^ n * 18446744073709551616 ^ n)) (fun j _ => by rw [← Nat.pow_add, Zjn, ← hNN])] at hD3
   have hB3 := (But.refl W1.heap.size W2).set NN (.int .u64 ((1 : Nat) : Int))
   clear hW2 hmk hN hNN hn
   refine Zad (fun K6 HK6 => ?_)
   go_wp2_with fail
   refine HK6.out _ _ ?_
   refine Zam (fun W3 hW3 => ?_)
   simp only [Int.natCast_one] at hD3 hB3
   obtain ⟨hN, hNN, hn⟩ := HNx.out
   rw [← hW3] at hD3 hB3
   have hB13 := hB2.trans hB3.below
   have HF3 := hideP ((hB13.block _ (Zaa HF1.out)).trans HF1.out)
   have HR3 := hideP ((hB13.block _ (Zaa HR1.out)).trans HR1.out)
   have HBW3 := hideP (HBW1.out.trans (hB13.mono HBW1.out.size))
   have C := hideP (ZgM (na := N) (n := n) (by omega) hn (18446744073709551616 ^ n * 18446744073709551616 ^ n) M (by rw [← Nat.pow_add, ← hNN]; exact Nat.pow_lt_pow_right (by decide) (by omega)) HH.out.pos HH.out.lt W3 _ _ (ZbP (by omega) hD3) (HM1.out.moved hB13))
   clear hW3 hD3 hB3 hB13 hB2 cz fr hD HF1 HR1 HBW1 HM1 e1 e2 gNN hn hN hNN
   refine Zad (fun K7 HK7 => ?_)
   go_wp2_with fail
   refine C.out.mono ?_
   rintro r W4 ⟨⟨tv, rfl, hL⟩, hb⟩
   have HF4 := hideP ((hb.block _ (Zaa HF3.out)).trans HF3.out)
   have HR4 := hideP ((hb.block _ (Zaa HR3.out)).trans HR3.out)
   have HBW4 := hideP (HBW3.out.trans (hb.mono HBW3.out.size))
   have HL := hideP hL
   obtain ⟨g5, o5, c5, rfl, -, -, -, -⟩ := hL.ex
   have fr : ∀ o, W4.frozen? ⟨w.heap.size + 1, o, none⟩ = false := fun o => Zax HF4.out
   have cz := Zae (o := 2) HF4.out rfl
   clear hb HF3 HR3 HBW3 C
   go_wp2_with fail
   refine HK7.out _ _ ?_
   have hF5 := Zaz (o := 2) HF4.out (.slice (some ⟨g5, o5, none⟩) n c5)
   have hB5 := (But.refl (w.heap.size + 1) W4).set 2 (.slice (some ⟨g5, o5, none⟩) n c5)
   refine Zam (fun W5 hW5 => ?_)
   rw [← hW5] at hF5 hB5
   have hR5 := (hB5.same _ (show w.heap.size ≠ w.heap.size + 1 by omega)).trans HR4.out
   have HL5 : Hid (LW W5 (.slice (some ⟨g5, o5, none⟩) n c5) n (limb (18446744073709551616 ^ n * 18446744073709551616 ^ n % M))) := HL.out.other HN2.out HF4.out hB5
   have HB5 := hideP (HBW4.out.trans (hB5.below.mono (by omega)))
   have q0 := Zae (o := 0) hF5 rfl
   have q1 := Zae (o := 1) hF5 rfl
   have q2 := Zae (o := 2) hF5 rfl
   have r0 := Zae (o := 0) hR5 rfl
   have r1 := Zae (o := 1) hR5 rfl
   have r2 := Zae (o := 2) hR5 rfl
   have fr5 : ∀ o, W5.frozen? ⟨w.heap.size, o, none⟩ = false := fun o => Zax hR5
   have hB6 := (((But.refl w.heap.size W5).set 0 (.slice (some ⟨g2, o2, none⟩) n c2)).set 1 (.int .u64 (f : Int))).set 2 (.slice (some ⟨g5, o5, none⟩) n c5)
   have hR6 := Zaz (o := 2) (Zaz (o := 1) (Zaz (o := 0) hR5 (.slice (some ⟨g2, o2, none⟩) n c2)) (.int .u64 (f : Int))) (.slice (some ⟨g5, o5, none⟩) n c5)
   have HL6 := hideP (HL5.out.other HN2.out hR5 hB6)
   have HB6 := hideP (HB5.out.trans hB6.below)
   have z0 := Zae (o := 0) hR6 rfl
   have z1 := Zae (o := 1) hR6 rfl
   have z2 := Zae (o := 2) hR6 rfl
   clear hW5 hB5 HF4 HR4 HBW4 HL fr cz hF5 hR5 hB6 hR6
   go_wp2
   refine bodyPost_ret (v := .agg #[.slice (some ⟨g2, o2, none⟩) n c2, .int .u64 (f : Int), .slice (some ⟨g5, o5, none⟩) n c5]) (by simp [results, Tryz.results86, go_sem, z0, z1, z2]) rfl ?_
   exact ⟨⟨f, _, rfl, HL6.out, HFO.out⟩, HB6.out⟩
end Go.Proofs.YtcbdbnfgnonacaaGreat
