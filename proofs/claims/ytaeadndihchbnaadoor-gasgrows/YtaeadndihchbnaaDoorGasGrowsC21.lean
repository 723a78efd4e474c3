/-
  GasGrows: memory that grows in two steps costs what it costs in one, and never shrinks.
-/
import Derived.Test.YtaeadndihchbnaaDoorGasGrowsC20
namespace Go.Proofs.YtaeadndihchbnaaDoor
open Go.RowKit Go.Shelf

theorem growT_eq (s a b : Nat) : growT s a b = ((growN s a b).1, (growN s a b).2.1, ((growN s a b).2.2 : Int)) := by
  unfold growT growN
  (repeat' split) <;> rfl

theorem grow_size (s a b : Nat) : (growN s a b).1 ≤ s + 32 * wds (a + b) := by
  unfold growN
  (repeat' split) <;> dsimp only <;> omega

theorem wsm {Y : Nat} (h : Y < 18446744073709551616) : wv Y = .agg #[.int .u64 Y, .int .u64 0, .int .u64 0, .int .u64 0] := wv_small h

theorem mem_all (s : Nat) : memN s ≤ 135004160 := by
  by_cases h : 8388608 < s
  · unfold memN; rw [if_pos h]; omega
  · exact mem_le (by omega)

set_option maxHeartbeats 4000000 in
set_option maxRecDepth 100000 in
theorem gasGrows_walk (a : Nat) (_ : a < 18446744073709551616) (l : Nat) (_ : l < 18446744073709551616) (a2 : Nat) (_ : a2 < 18446744073709551616) (l2 : Nat) (_ : l2 < 18446744073709551616) (w : World) : Calls Tryd.prog 9 #[.int .u64 a, .int .u64 l, .int .u64 a2, .int .u64 l2] w fun e w' => e = .returned (.bool true) ∧ Below w.heap.size w w' := by
  have hp : a % 100000 < 100000 := Nat.mod_lt _ (by decide)
  have hq : l % 100000 < 100000 := Nat.mod_lt _ (by decide)
  have hp2 : a2 % 100000 < 100000 := Nat.mod_lt _ (by decide)
  have hq2 : l2 % 100000 < 100000 := Nat.mod_lt _ (by decide)
  have r0 : (a : Int) % 100000 = ((a % 100000 : Nat) : Int) := by omega
  have r1 : (l : Int) % 100000 = ((l % 100000 : Nat) : Int) := by omega
  have r2 : (a2 : Int) % 100000 = ((a2 % 100000 : Nat) : Int) := by omega
  have r3 : (l2 : Int) % 100000 = ((l2 % 100000 : Nat) : Int) := by omega
  generalize a % 100000 = p at *
  generalize l % 100000 = q at *
  generalize a2 % 100000 = p2 at *
  generalize l2 % 100000 = q2 at *
  have v0 : IntKind.u64.wrap (p : Int) = (p : Int) := by rw [IntKind.wrap_u64]; omega
  have v1 : IntKind.u64.wrap (q : Int) = (q : Int) := by rw [IntKind.wrap_u64]; omega
  have v2 : IntKind.u64.wrap (p2 : Int) = (p2 : Int) := by rw [IntKind.wrap_u64]; omega
  have v3 : IntKind.u64.wrap (q2 : Int) = (q2 : Int) := by rw [IntKind.wrap_u64]; omega
  have ht := grow_two hp hq hp2 hq2
  have g7 := grow_size 0 p q
  have g8 := grow_size (growN 0 p q).1 p2 q2
  have g9 : wds (p + q) ≤ 6250 := by unfold wds; omega
  have g10 : wds (p2 + q2) ≤ 6250 := by unfold wds; omega
  have hc := fun W => grow_any 0 p q (by decide) W
  have hc2 := fun W => grow_any (growN 0 p q).1 p2 q2 (by omega) W
  rw [Nat.mod_eq_of_lt (show p < M256 by unfold M256; omega), Nat.mod_eq_of_lt (show q < M256 by unfold M256; omega), growT_eq] at hc
  rw [Nat.mod_eq_of_lt (show p2 < M256 by unfold M256; omega), Nat.mod_eq_of_lt (show q2 < M256 by unfold M256; omega), growT_eq] at hc2
  rw [wsm (show p < 18446744073709551616 by omega), wsm (show q < 18446744073709551616 by omega)] at hc
  rw [wsm (show p2 < 18446744073709551616 by omega), wsm (show q2 < 18446744073709551616 by omega)] at hc2
  dsimp only at ht hc hc2
  generalize hx : growN 0 p q = x at *
  obtain ⟨x1, x2, x3⟩ := x
  dsimp only at ht g8 hc hc2
  generalize hy : growN x1 p2 q2 = y at *
  obtain ⟨y1, y2, y3⟩ := y
  dsimp only at ht g7 g8 hc hc2
  obtain ⟨h1, h2, h3, h4, h5, h6, h7, h8⟩ := ht
  subst h1 h2
  have hb := mem_all y1
  have hm := fun W => pureB (memory_any y1 (by omega) W)
  have HC := hideP hc
  have HC2 := hideP hc2
  have ew : ((x2 + y2 : Nat) : Int) = (x2 : Int) + (y2 : Int) := by omega
  rw [h6, ew] at hm
  have HM := hideP hm
  have HAW := hideP (fun W => awake_any W)
  have w3 : IntKind.u64.wrap ((x2 : Int) + (y2 : Int)) = (x2 : Int) + (y2 : Int) := by rw [IntKind.wrap_u64]; omega
  have m1 : (x1 : Int) % 32 = 0 := by omega
  have m2 : (y1 : Int) % 32 = 0 := by omega
  have m3 : ¬ (y1 : Int) < (x1 : Int) := by omega
  have w1 : IntKind.u64.wrap ((p : Int) + (q : Int)) = (p : Int) + (q : Int) := by rw [IntKind.wrap_u64]; omega
  have w2 : IntKind.u64.wrap ((p2 : Int) + (q2 : Int)) = (p2 : Int) + (q2 : Int) := by rw [IntKind.wrap_u64]; omega
  have HF := hideP (And.intro h7 h8)
  clear hc hc2 hm h3 h4 h5 h6 h7 h8 hb g7 g8 g9 g10 hp hq hp2 hq2 hx hy ew
  by_cases hq0 : q = 0
  · by_cases hq1 : q2 = 0
    · subst hq0
      subst hq1
      clear HF
      go_enter Tryd.func9, Tryd.ntmps9
      go_wp2_with fail
      refine (HAW.out _).mono ?_
      rintro e W1 ⟨rfl, HBW⟩
      go_wp2_with fail
      refine (HC.out _).mono ?_
      rintro e W2 ⟨rfl, hb⟩
      replace HBW := hideP (HBW.trans (hb.mono HBW.size))
      clear hb
      go_wp2_with fail
      refine (HC2.out _).mono ?_
      rintro e W3 ⟨rfl, hb⟩
      replace HBW := hideP (HBW.out.trans (hb.mono HBW.out.size))
      clear hb
      go_wp2_with fail
      refine (HM.out _).mono ?_
      rintro e W4 ⟨rfl, hb⟩
      replace HBW := hideP (HBW.out.trans (hb.mono HBW.out.size))
      clear hb
      go_wp2_with fail
      go_ret
      exact ⟨rfl, HBW.out⟩
    · subst hq0
      have z2 : ¬ (q2 : Int) = 0 := by omega
      have l2 : (p2 : Int) + (q2 : Int) ≤ (y1 : Int) := by have := HF.out.2; omega
      clear HF hq1
      go_enter Tryd.func9, Tryd.ntmps9
      go_wp2_with fail
      refine (HAW.out _).mono ?_
      rintro e W1 ⟨rfl, HBW⟩
      go_wp2_with fail
      refine (HC.out _).mono ?_
      rintro e W2 ⟨rfl, hb⟩
      replace HBW := hideP (HBW.trans (hb.mono HBW.size))
      clear hb
      go_wp2_with fail
      refine (HC2.out _).mono ?_
      rintro e W3 ⟨rfl, hb⟩
      replace HBW := hideP (HBW.out.trans (hb.mono HBW.out.size))
      clear hb
      go_wp2_with fail
      refine (HM.out _).mono ?_
      rintro e W4 ⟨rfl, hb⟩
      replace HBW := hideP (HBW.out.trans (hb.mono HBW.out.size))
      clear hb
      go_wp2_with fail
      go_ret
      exact ⟨rfl, HBW.out⟩
  · by_cases hq1 : q2 = 0
    · have z1 : ¬ (q : Int) = 0 := by omega
      subst hq1
      have l1 : (p : Int) + (q : Int) ≤ (x1 : Int) := by have := HF.out.1; omega
      clear HF hq0
      go_enter Tryd.func9, Tryd.ntmps9
      go_wp2_with fail
      refine (HAW.out _).mono ?_
      rintro e W1 ⟨rfl, HBW⟩
      go_wp2_with fail
      refine (HC.out _).mono ?_
      rintro e W2 ⟨rfl, hb⟩
      replace HBW := hideP (HBW.trans (hb.mono HBW.size))
      clear hb
      go_wp2_with fail
      refine (HC2.out _).mono ?_
      rintro e W3 ⟨rfl, hb⟩
      replace HBW := hideP (HBW.out.trans (hb.mono HBW.out.size))
      clear hb
      go_wp2_with fail
      refine (HM.out _).mono ?_
      rintro e W4 ⟨rfl, hb⟩
      replace HBW := hideP (HBW.out.trans (hb.mono HBW.out.size))
      clear hb
      go_wp2_with fail
      go_ret
      exact ⟨rfl, HBW.out⟩
    · have z1 : ¬ (q : Int) = 0 := by omega
      have z2 : ¬ (q2 : Int) = 0 := by omega
      have l1 : (p : Int) + (q : Int) ≤ (x1 : Int) := by have := HF.out.1; omega
      have l2 : (p2 : Int) + (q2 : Int) ≤ (y1 : Int) := by have := HF.out.2; omega
      clear HF hq0 hq1
      go_enter Tryd.func9, Tryd.ntmps9
      go_wp2_with fail
      refine (HAW.out _).mono ?_
      rintro e W1 ⟨rfl, HBW⟩
      go_wp2_with fail
      refine (HC.out _).mono ?_
      rintro e W2 ⟨rfl, hb⟩
      replace HBW := hideP (HBW.trans (hb.mono HBW.size))
      clear hb
      go_wp2_with fail
      refine (HC2.out _).mono ?_
      rintro e W3 ⟨rfl, hb⟩
      replace HBW := hideP (HBW.out.trans (hb.mono HBW.out.size))
      clear hb
      go_wp2_with fail
      refine (HM.out _).mono ?_
      rintro e W4 ⟨rfl, hb⟩
      replace HBW := hideP (HBW.out.trans (hb.mono HBW.out.size))
      clear hb
      go_wp2_with fail
      go_ret
      exact ⟨rfl, HBW.out⟩

end Go.Proofs.YtaeadndihchbnaaDoor
