/-
  The head of a form: what the program reads off its first bytes.
-/
import Derived.Scope
import Derived.Lib.BitFns
import Derived.Test.YtigebmidfddbcaaRlpMeansC01
namespace Go.Proofs.Ytigebmidfddbcaa
open Go.RowKit

/-- The number that the digits behind the first byte tell. -/
def dv (bs : Nat → Nat) : Nat → Nat
  | 0 => 0
  | k + 1 => dv bs k * 256 + bs (k + 1)

/-- What a first byte and the digits behind it tell: where the payload begins, its length, the error. -/
def rl (bs : Nat → Nat) (n m : Nat) : Nat × Nat × Nat :=
  if bs 0 - m ≤ 55 then (1, bs 0 - m, 0)
  else if n < bs 0 - m - 54 then (0, 0, 41)
  else if bs 1 = 0 ∨ dv bs (bs 0 - m - 55) ≤ 55 ∨ 1099511627776 < dv bs (bs 0 - m - 55) then (0, 0, 42)
  else (bs 0 - m - 54, dv bs (bs 0 - m - 55), 0)

theorem dv_mono (bs : Nat → Nat) : ∀ {k j : Nat}, k ≤ j → dv bs k ≤ dv bs j
  | k, 0, h => by
    obtain rfl : k = 0 := by omega
    exact Nat.le_refl _
  | k, j + 1, h => by
    by_cases e : k = j + 1
    · rw [e]; exact Nat.le_refl _
    · have := dv_mono bs (k := k) (j := j) (by omega)
      show dv bs k ≤ dv bs j * 256 + bs (j + 1)
      omega

theorem noGoto_ret {Q : Exit → Act → World → Prop} {a : Act} {w : World} (h : Q .ret a w) : Exit.noGoto Q .ret a w := h

set_option maxHeartbeats 4000000 in
set_option maxRecDepth 100000 in
theorem readLength_any {ao : Option Addr} {n cap : Nat} {bs : Nat → Nat} (m : Nat) (w : World) (h : BS w ao n cap bs) (hn : 0 < n) (hm : m ≤ bs 0) (h63 : bs 0 - m ≤ 63) :
    Calls Try.prog 53 #[.slice ao n cap, .int .u8 m] w fun e w' => e = .returned (.tuple #[.int .i64 (rl bs n m).1, .int .u64 (rl bs n m).2.1, .int .i64 (rl bs n m).2.2]) ∧ w = w' := by
  obtain ⟨ad, rfl, hc0⟩ := h.cell 0 hn
  have hc : w.cell? ad = some (.int .u8 (bs 0)) := by simpa [Addr.add] using hc0
  have h256 := h.lt 0
  have e1 : IntKind.u8.wrap ((bs 0 : Int) - (m : Int)) = ((bs 0 - m : Nat) : Int) := by rw [IntKind.wrap_u8]; omega
  have e2 : IntKind.u64.wrap ((bs 0 - m : Nat) : Int) = ((bs 0 - m : Nat) : Int) := by rw [IntKind.wrap_u64]; omega
  have gn : (0 : Int) < (n : Int) := by omega
  have gn' : 0 < n := hn
  by_cases h55 : bs 0 - m ≤ 55
  · have hr : rl bs n m = (1, bs 0 - m, 0) := by unfold rl; rw [if_pos h55]
    rw [hr]
    have g1 : ((bs 0 - m : Nat) : Int) ≤ 55 := by omega
    generalize bs 0 - m = d at *
    generalize bs 0 = c at *
    clear hr h hc0 h55 hm h63 h256
    go_enter Try.func53, Try.ntmps53
    go_wp2_with fail
    refine wp_scope_straight ?_
    go_wp2_with fail
    refine noGoto_ret ?_
    go_ret3
    exact ⟨rfl, rfl⟩
  · have g1 : ¬ ((bs 0 - m : Nat) : Int) ≤ 55 := by omega
    have e3 : IntKind.u64.wrap (((bs 0 - m : Nat) : Int) - 55) = ((bs 0 - m - 55 : Nat) : Int) := by rw [IntKind.wrap_u64]; omega
    have e4 : IntKind.i64.wrap ((bs 0 - m - 55 : Nat) : Int) = ((bs 0 - m - 55 : Nat) : Int) := by rw [IntKind.wrap_i64]; omega
    have e5 : IntKind.i64.wrap (1 + ((bs 0 - m - 55 : Nat) : Int)) = ((bs 0 - m - 54 : Nat) : Int) := by rw [IntKind.wrap_i64]; omega
    by_cases hsh : n < bs 0 - m - 54
    · have hr : rl bs n m = (0, 0, 41) := by unfold rl; rw [if_neg h55, if_pos hsh]
      rw [hr]
      have g2 : ((bs 0 - m - 54 : Nat) : Int) > (n : Int) := by omega
      have g2' : (n : Int) < ((bs 0 - m - 54 : Nat) : Int) := by omega
      generalize bs 0 - m - 54 = f at *
      generalize bs 0 - m - 55 = g at *
      generalize bs 0 - m = d at *
      generalize bs 0 = c at *
      clear hr h hc0 h55 hm h63 h256 hsh
      go_enter Try.func53, Try.ntmps53
      go_wp2_with fail
      refine wp_scope_straight ?_
      go_wp2_with fail
      refine noGoto_ret ?_
      go_ret3
      exact ⟨rfl, rfl⟩
    · have g2 : ¬ ((bs 0 - m - 54 : Nat) : Int) > (n : Int) := by omega
      have g2' : ¬ (n : Int) < ((bs 0 - m - 54 : Nat) : Int) := by omega
      obtain ⟨ao', hB, hsl⟩ := h.part (l := 1) (k := bs 0 - m - 54) (by omega) (by omega)
      have hfd : bs 0 - m - 54 - 1 = bs 0 - m - 55 := by omega
      rw [hfd] at hB hsl
      have hsl1 : ∀ W : World, (Instr.sliceAt 23 (.slice (some ad) n cap) (some (.int .i64 1)) (some (.int .i64 ((bs 0 - m - 54 : Nat) : Int))) none).run Try.prog W = .ok (.slice ao' (bs 0 - m - 55) (cap - 1)) W := hsl
      have hrl : rl bs n m = if bs 1 = 0 ∨ dv bs (bs 0 - m - 55) ≤ 55 ∨ 1099511627776 < dv bs (bs 0 - m - 55) then (0, 0, 42) else (bs 0 - m - 54, dv bs (bs 0 - m - 55), 0) := by unfold rl; rw [if_neg h55, if_neg hsh]
      have HRL := hideP hrl
      have HB := hideP hB
      have hg8 : bs 0 - m - 55 ≤ 8 := by omega
      have hg1 : 1 ≤ bs 0 - m - 55 := by omega
      have HG8 := hideP hg8
      have HG1 := hideP hg1
      have HLT := hideP h.lt
      generalize bs 0 - m - 54 = f at *
      generalize bs 0 - m - 55 = g at *
      generalize bs 0 - m = d at *
      generalize bs 0 = c at *
      clear hrl h hc0 h55 hm h63 h256 hsh hsl hB hg8 hg1 hfd
      go_enter Try.func53, Try.ntmps53
      go_wp2_with fail
      refine wp_scope_straight ?_
      go_wp2_with fail
      refine wp_label ?_
      go_wp2_with fail
      rename_i Q' K hK
      have HK := hideP hK
      clear hK
      go_loopw [7, 32] (fun v i wr => ∃ (k : Nat), k ≤ g ∧ i = .int .i64 k ∧ v = .int .u64 (dv bs k) ∧ (0 < k → bs 1 ≠ 0 ∧ dv bs k ≠ 0 ∧ dv bs k ≤ 1099511627776) ∧ wr = w) (fun _ i _ => g - (intOf i).toNat)
      case atStart => exact ⟨0, Nat.zero_le _, rfl, rfl, fun h => absurd h (by omega), rfl⟩
      case round =>
        obtain ⟨k, hk, rfl, rfl, hnz, rfl⟩ := hrel
        have hg8 := HG8.out
        by_cases hlt : k < g
        · have HN : Hid (k < g) := hlt
          obtain ⟨ad', e', hcell⟩ := HB.out.cell k hlt
          subst e'
          have hd256 := HLT.out (1 + k)
          have hdvb : dv bs k ≤ 1099511627776 := by
            by_cases h0 : k = 0
            · subst h0; exact Nat.zero_le _
            · exact (hnz (by omega)).2.2
          have hstep : dv bs (k + 1) = dv bs k * 256 + bs (1 + k) := by show dv bs k * 256 + bs (k + 1) = _; rw [Nat.add_comm k 1]
          have hkg := dv_mono bs (show k + 1 ≤ g from hlt)
          have HKG := hideP hkg
          have HNZ := hideP hnz
          have HST := hideP hstep
          have hfirst : k = 0 → bs (1 + k) = bs 1 := fun e => by rw [e]
          have HF := hideP hfirst
          have e8 : bits .or .u64 ((dv bs k * 256 : Nat) : Int) ((bs (1 + k) : Nat) : Int) = ((dv bs (k + 1) : Nat) : Int) := by
            rw [bits_or_u64_nat _ _ (by omega) (by omega), hstep, Nat.mul_comm]
            congr 1
            exact (Nat.two_pow_add_eq_or_of_lt (i := 8) hd256 (dv bs k)).symm
          have e6' : IntKind.u64.wrap (((dv bs k : Nat) : Int) * 256) = ((dv bs k * 256 : Nat) : Int) := by rw [IntKind.wrap_u64]; omega
          have e7 : IntKind.u64.wrap ((bs (1 + k) : Nat) : Int) = ((bs (1 + k) : Nat) : Int) := by rw [IntKind.wrap_u64]; omega
          have e9 : IntKind.i64.wrap ((k : Int) + 1) = (k : Int) + 1 := by rw [IntKind.wrap_i64]; omega
          have g4 : (k : Int) < (g : Int) := by omega
          have hy0 : bs 1 = 0 → k = 0 → dv bs (k + 1) = 0 := fun h1 h2 => by subst h2; show 0 * 256 + bs 1 = 0; omega
          have hy1 : dv bs (k + 1) = 0 → bs 1 = 0 := fun h1 => by
            by_cases h0 : k = 0
            · have := hfirst h0; omega
            · have := (hnz (by omega)).2.1; omega
          have HY0 := hideP hy0
          have HY1 := hideP hy1
          clear hnz hstep hkg hfirst hd256 hdvb hk hg8 hlt hy0 hy1
          generalize hP : dv bs k * 256 = P at *
          generalize hy : dv bs (k + 1) = y at *
          have HYY := hideP hy
          generalize dv bs k = x at *
          generalize bs (1 + k) = dg at *
          clear hP hy
          by_cases hz : y = 0
          · subst hz
            have HR : Hid (rl bs n m = (0, 0, 42)) := HRL.out.trans (if_pos (Or.inl (HY1.out rfl)))
            have e8' : bits .or .u64 ((P : Nat) : Int) ((dg : Nat) : Int) = 0 := e8
            clear e8
            go_wp2_with fail
            refine HK.out _ _ ?_
            go_wp2_with fail
            refine noGoto_ret ?_
            go_ret3
            exact ⟨by rw [HR.out] <;> rfl, rfl⟩
          · by_cases hbig : 1099511627776 < y
            · have g5 : ¬ ((y : Nat) : Int) = 0 := by omega
              have g5' : (((y : Nat) : Int) == 0) = false := beq_eq_false_iff_ne.2 g5
              have g6 : ((y : Nat) : Int) > 1099511627776 := by omega
              have g6' : (1099511627776 : Int) < ((y : Nat) : Int) := by omega
              have g7 : ¬ ((y : Nat) : Int) ≤ 55 := by omega
              have HR : Hid (rl bs n m = (0, 0, 42)) := HRL.out.trans (if_pos (Or.inr (Or.inr (Nat.lt_of_lt_of_le hbig HKG.out))))
              clear hz hbig
              go_wp2_with fail
              refine HK.out _ _ ?_
              go_wp2_with fail
              refine noGoto_ret ?_
              go_ret3
              exact ⟨by rw [HR.out] <;> rfl, rfl⟩
            · have g5 : ¬ ((y : Nat) : Int) = 0 := by omega
              have g5' : (((y : Nat) : Int) == 0) = false := beq_eq_false_iff_ne.2 g5
              have g6 : ¬ ((y : Nat) : Int) > 1099511627776 := by omega
              have g6' : ¬ (1099511627776 : Int) < ((y : Nat) : Int) := by omega
              have HZ := hideP hz
              have HBG := hideP hbig
              clear hz hbig
              go_wp2_with fail
              refine ⟨⟨k + 1, HN.out, by go_num, by rw [HYY.out], fun _ => ⟨fun e => ?_, by rw [HYY.out]; exact HZ.out, by rw [HYY.out]; have := HBG.out; omega⟩, trivial⟩, by have := HN.out; simp [intOf]; omega⟩
              by_cases h0 : k = 0
              · exact HZ.out (HY0.out e h0)
              · exact (HNZ.out (by omega)).1 e
        · have hk6 : k = g := by omega
          subst hk6
          have g4 : ¬ ((k : Nat) : Int) < (k : Int) := by omega
          have hg1 := HG1.out
          obtain ⟨n1, n2, n3⟩ := hnz (by omega)
          by_cases h55 : dv bs k ≤ 55
          · have g7 : ((dv bs k : Nat) : Int) ≤ 55 := by omega
            have HR : Hid (rl bs n m = (0, 0, 42)) := HRL.out.trans (if_pos (Or.inr (Or.inl h55)))
            clear hnz n1 n2 n3 h55 hlt hk hg8
            generalize dv bs k = y at *
            go_wp2_with fail
            refine HK.out _ _ ?_
            go_wp2_with fail
            refine noGoto_ret ?_
            go_ret3
            exact ⟨by rw [HR.out] <;> rfl, rfl⟩
          · have g7 : ¬ ((dv bs k : Nat) : Int) ≤ 55 := by omega
            have g6 : ¬ ((dv bs k : Nat) : Int) > 1099511627776 := by omega
            have g6' : ¬ (1099511627776 : Int) < ((dv bs k : Nat) : Int) := by omega
            have HR : Hid (rl bs n m = (f, dv bs k, 0)) := HRL.out.trans (if_neg (by omega))
            clear hnz n1 n2 n3 h55 hlt hk hg8
            generalize dv bs k = y at *
            go_wp2_with fail
            refine HK.out _ _ ?_
            go_wp2_with fail
            refine noGoto_ret ?_
            go_ret3
            exact ⟨by rw [HR.out] <;> rfl, rfl⟩

end Go.Proofs.Ytigebmidfddbcaa
