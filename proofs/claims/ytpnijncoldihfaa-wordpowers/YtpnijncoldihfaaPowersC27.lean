/-
  A word that is put together bit by bit.
-/
import Derived.Test.YtpnijncoldihfaaPowersC24
import Derived.Test.YtpnijncoldihfaaPowersC25
namespace Go.Proofs.Ytpnijncoldihfaa
open Go.RowKit Go.Shelf

/-- A number below a limit, or the limit. -/
def smallN (X n : Nat) : Nat := if X % M256 < n then X % M256 else n

set_option maxHeartbeats 2000000 in
set_option maxRecDepth 100000 in
theorem refSmall_any (X n : Nat) (hn : n < 2147483648) (w : World) : Calls Try.prog 105 #[wv X, .int .i64 n] w fun e w' => e = .returned (.int .i64 (smallN X n)) ∧ Below w.heap.size w w' := by
  obtain ⟨x0, x1, x2, x3, h0, h1, h2, h3, e, hx⟩ := wv_limbs X
  have e1 : IntKind.u64.wrap (n : Int) = (n : Int) := by rw [IntKind.wrap_u64]; omega
  have HL : Hid (Below w.heap.size w (w.alloc (.cells #[.int .u64 x0, .int .u64 x1, .int .u64 x2, .int .u64 x3] 23 (0, 0)))) := (Below.refl _ _).alloc (Nat.le_refl _) _
  unfold smallN
  rw [e, hx]
  clear hx e
  by_cases b : x1 = 0
  · subst b
    by_cases c : x2 = 0
    · subst c
      by_cases d : x3 = 0
      · subst d
        have hv : num x0 0 0 0 = x0 := by unfold num; omega
        rw [hv]
        clear hv
        by_cases f : x0 < n
        · rw [if_pos f]
          have f1 : (x0 : Int) < (n : Int) := by omega
          have f2 : ¬ (n : Int) ≤ (x0 : Int) := by omega
          have f3 : IntKind.i64.wrap (x0 : Int) = (x0 : Int) := by rw [IntKind.wrap_i64]; omega
          clear f h0 h1 h2 h3 hn
          go_enter Try.func105, Try.ntmps105
          go_wp2_with fail
          go_ret
          exact ⟨rfl, HL.out⟩
        · rw [if_neg f]
          have f2 : (n : Int) ≤ (x0 : Int) := by omega
          have f1 : ¬ (x0 : Int) < (n : Int) := by omega
          clear f h0 h1 h2 h3 hn
          go_enter Try.func105, Try.ntmps105
          go_wp2_with fail
          go_ret
          exact ⟨rfl, HL.out⟩
      · rw [if_neg (by unfold num; omega)]
        have d' : ((x3 : Int) == 0) = false := by simp; omega
        have d2 : ¬ (x3 : Int) = 0 := by omega
        clear d h0 h1 h2 h3 hn
        go_enter Try.func105, Try.ntmps105
        go_wp2_with fail
        go_ret
        exact ⟨rfl, HL.out⟩
    · rw [if_neg (by unfold num; omega)]
      have d' : ((x2 : Int) == 0) = false := by simp; omega
      have d2 : ¬ (x2 : Int) = 0 := by omega
      clear c h0 h1 h2 h3 hn
      go_enter Try.func105, Try.ntmps105
      go_wp2_with fail
      go_ret
      exact ⟨rfl, HL.out⟩
  · rw [if_neg (by unfold num; omega)]
    have d' : ((x1 : Int) == 0) = false := by simp; omega
    have d2 : ¬ (x1 : Int) = 0 := by omega
    clear b h0 h1 h2 h3 hn
    go_enter Try.func105, Try.ntmps105
    go_wp2_with fail
    go_ret
    exact ⟨rfl, HL.out⟩

end Go.Proofs.Ytpnijncoldihfaa

namespace Go.Proofs.Ytpnijncoldihfaa
open Go.RowKit Go.Shelf

/-- Where a word that is put together bit by bit has come to. -/
structure BI (w wr : World) (bx br O A V : Nat) : Prop where
  x : wr.heap[bx]? = some (.cells (c4 (limb A)) 23 (0, 0))
  r : wr.heap[br]? = some (.cells (c4 (fun _ => 0)) 23 (0, 0))
  o : wr.heap[O]? = some (.cells (c4 (limb V)) 23 (0, 0))
  n1 : O ≠ bx
  n2 : O ≠ br
  h1 : w.heap.size ≤ br
  h2 : w.heap.size ≤ O
  b : Below w.heap.size w wr

theorem BI.drew {w wr : World} {bx br O A V : Nat} (I : BI w wr bx br O A V) : BI w wr.drew bx br O A V := ⟨I.x, I.r, I.o, I.n1, I.n2, I.h1, I.h2, I.b.drew⟩

theorem BI.call {w wr w' : World} {bx br O A V : Nat} (I : BI w wr bx br O A V) (h : Below wr.heap.size wr w') : BI w w' bx br O A V :=
  ⟨(h.block _ (lt_of_block I.x)).trans I.x, (h.block _ (lt_of_block I.r)).trans I.r, (h.block _ (lt_of_block I.o)).trans I.o, I.n1, I.n2, I.h1, I.h2, I.b.trans (h.mono I.b.size)⟩

theorem BI.put {w wr : World} {bx br O A V : Nat} (I : BI w wr bx br O A V) (V' : Nat) : BI w (wr.setCells O 0 (c4 (limb V')).toList) bx br O A V' := by
  have h := But.sets (c4 (limb V')).toList 0 (But.refl O wr)
  have ho := blk_sets (c4 (limb V')).toList 0 I.o
  rw [putAll4] at ho
  exact ⟨(h.same _ (Ne.symm I.n1)).trans I.x, (h.same _ (Ne.symm I.n2)).trans I.r, ho, I.n1, I.n2, I.h1, I.h2, I.b.trans (h.below.mono I.h2)⟩

theorem limb_nought : limb 0 = fun _ => 0 := by funext j; simp [limb]

theorem wv_two (F : Nat) : wv (F % 2 ^ 256) = wv F := wv_congr (by rw [show M256 = 2 ^ 256 by decide, Nat.mod_mod])

end Go.Proofs.Ytpnijncoldihfaa
