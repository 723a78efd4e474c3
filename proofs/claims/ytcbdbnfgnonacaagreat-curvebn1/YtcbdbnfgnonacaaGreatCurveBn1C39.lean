/-
  The law's walk.
-/
import Derived.Test.YtcbdbnfgnonacaaGreatCurveBn1C38
import Derived.Test.YtcbdbnfgnonacaaGreatCurveBn1C36
namespace Go.Proofs.YtcbdbnfgnonacaaGreat
open Go.RowKit Go.Shelf
open P4 (P3 dTimes dAdd)

theorem R256 : W4.R = 2 ^ 256 := by decide +kernel

theorem shortN_lt {k : Nat} (hk : k < W4.R) : shortN k < 2 ^ 256 := by
  rw [R256] at hk
  unfold shortN
  split
  · exact hk
  · exact Nat.lt_of_le_of_lt (Nat.mod_le _ _) hk

theorem good_lt {x y : Nat} {i : Bool} {q : P3} (h : x < nBnP ∧ y < nBnP → q.1 < nBnP ∧ q.2.1 < nBnP) : (resP (goodD nBnP x y 3 i) q).1 < W4.R ∧ (resP (goodD nBnP x y 3 i) q).2.1 < W4.R :=
  resP_lt fun h0 => by
    have := h (goodD_lt h0)
    exact ⟨lt_R this.1, lt_R this.2⟩

theorem curveBn1_any (a b c d : Nat) (i : Bool) (a2 b2 c2 d2 : Nat) (j : Bool) (k : Nat) (hk : k < W4.R) (w : World) : Calls Tryz.prog 4 #[.agg (pn a b c d i), .agg (pn a2 b2 c2 d2 j), W4.wv k] w fun r w' => r = .returned (.bool true) ∧ Below w.heap.size w w' := by
  have hm : 0 < nBnP := by decide +kernel
  have hA : (resP (if goodD nBnP (lo4 a) (lo4 c) 3 i = 0 then goodD nBnP (lo4 a2) (lo4 c2) 3 j else goodD nBnP (lo4 a) (lo4 c) 3 i) (dAdd nBnP (lo4 a) (lo4 c) i (lo4 a2) (lo4 c2) j)).1 < W4.R ∧ (resP (if goodD nBnP (lo4 a) (lo4 c) 3 i = 0 then goodD nBnP (lo4 a2) (lo4 c2) 3 j else goodD nBnP (lo4 a) (lo4 c) 3 i) (dAdd nBnP (lo4 a) (lo4 c) i (lo4 a2) (lo4 c2) j)).2.1 < W4.R := resP_lt fun h0 => by
    by_cases hg : goodD nBnP (lo4 a) (lo4 c) 3 i = 0
    · rw [if_pos hg] at h0
      have := dAdd_lt (i := i) (j := j) (goodD_lt hg) (goodD_lt h0)
      exact ⟨lt_R this.1, lt_R this.2⟩
    · rw [if_neg hg] at h0
      exact absurd h0 hg
  have hM : (resP (goodD nBnP (lo4 a) (lo4 c) 3 i) (dTimes nBnP (lo4 a) (lo4 c) i (shortN k) 256)).1 < W4.R ∧ (resP (goodD nBnP (lo4 a) (lo4 c) 3 i) (dTimes nBnP (lo4 a) (lo4 c) i (shortN k) 256)).2.1 < W4.R := good_lt fun h => dtimes_lt hm h
  have hN : (resP (goodD nBnP (lo4 a) (lo4 c) 3 i) (dNeg nBnP (lo4 a) (lo4 c) i)).1 < W4.R ∧ (resP (goodD nBnP (lo4 a) (lo4 c) 3 i) (dNeg nBnP (lo4 a) (lo4 c) i)).2.1 < W4.R := good_lt fun h => by
    unfold dNeg
    split
    · exact h
    · exact ⟨h.1, Nat.mod_lt _ hm⟩
  exact law_A rfl (shortN_lt hk) rfl rfl (good_three _ _ _) rfl rfl (add_three _ _ _ _ _ _) rfl rfl rfl rfl rfl rfl hA hN hM w

end Go.Proofs.YtcbdbnfgnonacaaGreat
