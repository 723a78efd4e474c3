/-
  Families of opcodes; how many bytes of data they have.
-/
import Derived.Test.YtaeadndihchbnaaDoorGasTilesC04
namespace Go.Proofs.YtaeadndihchbnaaDoor
open Go.RowKit Go.Shelf

/-- The opcode that stands for a family, and the number in it. -/
def famK (o : Nat) : Nat := if o < 96 then o else if o < 128 then 96 else if o < 144 then 128 else if o < 160 then 144 else if o ≤ 164 then 160 else o

def famN (o : Nat) : Int := if o < 96 then -1 else if o < 128 then o - 95 else if o < 144 then o - 127 else if o < 160 then o - 143 else if o ≤ 164 then o - 160 else -1

set_option maxHeartbeats 2000000 in
set_option maxRecDepth 100000 in
theorem family_any (o : Nat) (ho : o < 256) (w : World) : Calls Tryd.prog 54 #[.int .u8 o] w fun e w' => e = .returned (.tuple #[.int .u8 (famK o), .int .i64 (famN o)]) ∧ w' = w := by
  by_cases h0 : o < 96
  · have hk : famK o = o := by unfold famK; (repeat' split) <;> omega
    have hn : famN o = -1 := by unfold famN; (repeat' split) <;> omega
    rw [hk, hn]
    have g96a : ¬ (96 : Int) ≤ (o : Int) := by omega
    have g128b : (o : Int) < 128 := by omega
    have g128a : ¬ (128 : Int) ≤ (o : Int) := by omega
    have g144b : (o : Int) < 144 := by omega
    have g144a : ¬ (144 : Int) ≤ (o : Int) := by omega
    have g160b : (o : Int) < 160 := by omega
    have g160a : ¬ (160 : Int) ≤ (o : Int) := by omega
    have g164c : (o : Int) ≤ 164 := by omega
    clear hk hn ho h0
    go_enter Tryd.func54, Tryd.ntmps54
    go_wp2_with fail
    go_ret2
    exact ⟨rfl, rfl⟩
  by_cases h1 : o < 128
  · have hk : famK o = 96 := by unfold famK; (repeat' split) <;> omega
    have hn : famN o = (o : Int) - 95 := by unfold famN; (repeat' split) <;> omega
    rw [hk, hn]
    have g96a : (96 : Int) ≤ (o : Int) := by omega
    have g128b : (o : Int) < 128 := by omega
    have g128a : ¬ (128 : Int) ≤ (o : Int) := by omega
    have g144b : (o : Int) < 144 := by omega
    have g144a : ¬ (144 : Int) ≤ (o : Int) := by omega
    have g160b : (o : Int) < 160 := by omega
    have g160a : ¬ (160 : Int) ≤ (o : Int) := by omega
    have g164c : (o : Int) ≤ 164 := by omega
    have e1 : IntKind.u8.wrap ((o : Int) - 96) = (o : Int) - 96 := by rw [IntKind.wrap_u8]; omega
    have e2 : IntKind.i64.wrap ((o : Int) - 96) = (o : Int) - 96 := by rw [IntKind.wrap_i64]; omega
    have e3 : IntKind.i64.wrap ((o : Int) - 96 + 1) = (o : Int) - 95 := by rw [IntKind.wrap_i64]; omega
    clear hk hn ho h0 h1
    go_enter Tryd.func54, Tryd.ntmps54
    go_wp2_with fail
    go_ret2
    exact ⟨rfl, rfl⟩
  by_cases h2 : o < 144
  · have hk : famK o = 128 := by unfold famK; (repeat' split) <;> omega
    have hn : famN o = (o : Int) - 127 := by unfold famN; (repeat' split) <;> omega
    rw [hk, hn]
    have g96a : (96 : Int) ≤ (o : Int) := by omega
    have g128b : ¬ (o : Int) < 128 := by omega
    have g128a : (128 : Int) ≤ (o : Int) := by omega
    have g144b : (o : Int) < 144 := by omega
    have g144a : ¬ (144 : Int) ≤ (o : Int) := by omega
    have g160b : (o : Int) < 160 := by omega
    have g160a : ¬ (160 : Int) ≤ (o : Int) := by omega
    have g164c : (o : Int) ≤ 164 := by omega
    have e1 : IntKind.u8.wrap ((o : Int) - 128) = (o : Int) - 128 := by rw [IntKind.wrap_u8]; omega
    have e2 : IntKind.i64.wrap ((o : Int) - 128) = (o : Int) - 128 := by rw [IntKind.wrap_i64]; omega
    have e3 : IntKind.i64.wrap ((o : Int) - 128 + 1) = (o : Int) - 127 := by rw [IntKind.wrap_i64]; omega
    clear hk hn ho h0 h1 h2
    go_enter Tryd.func54, Tryd.ntmps54
    go_wp2_with fail
    go_ret2
    exact ⟨rfl, rfl⟩
  by_cases h3 : o < 160
  · have hk : famK o = 144 := by unfold famK; (repeat' split) <;> omega
    have hn : famN o = (o : Int) - 143 := by unfold famN; (repeat' split) <;> omega
    rw [hk, hn]
    have g96a : (96 : Int) ≤ (o : Int) := by omega
    have g128b : ¬ (o : Int) < 128 := by omega
    have g128a : (128 : Int) ≤ (o : Int) := by omega
    have g144b : ¬ (o : Int) < 144 := by omega
    have g144a : (144 : Int) ≤ (o : Int) := by omega
    have g160b : (o : Int) < 160 := by omega
    have g160a : ¬ (160 : Int) ≤ (o : Int) := by omega
    have g164c : (o : Int) ≤ 164 := by omega
    have e1 : IntKind.u8.wrap ((o : Int) - 144) = (o : Int) - 144 := by rw [IntKind.wrap_u8]; omega
    have e2 : IntKind.i64.wrap ((o : Int) - 144) = (o : Int) - 144 := by rw [IntKind.wrap_i64]; omega
    have e3 : IntKind.i64.wrap ((o : Int) - 144 + 1) = (o : Int) - 143 := by rw [IntKind.wrap_i64]; omega
    clear hk hn ho h0 h1 h2 h3
    go_enter Tryd.func54, Tryd.ntmps54
    go_wp2_with fail
    go_ret2
    exact ⟨rfl, rfl⟩
  by_cases h4 : o ≤ 164
  · have hk : famK o = 160 := by unfold famK; (repeat' split) <;> omega
    have hn : famN o = (o : Int) - 160 := by unfold famN; (repeat' split) <;> omega
    rw [hk, hn]
    have g96a : (96 : Int) ≤ (o : Int) := by omega
    have g128b : ¬ (o : Int) < 128 := by omega
    have g128a : (128 : Int) ≤ (o : Int) := by omega
    have g144b : ¬ (o : Int) < 144 := by omega
    have g144a : (144 : Int) ≤ (o : Int) := by omega
    have g160b : ¬ (o : Int) < 160 := by omega
    have g160a : (160 : Int) ≤ (o : Int) := by omega
    have g164c : (o : Int) ≤ 164 := by omega
    have e1 : IntKind.u8.wrap ((o : Int) - 160) = (o : Int) - 160 := by rw [IntKind.wrap_u8]; omega
    have e2 : IntKind.i64.wrap ((o : Int) - 160) = (o : Int) - 160 := by rw [IntKind.wrap_i64]; omega
    have e3 : IntKind.i64.wrap ((o : Int) - 160 + 1) = (o : Int) - 159 := by rw [IntKind.wrap_i64]; omega
    clear hk hn ho h0 h1 h2 h3 h4
    go_enter Tryd.func54, Tryd.ntmps54
    go_wp2_with fail
    go_ret2
    exact ⟨rfl, rfl⟩
  have hk : famK o = o := by unfold famK; (repeat' split) <;> omega
  have hn : famN o = -1 := by unfold famN; (repeat' split) <;> omega
  rw [hk, hn]
  have g96a : (96 : Int) ≤ (o : Int) := by omega
  have g128b : ¬ (o : Int) < 128 := by omega
  have g128a : (128 : Int) ≤ (o : Int) := by omega
  have g144b : ¬ (o : Int) < 144 := by omega
  have g144a : (144 : Int) ≤ (o : Int) := by omega
  have g160b : ¬ (o : Int) < 160 := by omega
  have g160a : (160 : Int) ≤ (o : Int) := by omega
  have g164c : ¬ (o : Int) ≤ 164 := by omega
  clear hk hn ho h0 h1 h2 h3 h4
  go_enter Tryd.func54, Tryd.ntmps54
  go_wp2_with fail
  go_ret2
  exact ⟨rfl, rfl⟩

set_option maxHeartbeats 2000000 in
set_option maxRecDepth 100000 in
theorem dataOf_any (o : Nat) (ho : o < 256) (w : World) : Calls Tryd.prog 59 #[.int .u8 o] w fun e w' => e = .returned (.int .i64 (skipN o)) ∧ w' = w := by
  have hc := family_any o ho w
  by_cases h : 96 ≤ o ∧ o ≤ 127
  · have hk : famK o = 96 := by unfold famK; (repeat' split) <;> omega
    have hn : famN o = (skipN o : Int) := by unfold famN skipN; (repeat' split) <;> omega
    rw [hk, hn] at hc
    generalize skipN o = s at *
    clear hk hn h ho
    have HC := hideP hc
    clear hc
    go_enter Tryd.func59, Tryd.ntmps59
    go_wp2_with fail
    refine HC.out.mono ?_
    rintro e w' ⟨rfl, rfl⟩
    go_wp2_with fail
    go_ret
    exact ⟨rfl, rfl⟩
  · have hk : ¬ (famK o : Int) = 96 := by unfold famK; (repeat' split) <;> omega
    have hn : skipN o = 0 := by unfold skipN; rw [if_neg h]
    rw [hn]
    generalize famK o = k at *
    generalize famN o = s at *
    clear hn h ho
    have HC := hideP hc
    clear hc
    go_enter Tryd.func59, Tryd.ntmps59
    go_wp2_with fail
    refine HC.out.mono ?_
    rintro e w' ⟨rfl, rfl⟩
    go_wp2_with fail
    go_ret
    exact ⟨rfl, rfl⟩

end Go.Proofs.YtaeadndihchbnaaDoor
