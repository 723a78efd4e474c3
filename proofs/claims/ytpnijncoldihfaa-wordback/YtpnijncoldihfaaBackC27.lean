/-
  Digits and the numbers that they tell.
-/
import Derived.Test.YtpnijncoldihfaaBackC24
import Derived.Test.YtpnijncoldihfaaBackC26
namespace Go.Proofs.Ytpnijncoldihfaa
open Go.RowKit Go.Shelf

/-- What a digit stands for; 16: it is none. -/
def digV (c : Nat) : Nat := if 48 ≤ c ∧ c ≤ 57 then c - 48 else if 97 ≤ c ∧ c ≤ 102 then c - 97 + 10 else if 65 ≤ c ∧ c ≤ 70 then c - 65 + 10 else 16

/-- A text's bytes. -/
def sb (s : ByteArray) (j : Nat) : Nat := (s.data[j]?.getD 0).toNat

theorem sb_lt (s : ByteArray) (j : Nat) : sb s j < 256 := UInt8.toNat_lt _

/-- The number that the first digits tell. -/
def pre (b : Nat) (s : Nat → Nat) : Nat → Option Nat
  | 0 => some 0
  | k + 1 => match pre b s k with
    | none => none
    | some v => if digV (s k) < b ∧ v * b + digV (s k) < M256 then some (v * b + digV (s k)) else none

theorem pre_none {b : Nat} {s : Nat → Nat} {k : Nat} (h : pre b s k = none) : ∀ n, k ≤ n → pre b s n = none
  | 0, hn => by
    obtain rfl : k = 0 := by omega
    exact h
  | n + 1, hn => by
    by_cases e : k = n + 1
    · rw [← e]; exact h
    · unfold pre
      rw [pre_none h n (by omega)]

theorem pre_bad {b : Nat} {s : Nat → Nat} {k v : Nat} (h : pre b s k = some v) (hbad : ¬ (digV (s k) < b ∧ v * b + digV (s k) < M256)) : pre b s (k + 1) = none := by
  unfold pre
  rw [h]
  exact if_neg hbad

theorem pre_good {b : Nat} {s : Nat → Nat} {k v : Nat} (h : pre b s k = some v) (hg : digV (s k) < b ∧ v * b + digV (s k) < M256) : pre b s (k + 1) = some (v * b + digV (s k)) := by
  show (match pre b s k with
    | none => none
    | some v => if digV (s k) < b ∧ v * b + digV (s k) < M256 then some (v * b + digV (s k)) else none) = _
  rw [h]
  exact if_pos hg

theorem pre_lt {b : Nat} {s : Nat → Nat} : ∀ {k v : Nat}, pre b s k = some v → v < M256
  | 0, v, h => by
    have : v = 0 := by simpa [pre] using h.symm
    rw [this]; decide
  | k + 1, v, h => by
    cases hk : pre b s k with
    | none => rw [pre_none hk (k + 1) (by omega)] at h; cases h
    | some u =>
      by_cases hg : digV (s k) < b ∧ u * b + digV (s k) < M256
      · rw [pre_good hk hg] at h
        cases h
        exact hg.2
      · rw [pre_bad hk hg] at h
        cases h

/-- What is answered. -/
def pres (o : Option Nat) : Value := match o with
  | some v => .tuple #[wv v, .int .i64 0]
  | none => .tuple #[wv 0, .int .i64 20]

/-- Digits that are read: at least one. -/
def preads (b : Nat) (s : ByteArray) : Option Nat := if s.size = 0 then none else pre b (sb s) s.size

theorem empty_size (s : ByteArray) : s.toList.isEmpty = decide (s.size = 0) := by
  rw [ByteArray.toList_eq]
  show s.data.toList.isEmpty = decide (s.data.size = 0)
  rw [← Array.length_toList]
  cases s.data.toList with
  | nil => rfl
  | cons a l => exact (decide_eq_false (by simp)).symm

theorem index_sb (s : ByteArray) (k : Nat) (hk : k < s.size) (W : World) : (Instr.index 9 (.string s) (.int .i64 (k : Int))).run Try.prog W = .ok (.int .u8 (sb s k)) W := by
  have hd : s.data[k]? = some s.data[k] := Array.getElem?_eq_getElem hk
  have h := run_index_string (P := Try.prog) (w := W) 9 s .i64 (k : Int) Try.underlying9
  rw [h]
  unfold sb
  rw [hd]
  have e : ((k : Int)).toNat = k := by omega
  have g : ¬ ((k : Int) < 0 ∨ (s.size : Int) ≤ (k : Int)) := by omega
  simp [e, hk]
  rfl

set_option maxHeartbeats 4000000 in
set_option maxRecDepth 100000 in
theorem digit_any (c : Nat) (hc : c < 256) (w : World) : Calls Try.prog 134 #[.int .u8 c] w fun e w' => e = .returned (.int .u64 (digV c)) ∧ w = w' := by
  rcases (show c < 48 ∨ (48 ≤ c ∧ c ≤ 57) ∨ (57 < c ∧ c < 65) ∨ (65 ≤ c ∧ c ≤ 70) ∨ (70 < c ∧ c < 97) ∨ (97 ≤ c ∧ c ≤ 102) ∨ 102 < c by omega) with h | h | h | h | h | h | h
  · have a0 : ¬ (48 : Int) ≤ (c : Int) := by omega
    have a1 : (c : Int) ≤ 57 := by omega
    have a2 : ¬ (97 : Int) ≤ (c : Int) := by omega
    have a3 : (c : Int) ≤ 102 := by omega
    have a4 : ¬ (65 : Int) ≤ (c : Int) := by omega
    have a5 : (c : Int) ≤ 70 := by omega
    have hv : digV c = 16 := by unfold digV; rw [if_neg (by omega), if_neg (by omega), if_neg (by omega)]
    rw [hv]
    clear hv
    go_enter Try.func134, Try.ntmps134
    go_wp2
    go_ret
    exact ⟨rfl, rfl⟩
  · have a0 : (48 : Int) ≤ (c : Int) := by omega
    have a1 : (c : Int) ≤ 57 := by omega
    have a2 : ¬ (97 : Int) ≤ (c : Int) := by omega
    have a3 : (c : Int) ≤ 102 := by omega
    have a4 : ¬ (65 : Int) ≤ (c : Int) := by omega
    have a5 : (c : Int) ≤ 70 := by omega
    have e1 : IntKind.u8.wrap ((c : Int) - 48) = ((c - 48 : Nat) : Int) := by rw [IntKind.wrap_u8]; omega
    have e2 : IntKind.u64.wrap ((c - 48 : Nat) : Int) = ((c - 48 : Nat) : Int) := by rw [IntKind.wrap_u64]; omega
    have hv : digV c = c - 48 := by unfold digV; rw [if_pos (by omega)]
    rw [hv]
    clear hv
    generalize c - 48 = d at *
    go_enter Try.func134, Try.ntmps134
    go_wp2
    go_ret
    exact ⟨rfl, rfl⟩
  · have a0 : (48 : Int) ≤ (c : Int) := by omega
    have a1 : ¬ (c : Int) ≤ 57 := by omega
    have a2 : ¬ (97 : Int) ≤ (c : Int) := by omega
    have a3 : (c : Int) ≤ 102 := by omega
    have a4 : ¬ (65 : Int) ≤ (c : Int) := by omega
    have a5 : (c : Int) ≤ 70 := by omega
    have hv : digV c = 16 := by unfold digV; rw [if_neg (by omega), if_neg (by omega), if_neg (by omega)]
    rw [hv]
    clear hv
    go_enter Try.func134, Try.ntmps134
    go_wp2
    go_ret
    exact ⟨rfl, rfl⟩
  · have a0 : (48 : Int) ≤ (c : Int) := by omega
    have a1 : ¬ (c : Int) ≤ 57 := by omega
    have a2 : ¬ (97 : Int) ≤ (c : Int) := by omega
    have a3 : (c : Int) ≤ 102 := by omega
    have a4 : (65 : Int) ≤ (c : Int) := by omega
    have a5 : (c : Int) ≤ 70 := by omega
    have e1 : IntKind.u8.wrap ((c : Int) - 65) = ((c - 65 : Nat) : Int) := by rw [IntKind.wrap_u8]; omega
    have e2 : IntKind.u64.wrap ((c - 65 : Nat) : Int) = ((c - 65 : Nat) : Int) := by rw [IntKind.wrap_u64]; omega
    have e3 : IntKind.u64.wrap (((c - 65 : Nat) : Int) + 10) = ((c - 65 + 10 : Nat) : Int) := by rw [IntKind.wrap_u64]; omega
    have hv : digV c = c - 65 + 10 := by unfold digV; rw [if_neg (by omega), if_neg (by omega), if_pos (by omega)]
    rw [hv]
    clear hv
    generalize c - 65 = d at *
    go_enter Try.func134, Try.ntmps134
    go_wp2
    go_ret
    exact ⟨rfl, rfl⟩
  · have a0 : (48 : Int) ≤ (c : Int) := by omega
    have a1 : ¬ (c : Int) ≤ 57 := by omega
    have a2 : ¬ (97 : Int) ≤ (c : Int) := by omega
    have a3 : (c : Int) ≤ 102 := by omega
    have a4 : (65 : Int) ≤ (c : Int) := by omega
    have a5 : ¬ (c : Int) ≤ 70 := by omega
    have hv : digV c = 16 := by unfold digV; rw [if_neg (by omega), if_neg (by omega), if_neg (by omega)]
    rw [hv]
    clear hv
    go_enter Try.func134, Try.ntmps134
    go_wp2
    go_ret
    exact ⟨rfl, rfl⟩
  · have a0 : (48 : Int) ≤ (c : Int) := by omega
    have a1 : ¬ (c : Int) ≤ 57 := by omega
    have a2 : (97 : Int) ≤ (c : Int) := by omega
    have a3 : (c : Int) ≤ 102 := by omega
    have a4 : (65 : Int) ≤ (c : Int) := by omega
    have a5 : ¬ (c : Int) ≤ 70 := by omega
    have e1 : IntKind.u8.wrap ((c : Int) - 97) = ((c - 97 : Nat) : Int) := by rw [IntKind.wrap_u8]; omega
    have e2 : IntKind.u64.wrap ((c - 97 : Nat) : Int) = ((c - 97 : Nat) : Int) := by rw [IntKind.wrap_u64]; omega
    have e3 : IntKind.u64.wrap (((c - 97 : Nat) : Int) + 10) = ((c - 97 + 10 : Nat) : Int) := by rw [IntKind.wrap_u64]; omega
    have hv : digV c = c - 97 + 10 := by unfold digV; rw [if_neg (by omega), if_pos (by omega)]
    rw [hv]
    clear hv
    generalize c - 97 = d at *
    go_enter Try.func134, Try.ntmps134
    go_wp2
    go_ret
    exact ⟨rfl, rfl⟩
  · have a0 : (48 : Int) ≤ (c : Int) := by omega
    have a1 : ¬ (c : Int) ≤ 57 := by omega
    have a2 : (97 : Int) ≤ (c : Int) := by omega
    have a3 : ¬ (c : Int) ≤ 102 := by omega
    have a4 : (65 : Int) ≤ (c : Int) := by omega
    have a5 : ¬ (c : Int) ≤ 70 := by omega
    have hv : digV c = 16 := by unfold digV; rw [if_neg (by omega), if_neg (by omega), if_neg (by omega)]
    rw [hv]
    clear hv
    go_enter Try.func134, Try.ntmps134
    go_wp2
    go_ret
    exact ⟨rfl, rfl⟩

end Go.Proofs.Ytpnijncoldihfaa
