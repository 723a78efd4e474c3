/-
  What data cost.
-/
import Derived.Test.YtaeadndihchbnaaDoorGasPricesC16
namespace Go.Proofs.YtaeadndihchbnaaDoor
open Go.RowKit Go.Shelf

def dataN (bs : Nat → Nat) : Nat → Nat
  | 0 => 0
  | k + 1 => dataN bs k + (if bs k = 0 then 4 else 16)

theorem dataN_le (bs : Nat → Nat) : ∀ k, dataN bs k ≤ 16 * k
  | 0 => Nat.le_refl _
  | k + 1 => by
    have := dataN_le bs k
    show dataN bs k + _ ≤ _
    split <;> omega

set_option maxHeartbeats 2000000 in
set_option maxRecDepth 100000 in
theorem data_any {ao : Option Addr} {n c : Nat} {bs : Nat → Nat} (w : World) (h : BS w ao n c bs) (hn : n ≤ 140737488355328) : Calls Tryd.prog 38 #[.slice ao n c] w fun e w' => e = .returned (.int .u64 (dataN bs n)) ∧ w' = w := by
  have HB := hideP h
  have HN := hideP hn
  clear h hn
  go_enter Tryd.func38, Tryd.ntmps38
  go_wp2_with fail
  rename_i Q' K hK
  have HK := hideP hK
  clear hK
  go_loopw [3, 8] (fun s i wr => ∃ (k : Nat), k ≤ n ∧ i = .int .i64 k ∧ s = .int .u64 (dataN bs k) ∧ wr = w) (fun _ i _ => n - (intOf i).toNat)
  case atStart => exact ⟨0, Nat.zero_le _, rfl, rfl, rfl⟩
  case round =>
    obtain ⟨k, hk, rfl, rfl, rfl⟩ := hrel
    have hn := HN.out
    have hd := dataN_le bs k
    by_cases hlt : k < n
    · obtain ⟨ad, rfl, hc⟩ := HB.out.cell k hlt
      have g1 : (k : Int) < (n : Int) := by omega
      have t1 : IntKind.i64.wrap ((k : Int) + 1) = (k : Int) + 1 := by rw [IntKind.wrap_i64]; omega
      have HNX := hideP (And.intro hlt hn)
      by_cases hz : bs k = 0
      · have hs : dataN bs (k + 1) = dataN bs k + 4 := by show dataN bs k + _ = _; rw [if_pos hz]
        have HS := hideP hs
        rw [hz] at hc
        have t2 : IntKind.u64.wrap ((dataN bs k : Int) + 4) = (dataN bs k : Int) + 4 := by rw [IntKind.wrap_u64]; omega
        clear hs hz hk hn hd hlt
        go_wp2_with fail
        exact ⟨⟨k + 1, HNX.out.1, rfl, by rw [HS.out]; rfl, trivial⟩, by have := HNX.out.1; simp [intOf]; omega⟩
      · have hs : dataN bs (k + 1) = dataN bs k + 16 := by show dataN bs k + _ = _; rw [if_neg hz]
        have HS := hideP hs
        have t2 : IntKind.u64.wrap ((dataN bs k : Int) + 16) = (dataN bs k : Int) + 16 := by rw [IntKind.wrap_u64]; omega
        have g2 : ¬ (bs k : Int) = 0 := by omega
        generalize bs k = y at *
        clear hs hz hk hn hd hlt
        go_wp2_with fail
        exact ⟨⟨k + 1, HNX.out.1, rfl, by rw [HS.out]; rfl, trivial⟩, by have := HNX.out.1; simp [intOf]; omega⟩
    · obtain rfl : k = n := by omega
      have g1 : ¬ (k : Int) < (k : Int) := by omega
      clear hk hn hd hlt
      go_wp2_with fail
      refine HK.out _ _ ?_
      go_wp2_with fail
      go_ret
      exact ⟨rfl, rfl⟩

set_option maxHeartbeats 2000000 in
set_option maxRecDepth 100000 in
theorem rdata_any {ao : Option Addr} {n c : Nat} {bs : Nat → Nat} (w : World) (h : BS w ao n c bs) (hn : n ≤ 140737488355328) : Calls Tryd.prog 39 #[.slice ao n c] w fun e w' => e = .returned (.int .u64 (dataN bs n)) ∧ w' = w := by
  have HB := hideP h
  have HN := hideP hn
  clear h hn
  go_enter Tryd.func39, Tryd.ntmps39
  go_wp2_with fail
  rename_i Q' K hK
  have HK := hideP hK
  clear hK
  go_loopw [3, 4] (fun s i wr => ∃ (k : Nat), k ≤ n ∧ i = .int .i64 k ∧ s = .int .u64 (dataN bs k) ∧ wr = w) (fun _ i _ => n - (intOf i).toNat)
  case atStart => exact ⟨0, Nat.zero_le _, rfl, rfl, rfl⟩
  case round =>
    obtain ⟨k, hk, rfl, rfl, rfl⟩ := hrel
    have hn := HN.out
    have hd := dataN_le bs k
    by_cases hlt : k < n
    · obtain ⟨ad, rfl, hc⟩ := HB.out.cell k hlt
      have g1 : (k : Int) < (n : Int) := by omega
      have t1 : IntKind.i64.wrap ((k : Int) + 1) = (k : Int) + 1 := by rw [IntKind.wrap_i64]; omega
      have HNX := hideP (And.intro hlt hn)
      by_cases hz : bs k = 0
      · have hs : dataN bs (k + 1) = dataN bs k + 4 := by show dataN bs k + _ = _; rw [if_pos hz]
        have HS := hideP hs
        rw [hz] at hc
        have t2 : IntKind.u64.wrap ((dataN bs k : Int) + 4) = (dataN bs k : Int) + 4 := by rw [IntKind.wrap_u64]; omega
        clear hs hz hk hn hd hlt
        go_wp2_with fail
        exact ⟨⟨k + 1, HNX.out.1, rfl, by rw [HS.out]; rfl, trivial⟩, by have := HNX.out.1; simp [intOf]; omega⟩
      · have hs : dataN bs (k + 1) = dataN bs k + 16 := by show dataN bs k + _ = _; rw [if_neg hz]
        have HS := hideP hs
        have t2 : IntKind.u64.wrap ((dataN bs k : Int) + 16) = (dataN bs k : Int) + 16 := by rw [IntKind.wrap_u64]; omega
        have g2 : ¬ (bs k : Int) = 0 := by omega
        generalize bs k = y at *
        clear hs hz hk hn hd hlt
        go_wp2_with fail
        exact ⟨⟨k + 1, HNX.out.1, rfl, by rw [HS.out]; rfl, trivial⟩, by have := HNX.out.1; simp [intOf]; omega⟩
    · obtain rfl : k = n := by omega
      have g1 : ¬ (k : Int) < (k : Int) := by omega
      clear hk hn hd hlt
      go_wp2_with fail
      refine HK.out _ _ ?_
      go_wp2_with fail
      go_ret
      exact ⟨rfl, rfl⟩

end Go.Proofs.YtaeadndihchbnaaDoor
