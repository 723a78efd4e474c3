/-
  Texts of bytes.
-/
import Derived.Laws.IdiomStrings
import Derived.Laws.BytesArg
import Derived.Test.YtigebmidfddbcaaRlpMeansC22
namespace Go.Proofs.Ytigebmidfddbcaa
open Go.RowKit Go.Shelf

/-- The text of so many bytes. -/
def strB (bs : Nat → Nat) (n : Nat) : ByteArray := ⟨((List.range n).map (fun j => UInt8.ofNat (bs j))).toArray⟩

theorem conv_BS {V : World} {ao : Option Addr} {n c : Nat} {bs : Nat → Nat} (h : BS V ao n c bs) : (convert 23 9 (.slice ao n c)).run Try.prog V = .ok (.string (strB bs n)) V := by
  have h1 : Try.prog.underlying 23 = some (.slice 5) := by kernel_rfl
  have h2 : Try.prog.underlying 5 = some (.int .u8) := by kernel_rfl
  have h3 : Try.prog.underlying 9 = some .string := by kernel_rfl
  cases ao with
  | none =>
    have h0 := h.nil rfl
    have h4 := h.le
    obtain rfl : n = 0 := by omega
    have := run_convert_bytes_nil (P := Try.prog) V 23 5 h1 h2 0 c 9 h3
    rw [this]
    rfl
  | some a =>
    have h := run_convert_bytes_back (P := Try.prog) V 23 9 5 a c ((List.range n).map (fun j => UInt8.ofNat (bs j))) h1 h2 h3 (fun j hj => by
      have hj' : j < n := by simpa using hj
      obtain ⟨ad, e, hc⟩ := h.cell j hj'
      cases e
      rw [hc]
      simp [Nat.mod_eq_of_lt (h.lt j)])
    simp only [List.length_map, List.length_range] at h
    exact h

theorem strB_inj {bs bs' : Nat → Nat} {n m : Nat} (h1 : ∀ j, bs j < 256) (h2 : ∀ j, bs' j < 256) (h : strB bs n = strB bs' m) : n = m ∧ ∀ j, j < n → bs j = bs' j := by
  unfold strB at h
  have h' : (List.range n).map (fun j => UInt8.ofNat (bs j)) = (List.range m).map (fun j => UInt8.ofNat (bs' j)) := by
    have := congrArg ByteArray.data h
    simpa using congrArg Array.toList this
  have hl := congrArg List.length h'
  simp only [List.length_map, List.length_range] at hl
  subst hl
  refine ⟨rfl, fun j hj => ?_⟩
  have := congrArg (fun l => l[j]?) h'
  simp only [List.getElem?_map, List.getElem?_range hj, Option.map_some, Option.some.injEq] at this
  have := congrArg UInt8.toNat this
  simpa [Nat.mod_eq_of_lt (h1 j), Nat.mod_eq_of_lt (h2 j)] using this

end Go.Proofs.Ytigebmidfddbcaa
