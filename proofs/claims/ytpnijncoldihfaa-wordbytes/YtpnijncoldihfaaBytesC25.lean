/-
  One byte of a word.
-/
import Derived.Test.YtpnijncoldihfaaBytesC24
import Derived.Test.YtpnijncoldihfaaBytesC11
import Derived.Test.YtpnijncoldihfaaBytesC21
import Derived.Test.YtpnijncoldihfaaBytesC03
namespace Go.Proofs.Ytpnijncoldihfaa
open Go.RowKit Go.Shelf

theorem putAll32 (g' g : Nat → Nat) : putAll (c32 g') 0 (c32 g).toList = c32 g := by
  simp [c32, putAll]

end Go.Proofs.Ytpnijncoldihfaa
