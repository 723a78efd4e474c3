/-
  Sums, differences and products are the document's: the walk of the law.
-/
import Derived.Test.YtpnijncoldihfaaSumsA
import Derived.Test.YtpnijncoldihfaaSumsO
namespace Go.Proofs.Ytpnijncoldihfaa
open Go.RowKit Go.Shelf

theorem sums_calls (X Y n : Nat) (hn : n < 18446744073709551616) (w : World) : Calls Try.prog 3 #[wv X, wv Y, .int .u64 n] w fun e w' => e = .returned (.bool true) ∧ Below w.heap.size w w' := by
  by_cases h : X % M256 < 18446744073709551616
  · exact sums_in X Y n hn h w
  · exact sums_out X Y n hn h w

end Go.Proofs.Ytpnijncoldihfaa
