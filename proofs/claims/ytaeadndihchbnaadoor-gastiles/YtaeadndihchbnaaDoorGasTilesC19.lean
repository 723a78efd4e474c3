/-
  Prices by words and bytes: copies, hashes, logs, powers.
-/
import Derived.Test.YtaeadndihchbnaaDoorGasTilesC18
namespace Go.Proofs.YtaeadndihchbnaaDoor
open Go.RowKit Go.Shelf

theorem memOf_in {X : Nat} (h : X % M256 ≤ 8388608) : memOf X = (X % M256, 0) := if_pos h

theorem memOf_out {X : Nat} (h : ¬ X % M256 ≤ 8388608) : memOf X = (0, 140) := if_neg h

end Go.Proofs.YtaeadndihchbnaaDoor
