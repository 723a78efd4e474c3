/-
  The number 1 and the greatest word.
-/
import Derived.Test.YtpnijncoldihfaaAwake
import Derived.Test.YtpnijncoldihfaaEqW
namespace Go.Proofs.Ytpnijncoldihfaa
open Go.RowKit Go.Shelf

set_option maxHeartbeats 400000 in
set_option maxRecDepth 100000 in
theorem one_any (w : World) : Calls Try.prog 81 #[] w fun e w' => e = .returned (wv 1) ∧ Below w.heap.size w w' := by
  have hv : Value.agg #[.int .u64 1, .int .u64 0, .int .u64 0, .int .u64 0] = wv 1 := rfl
  have HV := hideP hv
  clear hv
  go_enter Try.func81, Try.ntmps81
  go_wp2
  refine bodyPost_ret (v := .agg #[.int .u64 1, .int .u64 0, .int .u64 0, .int .u64 0]) (by simp [results, Try.results81, go_sem]) rfl ⟨by rw [HV.out], ?_⟩
  repeat first | exact Below.refl _ _ | apply Below.drew | (refine Below.alloc ?_ (by simp <;> omega) _) | (refine Below.setCell ?_ (by simp <;> omega) _)

set_option maxHeartbeats 400000 in
set_option maxRecDepth 100000 in
theorem most_any (w : World) : Calls Try.prog 80 #[] w fun e w' => e = .returned (wv (M256 - 1)) ∧ Below w.heap.size w w' := by
  have hv : Value.agg #[.int .u64 18446744073709551615, .int .u64 18446744073709551615, .int .u64 18446744073709551615, .int .u64 18446744073709551615] = wv (M256 - 1) := by kernel_rfl
  have HV := hideP hv
  clear hv
  go_enter Try.func80, Try.ntmps80
  go_wp2
  refine bodyPost_ret (v := .agg #[.int .u64 18446744073709551615, .int .u64 18446744073709551615, .int .u64 18446744073709551615, .int .u64 18446744073709551615]) (by simp [results, Try.results80, go_sem]) rfl ⟨by rw [HV.out], ?_⟩
  repeat first | exact Below.refl _ _ | apply Below.drew | (refine Below.alloc ?_ (by simp <;> omega) _) | (refine Below.setCell ?_ (by simp <;> omega) _)

end Go.Proofs.Ytpnijncoldihfaa
