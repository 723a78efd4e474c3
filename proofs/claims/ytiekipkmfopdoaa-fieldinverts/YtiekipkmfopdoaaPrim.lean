/-
  The six primes.
-/
import Derived.Test.YtiekipkmfopdoaaEqw4
import Derived.Test.YtiekipkmfopdoaaEqw6
namespace Go.Proofs.Ytiekipkmfopdoaa
open Go.RowKit Go.Shelf

/-- SecpP. -/
def nSecpP : Nat := 115792089237316195423570985008687907853269984665640564039457584007908834671663

set_option maxHeartbeats 400000 in
set_option maxRecDepth 100000 in
theorem fSecpP_any (w : World) : Calls Try.prog 12 #[] w fun r w' => r = .returned (.agg (W4.cs (limb nSecpP))) ∧ Below w.heap.size w w' := by
  have HV := hideP (show (Value.agg #[.int .u64 18446744069414583343, .int .u64 18446744073709551615, .int .u64 18446744073709551615, .int .u64 18446744073709551615]) = .agg (W4.cs (limb nSecpP)) by kernel_rfl)
  rw [← HV.out]
  go_enter Try.func12, Try.ntmps12
  go_wp2
  refine bodyPost_ret (v := .agg #[.int .u64 18446744069414583343, .int .u64 18446744073709551615, .int .u64 18446744073709551615, .int .u64 18446744073709551615]) (by simp [results, Try.results12, go_sem]) rfl ⟨rfl, ?_⟩
  repeat first | exact Below.refl _ _ | apply Below.drew | (refine Below.alloc ?_ (by simp <;> omega) _) | (refine Below.setCell ?_ (by simp <;> omega) _)

set_option maxHeartbeats 400000 in
set_option maxRecDepth 100000 in
theorem rSecpP_any (w : World) : Calls Try.prog 14 #[] w fun r w' => (∃ g, r = .returned (.slice (some ⟨g, 0, none⟩) 4 4) ∧ w'.heap[g]? = some (.cells (W4.cs (limb nSecpP)) 23 (0, 0))) ∧ Below w.heap.size w w' := by
  have hc : Calls Try.prog 69 #[.string ⟨#[102, 102, 102, 102, 102, 102, 102, 102, 102, 102, 102, 102, 102, 102, 102, 102, 102, 102, 102, 102, 102, 102, 102, 102, 102, 102, 102, 102, 102, 102, 102, 102, 102, 102, 102, 102, 102, 102, 102, 102, 102, 102, 102, 102, 102, 102, 102, 102, 102, 102, 102, 102, 102, 102, 102, 101, 102, 102, 102, 102, 102, 99, 50, 102]⟩, .int .i64 (4 : Int)] w fun r w' => (∃ g, r = .returned (.slice (some ⟨g, 0, none⟩) 4 4) ∧ w'.heap[g]? = some (.cells (W4.cs (limb nSecpP)) 23 (0, 0))) ∧ Below w.heap.size w w' := by
    have h := W4.hex_any ⟨#[102, 102, 102, 102, 102, 102, 102, 102, 102, 102, 102, 102, 102, 102, 102, 102, 102, 102, 102, 102, 102, 102, 102, 102, 102, 102, 102, 102, 102, 102, 102, 102, 102, 102, 102, 102, 102, 102, 102, 102, 102, 102, 102, 102, 102, 102, 102, 102, 102, 102, 102, 102, 102, 102, 102, 101, 102, 102, 102, 102, 102, 99, 50, 102]⟩ (by unfold hexText; decide +kernel) (by decide) w
    rw [show hxv ⟨#[102, 102, 102, 102, 102, 102, 102, 102, 102, 102, 102, 102, 102, 102, 102, 102, 102, 102, 102, 102, 102, 102, 102, 102, 102, 102, 102, 102, 102, 102, 102, 102, 102, 102, 102, 102, 102, 102, 102, 102, 102, 102, 102, 102, 102, 102, 102, 102, 102, 102, 102, 102, 102, 102, 102, 101, 102, 102, 102, 102, 102, 99, 50, 102]⟩ (ByteArray.size ⟨#[102, 102, 102, 102, 102, 102, 102, 102, 102, 102, 102, 102, 102, 102, 102, 102, 102, 102, 102, 102, 102, 102, 102, 102, 102, 102, 102, 102, 102, 102, 102, 102, 102, 102, 102, 102, 102, 102, 102, 102, 102, 102, 102, 102, 102, 102, 102, 102, 102, 102, 102, 102, 102, 102, 102, 101, 102, 102, 102, 102, 102, 99, 50, 102]⟩) = nSecpP by kernel_rfl] at h
    exact h
  have HC := hideP hc
  clear hc
  go_enter Try.func14, Try.ntmps14
  go_wp2_with fail
  refine HC.out.mono ?_
  rintro r w1 ⟨⟨g, rfl, hg⟩, hb⟩
  have HG := hideP hg
  have HB := hideP hb
  clear hg hb
  go_wp2
  go_ret
  exact ⟨⟨g, rfl, HG.out⟩, HB.out⟩

/-- SecpN. -/
def nSecpN : Nat := 115792089237316195423570985008687907852837564279074904382605163141518161494337

set_option maxHeartbeats 400000 in
set_option maxRecDepth 100000 in
theorem fSecpN_any (w : World) : Calls Try.prog 15 #[] w fun r w' => r = .returned (.agg (W4.cs (limb nSecpN))) ∧ Below w.heap.size w w' := by
  have HV := hideP (show (Value.agg #[.int .u64 13822214165235122497, .int .u64 13451932020343611451, .int .u64 18446744073709551614, .int .u64 18446744073709551615]) = .agg (W4.cs (limb nSecpN)) by kernel_rfl)
  rw [← HV.out]
  go_enter Try.func15, Try.ntmps15
  go_wp2
  refine bodyPost_ret (v := .agg #[.int .u64 13822214165235122497, .int .u64 13451932020343611451, .int .u64 18446744073709551614, .int .u64 18446744073709551615]) (by simp [results, Try.results15, go_sem]) rfl ⟨rfl, ?_⟩
  repeat first | exact Below.refl _ _ | apply Below.drew | (refine Below.alloc ?_ (by simp <;> omega) _) | (refine Below.setCell ?_ (by simp <;> omega) _)

set_option maxHeartbeats 400000 in
set_option maxRecDepth 100000 in
theorem rSecpN_any (w : World) : Calls Try.prog 16 #[] w fun r w' => (∃ g, r = .returned (.slice (some ⟨g, 0, none⟩) 4 4) ∧ w'.heap[g]? = some (.cells (W4.cs (limb nSecpN)) 23 (0, 0))) ∧ Below w.heap.size w w' := by
  have hc : Calls Try.prog 69 #[.string ⟨#[102, 102, 102, 102, 102, 102, 102, 102, 102, 102, 102, 102, 102, 102, 102, 102, 102, 102, 102, 102, 102, 102, 102, 102, 102, 102, 102, 102, 102, 102, 102, 101, 98, 97, 97, 101, 100, 99, 101, 54, 97, 102, 52, 56, 97, 48, 51, 98, 98, 102, 100, 50, 53, 101, 56, 99, 100, 48, 51, 54, 52, 49, 52, 49]⟩, .int .i64 (4 : Int)] w fun r w' => (∃ g, r = .returned (.slice (some ⟨g, 0, none⟩) 4 4) ∧ w'.heap[g]? = some (.cells (W4.cs (limb nSecpN)) 23 (0, 0))) ∧ Below w.heap.size w w' := by
    have h := W4.hex_any ⟨#[102, 102, 102, 102, 102, 102, 102, 102, 102, 102, 102, 102, 102, 102, 102, 102, 102, 102, 102, 102, 102, 102, 102, 102, 102, 102, 102, 102, 102, 102, 102, 101, 98, 97, 97, 101, 100, 99, 101, 54, 97, 102, 52, 56, 97, 48, 51, 98, 98, 102, 100, 50, 53, 101, 56, 99, 100, 48, 51, 54, 52, 49, 52, 49]⟩ (by unfold hexText; decide +kernel) (by decide) w
    rw [show hxv ⟨#[102, 102, 102, 102, 102, 102, 102, 102, 102, 102, 102, 102, 102, 102, 102, 102, 102, 102, 102, 102, 102, 102, 102, 102, 102, 102, 102, 102, 102, 102, 102, 101, 98, 97, 97, 101, 100, 99, 101, 54, 97, 102, 52, 56, 97, 48, 51, 98, 98, 102, 100, 50, 53, 101, 56, 99, 100, 48, 51, 54, 52, 49, 52, 49]⟩ (ByteArray.size ⟨#[102, 102, 102, 102, 102, 102, 102, 102, 102, 102, 102, 102, 102, 102, 102, 102, 102, 102, 102, 102, 102, 102, 102, 102, 102, 102, 102, 102, 102, 102, 102, 101, 98, 97, 97, 101, 100, 99, 101, 54, 97, 102, 52, 56, 97, 48, 51, 98, 98, 102, 100, 50, 53, 101, 56, 99, 100, 48, 51, 54, 52, 49, 52, 49]⟩) = nSecpN by kernel_rfl] at h
    exact h
  have HC := hideP hc
  clear hc
  go_enter Try.func16, Try.ntmps16
  go_wp2_with fail
  refine HC.out.mono ?_
  rintro r w1 ⟨⟨g, rfl, hg⟩, hb⟩
  have HG := hideP hg
  have HB := hideP hb
  clear hg hb
  go_wp2
  go_ret
  exact ⟨⟨g, rfl, HG.out⟩, HB.out⟩

/-- BnP. -/
def nBnP : Nat := 21888242871839275222246405745257275088696311157297823662689037894645226208583

set_option maxHeartbeats 400000 in
set_option maxRecDepth 100000 in
theorem fBnP_any (w : World) : Calls Try.prog 17 #[] w fun r w' => r = .returned (.agg (W4.cs (limb nBnP))) ∧ Below w.heap.size w w' := by
  have HV := hideP (show (Value.agg #[.int .u64 4332616871279656263, .int .u64 10917124144477883021, .int .u64 13281191951274694749, .int .u64 3486998266802970665]) = .agg (W4.cs (limb nBnP)) by kernel_rfl)
  rw [← HV.out]
  go_enter Try.func17, Try.ntmps17
  go_wp2
  refine bodyPost_ret (v := .agg #[.int .u64 4332616871279656263, .int .u64 10917124144477883021, .int .u64 13281191951274694749, .int .u64 3486998266802970665]) (by simp [results, Try.results17, go_sem]) rfl ⟨rfl, ?_⟩
  repeat first | exact Below.refl _ _ | apply Below.drew | (refine Below.alloc ?_ (by simp <;> omega) _) | (refine Below.setCell ?_ (by simp <;> omega) _)

set_option maxHeartbeats 400000 in
set_option maxRecDepth 100000 in
theorem rBnP_any (w : World) : Calls Try.prog 18 #[] w fun r w' => (∃ g, r = .returned (.slice (some ⟨g, 0, none⟩) 4 4) ∧ w'.heap[g]? = some (.cells (W4.cs (limb nBnP)) 23 (0, 0))) ∧ Below w.heap.size w w' := by
  have hc : Calls Try.prog 69 #[.string ⟨#[51, 48, 54, 52, 52, 101, 55, 50, 101, 49, 51, 49, 97, 48, 50, 57, 98, 56, 53, 48, 52, 53, 98, 54, 56, 49, 56, 49, 53, 56, 53, 100, 57, 55, 56, 49, 54, 97, 57, 49, 54, 56, 55, 49, 99, 97, 56, 100, 51, 99, 50, 48, 56, 99, 49, 54, 100, 56, 55, 99, 102, 100, 52, 55]⟩, .int .i64 (4 : Int)] w fun r w' => (∃ g, r = .returned (.slice (some ⟨g, 0, none⟩) 4 4) ∧ w'.heap[g]? = some (.cells (W4.cs (limb nBnP)) 23 (0, 0))) ∧ Below w.heap.size w w' := by
    have h := W4.hex_any ⟨#[51, 48, 54, 52, 52, 101, 55, 50, 101, 49, 51, 49, 97, 48, 50, 57, 98, 56, 53, 48, 52, 53, 98, 54, 56, 49, 56, 49, 53, 56, 53, 100, 57, 55, 56, 49, 54, 97, 57, 49, 54, 56, 55, 49, 99, 97, 56, 100, 51, 99, 50, 48, 56, 99, 49, 54, 100, 56, 55, 99, 102, 100, 52, 55]⟩ (by unfold hexText; decide +kernel) (by decide) w
    rw [show hxv ⟨#[51, 48, 54, 52, 52, 101, 55, 50, 101, 49, 51, 49, 97, 48, 50, 57, 98, 56, 53, 48, 52, 53, 98, 54, 56, 49, 56, 49, 53, 56, 53, 100, 57, 55, 56, 49, 54, 97, 57, 49, 54, 56, 55, 49, 99, 97, 56, 100, 51, 99, 50, 48, 56, 99, 49, 54, 100, 56, 55, 99, 102, 100, 52, 55]⟩ (ByteArray.size ⟨#[51, 48, 54, 52, 52, 101, 55, 50, 101, 49, 51, 49, 97, 48, 50, 57, 98, 56, 53, 48, 52, 53, 98, 54, 56, 49, 56, 49, 53, 56, 53, 100, 57, 55, 56, 49, 54, 97, 57, 49, 54, 56, 55, 49, 99, 97, 56, 100, 51, 99, 50, 48, 56, 99, 49, 54, 100, 56, 55, 99, 102, 100, 52, 55]⟩) = nBnP by kernel_rfl] at h
    exact h
  have HC := hideP hc
  clear hc
  go_enter Try.func18, Try.ntmps18
  go_wp2_with fail
  refine HC.out.mono ?_
  rintro r w1 ⟨⟨g, rfl, hg⟩, hb⟩
  have HG := hideP hg
  have HB := hideP hb
  clear hg hb
  go_wp2
  go_ret
  exact ⟨⟨g, rfl, HG.out⟩, HB.out⟩

/-- BnR. -/
def nBnR : Nat := 21888242871839275222246405745257275088548364400416034343698204186575808495617

set_option maxHeartbeats 400000 in
set_option maxRecDepth 100000 in
theorem fBnR_any (w : World) : Calls Try.prog 19 #[] w fun r w' => r = .returned (.agg (W4.cs (limb nBnR))) ∧ Below w.heap.size w w' := by
  have HV := hideP (show (Value.agg #[.int .u64 4891460686036598785, .int .u64 2896914383306846353, .int .u64 13281191951274694749, .int .u64 3486998266802970665]) = .agg (W4.cs (limb nBnR)) by kernel_rfl)
  rw [← HV.out]
  go_enter Try.func19, Try.ntmps19
  go_wp2
  refine bodyPost_ret (v := .agg #[.int .u64 4891460686036598785, .int .u64 2896914383306846353, .int .u64 13281191951274694749, .int .u64 3486998266802970665]) (by simp [results, Try.results19, go_sem]) rfl ⟨rfl, ?_⟩
  repeat first | exact Below.refl _ _ | apply Below.drew | (refine Below.alloc ?_ (by simp <;> omega) _) | (refine Below.setCell ?_ (by simp <;> omega) _)

set_option maxHeartbeats 400000 in
set_option maxRecDepth 100000 in
theorem rBnR_any (w : World) : Calls Try.prog 20 #[] w fun r w' => (∃ g, r = .returned (.slice (some ⟨g, 0, none⟩) 4 4) ∧ w'.heap[g]? = some (.cells (W4.cs (limb nBnR)) 23 (0, 0))) ∧ Below w.heap.size w w' := by
  have hc : Calls Try.prog 69 #[.string ⟨#[51, 48, 54, 52, 52, 101, 55, 50, 101, 49, 51, 49, 97, 48, 50, 57, 98, 56, 53, 48, 52, 53, 98, 54, 56, 49, 56, 49, 53, 56, 53, 100, 50, 56, 51, 51, 101, 56, 52, 56, 55, 57, 98, 57, 55, 48, 57, 49, 52, 51, 101, 49, 102, 53, 57, 51, 102, 48, 48, 48, 48, 48, 48, 49]⟩, .int .i64 (4 : Int)] w fun r w' => (∃ g, r = .returned (.slice (some ⟨g, 0, none⟩) 4 4) ∧ w'.heap[g]? = some (.cells (W4.cs (limb nBnR)) 23 (0, 0))) ∧ Below w.heap.size w w' := by
    have h := W4.hex_any ⟨#[51, 48, 54, 52, 52, 101, 55, 50, 101, 49, 51, 49, 97, 48, 50, 57, 98, 56, 53, 48, 52, 53, 98, 54, 56, 49, 56, 49, 53, 56, 53, 100, 50, 56, 51, 51, 101, 56, 52, 56, 55, 57, 98, 57, 55, 48, 57, 49, 52, 51, 101, 49, 102, 53, 57, 51, 102, 48, 48, 48, 48, 48, 48, 49]⟩ (by unfold hexText; decide +kernel) (by decide) w
    rw [show hxv ⟨#[51, 48, 54, 52, 52, 101, 55, 50, 101, 49, 51, 49, 97, 48, 50, 57, 98, 56, 53, 48, 52, 53, 98, 54, 56, 49, 56, 49, 53, 56, 53, 100, 50, 56, 51, 51, 101, 56, 52, 56, 55, 57, 98, 57, 55, 48, 57, 49, 52, 51, 101, 49, 102, 53, 57, 51, 102, 48, 48, 48, 48, 48, 48, 49]⟩ (ByteArray.size ⟨#[51, 48, 54, 52, 52, 101, 55, 50, 101, 49, 51, 49, 97, 48, 50, 57, 98, 56, 53, 48, 52, 53, 98, 54, 56, 49, 56, 49, 53, 56, 53, 100, 50, 56, 51, 51, 101, 56, 52, 56, 55, 57, 98, 57, 55, 48, 57, 49, 52, 51, 101, 49, 102, 53, 57, 51, 102, 48, 48, 48, 48, 48, 48, 49]⟩) = nBnR by kernel_rfl] at h
    exact h
  have HC := hideP hc
  clear hc
  go_enter Try.func20, Try.ntmps20
  go_wp2_with fail
  refine HC.out.mono ?_
  rintro r w1 ⟨⟨g, rfl, hg⟩, hb⟩
  have HG := hideP hg
  have HB := hideP hb
  clear hg hb
  go_wp2
  go_ret
  exact ⟨⟨g, rfl, HG.out⟩, HB.out⟩

/-- BlsP. -/
def nBlsP : Nat := 4002409555221667393417789825735904156556882819939007885332058136124031650490837864442687629129015664037894272559787

set_option maxHeartbeats 400000 in
set_option maxRecDepth 100000 in
theorem fBlsP_any (w : World) : Calls Try.prog 21 #[] w fun r w' => r = .returned (.agg (W6.cs (limb nBlsP))) ∧ Below w.heap.size w w' := by
  have HV := hideP (show (Value.agg #[.int .u64 13402431016077863595, .int .u64 2210141511517208575, .int .u64 7435674573564081700, .int .u64 7239337960414712511, .int .u64 5412103778470702295, .int .u64 1873798617647539866]) = .agg (W6.cs (limb nBlsP)) by kernel_rfl)
  rw [← HV.out]
  go_enter Try.func21, Try.ntmps21
  go_wp2
  refine bodyPost_ret (v := .agg #[.int .u64 13402431016077863595, .int .u64 2210141511517208575, .int .u64 7435674573564081700, .int .u64 7239337960414712511, .int .u64 5412103778470702295, .int .u64 1873798617647539866]) (by simp [results, Try.results21, go_sem]) rfl ⟨rfl, ?_⟩
  repeat first | exact Below.refl _ _ | apply Below.drew | (refine Below.alloc ?_ (by simp <;> omega) _) | (refine Below.setCell ?_ (by simp <;> omega) _)

set_option maxHeartbeats 400000 in
set_option maxRecDepth 100000 in
theorem rBlsP_any (w : World) : Calls Try.prog 23 #[] w fun r w' => (∃ g, r = .returned (.slice (some ⟨g, 0, none⟩) 6 6) ∧ w'.heap[g]? = some (.cells (W6.cs (limb nBlsP)) 23 (0, 0))) ∧ Below w.heap.size w w' := by
  have hc : Calls Try.prog 69 #[.string ⟨#[49, 97, 48, 49, 49, 49, 101, 97, 51, 57, 55, 102, 101, 54, 57, 97, 52, 98, 49, 98, 97, 55, 98, 54, 52, 51, 52, 98, 97, 99, 100, 55, 54, 52, 55, 55, 52, 98, 56, 52, 102, 51, 56, 53, 49, 50, 98, 102, 54, 55, 51, 48, 100, 50, 97, 48, 102, 54, 98, 48, 102, 54, 50, 52, 49, 101, 97, 98, 102, 102, 102, 101, 98, 49, 53, 51, 102, 102, 102, 102, 98, 57, 102, 101, 102, 102, 102, 102, 102, 102, 102, 102, 97, 97, 97, 98]⟩, .int .i64 (6 : Int)] w fun r w' => (∃ g, r = .returned (.slice (some ⟨g, 0, none⟩) 6 6) ∧ w'.heap[g]? = some (.cells (W6.cs (limb nBlsP)) 23 (0, 0))) ∧ Below w.heap.size w w' := by
    have h := W6.hex_any ⟨#[49, 97, 48, 49, 49, 49, 101, 97, 51, 57, 55, 102, 101, 54, 57, 97, 52, 98, 49, 98, 97, 55, 98, 54, 52, 51, 52, 98, 97, 99, 100, 55, 54, 52, 55, 55, 52, 98, 56, 52, 102, 51, 56, 53, 49, 50, 98, 102, 54, 55, 51, 48, 100, 50, 97, 48, 102, 54, 98, 48, 102, 54, 50, 52, 49, 101, 97, 98, 102, 102, 102, 101, 98, 49, 53, 51, 102, 102, 102, 102, 98, 57, 102, 101, 102, 102, 102, 102, 102, 102, 102, 102, 97, 97, 97, 98]⟩ (by unfold hexText; decide +kernel) (by decide) w
    rw [show hxv ⟨#[49, 97, 48, 49, 49, 49, 101, 97, 51, 57, 55, 102, 101, 54, 57, 97, 52, 98, 49, 98, 97, 55, 98, 54, 52, 51, 52, 98, 97, 99, 100, 55, 54, 52, 55, 55, 52, 98, 56, 52, 102, 51, 56, 53, 49, 50, 98, 102, 54, 55, 51, 48, 100, 50, 97, 48, 102, 54, 98, 48, 102, 54, 50, 52, 49, 101, 97, 98, 102, 102, 102, 101, 98, 49, 53, 51, 102, 102, 102, 102, 98, 57, 102, 101, 102, 102, 102, 102, 102, 102, 102, 102, 97, 97, 97, 98]⟩ (ByteArray.size ⟨#[49, 97, 48, 49, 49, 49, 101, 97, 51, 57, 55, 102, 101, 54, 57, 97, 52, 98, 49, 98, 97, 55, 98, 54, 52, 51, 52, 98, 97, 99, 100, 55, 54, 52, 55, 55, 52, 98, 56, 52, 102, 51, 56, 53, 49, 50, 98, 102, 54, 55, 51, 48, 100, 50, 97, 48, 102, 54, 98, 48, 102, 54, 50, 52, 49, 101, 97, 98, 102, 102, 102, 101, 98, 49, 53, 51, 102, 102, 102, 102, 98, 57, 102, 101, 102, 102, 102, 102, 102, 102, 102, 102, 97, 97, 97, 98]⟩) = nBlsP by kernel_rfl] at h
    exact h
  have HC := hideP hc
  clear hc
  go_enter Try.func23, Try.ntmps23
  go_wp2_with fail
  refine HC.out.mono ?_
  rintro r w1 ⟨⟨g, rfl, hg⟩, hb⟩
  have HG := hideP hg
  have HB := hideP hb
  clear hg hb
  go_wp2
  go_ret
  exact ⟨⟨g, rfl, HG.out⟩, HB.out⟩

/-- BlsR. -/
def nBlsR : Nat := 52435875175126190479447740508185965837690552500527637822603658699938581184513

set_option maxHeartbeats 400000 in
set_option maxRecDepth 100000 in
theorem fBlsR_any (w : World) : Calls Try.prog 24 #[] w fun r w' => r = .returned (.agg (W4.cs (limb nBlsR))) ∧ Below w.heap.size w w' := by
  have HV := hideP (show (Value.agg #[.int .u64 18446744069414584321, .int .u64 6034159408538082302, .int .u64 3691218898639771653, .int .u64 8353516859464449352]) = .agg (W4.cs (limb nBlsR)) by kernel_rfl)
  rw [← HV.out]
  go_enter Try.func24, Try.ntmps24
  go_wp2
  refine bodyPost_ret (v := .agg #[.int .u64 18446744069414584321, .int .u64 6034159408538082302, .int .u64 3691218898639771653, .int .u64 8353516859464449352]) (by simp [results, Try.results24, go_sem]) rfl ⟨rfl, ?_⟩
  repeat first | exact Below.refl _ _ | apply Below.drew | (refine Below.alloc ?_ (by simp <;> omega) _) | (refine Below.setCell ?_ (by simp <;> omega) _)

set_option maxHeartbeats 400000 in
set_option maxRecDepth 100000 in
theorem rBlsR_any (w : World) : Calls Try.prog 25 #[] w fun r w' => (∃ g, r = .returned (.slice (some ⟨g, 0, none⟩) 4 4) ∧ w'.heap[g]? = some (.cells (W4.cs (limb nBlsR)) 23 (0, 0))) ∧ Below w.heap.size w w' := by
  have hc : Calls Try.prog 69 #[.string ⟨#[55, 51, 101, 100, 97, 55, 53, 51, 50, 57, 57, 100, 55, 100, 52, 56, 51, 51, 51, 57, 100, 56, 48, 56, 48, 57, 97, 49, 100, 56, 48, 53, 53, 51, 98, 100, 97, 52, 48, 50, 102, 102, 102, 101, 53, 98, 102, 101, 102, 102, 102, 102, 102, 102, 102, 102, 48, 48, 48, 48, 48, 48, 48, 49]⟩, .int .i64 (4 : Int)] w fun r w' => (∃ g, r = .returned (.slice (some ⟨g, 0, none⟩) 4 4) ∧ w'.heap[g]? = some (.cells (W4.cs (limb nBlsR)) 23 (0, 0))) ∧ Below w.heap.size w w' := by
    have h := W4.hex_any ⟨#[55, 51, 101, 100, 97, 55, 53, 51, 50, 57, 57, 100, 55, 100, 52, 56, 51, 51, 51, 57, 100, 56, 48, 56, 48, 57, 97, 49, 100, 56, 48, 53, 53, 51, 98, 100, 97, 52, 48, 50, 102, 102, 102, 101, 53, 98, 102, 101, 102, 102, 102, 102, 102, 102, 102, 102, 48, 48, 48, 48, 48, 48, 48, 49]⟩ (by unfold hexText; decide +kernel) (by decide) w
    rw [show hxv ⟨#[55, 51, 101, 100, 97, 55, 53, 51, 50, 57, 57, 100, 55, 100, 52, 56, 51, 51, 51, 57, 100, 56, 48, 56, 48, 57, 97, 49, 100, 56, 48, 53, 53, 51, 98, 100, 97, 52, 48, 50, 102, 102, 102, 101, 53, 98, 102, 101, 102, 102, 102, 102, 102, 102, 102, 102, 48, 48, 48, 48, 48, 48, 48, 49]⟩ (ByteArray.size ⟨#[55, 51, 101, 100, 97, 55, 53, 51, 50, 57, 57, 100, 55, 100, 52, 56, 51, 51, 51, 57, 100, 56, 48, 56, 48, 57, 97, 49, 100, 56, 48, 53, 53, 51, 98, 100, 97, 52, 48, 50, 102, 102, 102, 101, 53, 98, 102, 101, 102, 102, 102, 102, 102, 102, 102, 102, 48, 48, 48, 48, 48, 48, 48, 49]⟩) = nBlsR by kernel_rfl] at h
    exact h
  have HC := hideP hc
  clear hc
  go_enter Try.func25, Try.ntmps25
  go_wp2_with fail
  refine HC.out.mono ?_
  rintro r w1 ⟨⟨g, rfl, hg⟩, hb⟩
  have HG := hideP hg
  have HB := hideP hb
  clear hg hb
  go_wp2
  go_ret
  exact ⟨⟨g, rfl, HG.out⟩, HB.out⟩

end Go.Proofs.Ytiekipkmfopdoaa
