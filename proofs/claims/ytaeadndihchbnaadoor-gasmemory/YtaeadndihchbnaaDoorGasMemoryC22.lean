/-
  GasMemory: memory costs what the document says, however it grows.
-/
import Derived.Test.YtaeadndihchbnaaDoorGasMemoryC20
import Derived.Test.YtaeadndihchbnaaDoorGasMemoryC21
namespace Go.Proofs.YtaeadndihchbnaaDoor
open Go.RowKit Go.Shelf

set_option maxHeartbeats 4000000 in
set_option maxRecDepth 100000 in
theorem gasMemory_walk (n : Nat) (hn : n < 18446744073709551616) (s : Nat) (hs : s < 18446744073709551616) (A : Nat) (_ : A < M256) (B : Nat) (_ : B < M256) (w : World) : Calls Tryd.prog 4 #[.int .u64 n, .int .u64 s, wv A, wv B] w fun e w' => e = .returned (.bool true) ∧ Below w.heap.size w w' := by
  obtain ⟨a0, a1, a2, a3, hA⟩ := wv_form A
  obtain ⟨b0, b1, b2, b3, hB⟩ := wv_form B
  have hc := fun W => grow_any s A B hs W
  have hc2 := fun W => rgrow_any s A B hs W
  rw [hA, hB] at hc hc2 ⊢
  generalize growT s (A % M256) (B % M256) = r at *
  obtain ⟨r1, r2, r3⟩ := r
  have hw1 := fun W => pureB (words_any n hn W)
  have hw2 := fun W => pureB (rwords_any n hn W)
  have hm1 := fun W => pureB (memory_any n hn W)
  have hm2 := fun W => pureB (rmemory_any n hn W)
  generalize wds n = k at *
  generalize memN n = m at *
  have HC := hideP hc
  have HC2 := hideP hc2
  have HW1 := hideP hw1
  have HW2 := hideP hw2
  have HM1 := hideP hm1
  have HM2 := hideP hm2
  have HAW := hideP (fun W => awake_any W)
  clear hA hB hc hc2 hw1 hw2 hm1 hm2 hn hs
  go_enter Tryd.func4, Tryd.ntmps4
  go_wp2_with fail
  refine at_world_q (fun W0 hW0 => ?_)
  obtain ⟨HBa, HBb, HBW⟩ := box2 hW0
  clear hW0
  replace HBW := hideP HBW
  replace HBa := hideP HBa
  replace HBb := hideP HBb
  refine (HC.out _).mono ?_
  rintro e V1 ⟨rfl, hb⟩
  replace HBa := hideP ((hb.block _ (lt_of_block HBa.out)).trans HBa.out)
  replace HBb := hideP ((hb.block _ (lt_of_block HBb.out)).trans HBb.out)
  replace HBW := hideP (HBW.out.trans (hb.mono HBW.out.size))
  clear hb
  obtain ⟨ca0, ca1, ca2, ca3⟩ := cells4 HBa.out
  have hla := lt_of_block HBa.out
  obtain ⟨cb0, cb1, cb2, cb3⟩ := cells4 HBb.out
  have hlb := lt_of_block HBb.out
  go_wp2_with fail
  clear ca0 ca1 ca2 ca3 hla
  clear cb0 cb1 cb2 cb3 hlb
  refine (HC2.out _).mono ?_
  rintro e V2 ⟨rfl, hb⟩
  replace HBa := hideP ((hb.block _ (lt_of_block HBa.out)).trans HBa.out)
  replace HBb := hideP ((hb.block _ (lt_of_block HBb.out)).trans HBb.out)
  replace HBW := hideP (HBW.out.trans (hb.mono HBW.out.size))
  clear hb
  go_wp2_with fail
  refine (HW1.out _).mono ?_
  rintro e V3 ⟨rfl, hb⟩
  replace HBa := hideP ((hb.block _ (lt_of_block HBa.out)).trans HBa.out)
  replace HBb := hideP ((hb.block _ (lt_of_block HBb.out)).trans HBb.out)
  replace HBW := hideP (HBW.out.trans (hb.mono HBW.out.size))
  clear hb
  go_wp2_with fail
  refine (HW2.out _).mono ?_
  rintro e V4 ⟨rfl, hb⟩
  replace HBa := hideP ((hb.block _ (lt_of_block HBa.out)).trans HBa.out)
  replace HBb := hideP ((hb.block _ (lt_of_block HBb.out)).trans HBb.out)
  replace HBW := hideP (HBW.out.trans (hb.mono HBW.out.size))
  clear hb
  go_wp2_with fail
  refine (HM1.out _).mono ?_
  rintro e V5 ⟨rfl, hb⟩
  replace HBa := hideP ((hb.block _ (lt_of_block HBa.out)).trans HBa.out)
  replace HBb := hideP ((hb.block _ (lt_of_block HBb.out)).trans HBb.out)
  replace HBW := hideP (HBW.out.trans (hb.mono HBW.out.size))
  clear hb
  go_wp2_with fail
  refine (HM2.out _).mono ?_
  rintro e V6 ⟨rfl, hb⟩
  replace HBa := hideP ((hb.block _ (lt_of_block HBa.out)).trans HBa.out)
  replace HBb := hideP ((hb.block _ (lt_of_block HBb.out)).trans HBb.out)
  replace HBW := hideP (HBW.out.trans (hb.mono HBW.out.size))
  clear hb
  go_wp2_with fail
  refine (HAW.out _).mono ?_
  rintro e V7 ⟨rfl, hb⟩
  replace HBa := hideP ((hb.block _ (lt_of_block HBa.out)).trans HBa.out)
  replace HBb := hideP ((hb.block _ (lt_of_block HBb.out)).trans HBb.out)
  replace HBW := hideP (HBW.out.trans (hb.mono HBW.out.size))
  clear hb
  go_wp2_with fail
  go_ret
  exact ⟨rfl, HBW.out⟩

end Go.Proofs.YtaeadndihchbnaaDoor
