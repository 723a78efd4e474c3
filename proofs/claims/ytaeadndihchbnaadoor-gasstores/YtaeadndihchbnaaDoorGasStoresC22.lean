/-
  GasStores: writing a slot costs, and gives back, what the document says.
-/
import Derived.Test.YtaeadndihchbnaaDoorGasStoresC20
import Derived.Test.YtaeadndihchbnaaDoorGasStoresC21
namespace Go.Proofs.YtaeadndihchbnaaDoor
open Go.RowKit Go.Shelf

set_option maxHeartbeats 4000000 in
set_option maxRecDepth 100000 in
theorem gasStores_walk (A : Nat) (_ : A < M256) (B : Nat) (_ : B < M256) (C : Nat) (_ : C < M256) (wm : Bool) (w : World) : Calls Tryd.prog 6 #[wv A, wv B, wv C, .bool wm] w fun e w' => e = .returned (.bool true) ∧ Below w.heap.size w w' := by
  obtain ⟨a0, a1, a2, a3, hA⟩ := wv_form A
  obtain ⟨b0, b1, b2, b3, hB⟩ := wv_form B
  obtain ⟨c0, c1, c2, c3, hC⟩ := wv_form C
  have hc := fun W => store_any A B C wm W
  have hc2 := fun W => rstore_any A B C wm W
  rw [hA, hB, hC] at hc hc2 ⊢
  generalize storeN (A % M256) (B % M256) (C % M256) wm = s at *
  obtain ⟨s1, s2⟩ := s
  have HC := hideP hc
  have HC2 := hideP hc2
  have HAW := hideP (fun W => awake_any W)
  clear hA hB hC hc hc2
  go_enter Tryd.func6, Tryd.ntmps6
  go_wp2_with fail
  refine at_world_q (fun W0 hW0 => ?_)
  obtain ⟨HBa, HBb, HBc, HBW⟩ := box3 hW0
  clear hW0
  replace HBW := hideP HBW
  replace HBa := hideP HBa
  replace HBb := hideP HBb
  replace HBc := hideP HBc
  refine (HC.out _).mono ?_
  rintro e V1 ⟨rfl, hb⟩
  replace HBa := hideP ((hb.block _ (lt_of_block HBa.out)).trans HBa.out)
  replace HBb := hideP ((hb.block _ (lt_of_block HBb.out)).trans HBb.out)
  replace HBc := hideP ((hb.block _ (lt_of_block HBc.out)).trans HBc.out)
  replace HBW := hideP (HBW.out.trans (hb.mono HBW.out.size))
  clear hb
  obtain ⟨ca0, ca1, ca2, ca3⟩ := cells4 HBa.out
  have hla := lt_of_block HBa.out
  obtain ⟨cb0, cb1, cb2, cb3⟩ := cells4 HBb.out
  have hlb := lt_of_block HBb.out
  obtain ⟨cc0, cc1, cc2, cc3⟩ := cells4 HBc.out
  have hlc := lt_of_block HBc.out
  go_wp2_with fail
  clear ca0 ca1 ca2 ca3 hla
  clear cb0 cb1 cb2 cb3 hlb
  clear cc0 cc1 cc2 cc3 hlc
  refine (HC2.out _).mono ?_
  rintro e V2 ⟨rfl, hb⟩
  replace HBa := hideP ((hb.block _ (lt_of_block HBa.out)).trans HBa.out)
  replace HBb := hideP ((hb.block _ (lt_of_block HBb.out)).trans HBb.out)
  replace HBc := hideP ((hb.block _ (lt_of_block HBc.out)).trans HBc.out)
  replace HBW := hideP (HBW.out.trans (hb.mono HBW.out.size))
  clear hb
  go_wp2_with fail
  refine (HAW.out _).mono ?_
  rintro e V3 ⟨rfl, hb⟩
  replace HBa := hideP ((hb.block _ (lt_of_block HBa.out)).trans HBa.out)
  replace HBb := hideP ((hb.block _ (lt_of_block HBb.out)).trans HBb.out)
  replace HBc := hideP ((hb.block _ (lt_of_block HBc.out)).trans HBc.out)
  replace HBW := hideP (HBW.out.trans (hb.mono HBW.out.size))
  clear hb
  go_wp2_with fail
  go_ret
  exact ⟨rfl, HBW.out⟩

end Go.Proofs.YtaeadndihchbnaaDoor
