/-
  The document: what writing a slot costs.
-/
import Derived.Test.YtaeadndihchbnaaDoorGasStoresC14
namespace Go.Proofs.YtaeadndihchbnaaDoor
open Go.RowKit Go.Shelf

set_option maxHeartbeats 4000000 in
set_option maxRecDepth 100000 in
theorem rstore_any (A B C : Nat) (warm : Bool) (w : World) : Calls Tryd.prog 41 #[wv A, wv B, wv C, .bool warm] w fun e w' => e = .returned (.tuple #[.int .u64 (storeN (A % M256) (B % M256) (C % M256) warm).1, .int .i64 (storeN (A % M256) (B % M256) (C % M256) warm).2]) ∧ Below w.heap.size w w' := by
  obtain ⟨a0, a1, a2, a3, hA⟩ := wv_form A
  obtain ⟨b0, b1, b2, b3, hB⟩ := wv_form B
  obtain ⟨c0, c1, c2, c3, hC⟩ := wv_form C
  cases warm
  · by_cases h1 : C % M256 = B % M256
    · have q1 := fun W => eq_run C B (b := true) (by simp [h1]) hC hB W
      rw [show storeN (A % M256) (B % M256) (C % M256) false = (2200, 0) from by unfold storeN; dsimp only; (repeat' split) <;> first | rfl | (exfalso; omega) | (refine Prod.ext ?_ ?_ <;> dsimp only <;> omega) | (exfalso; simp_all)]
      rw [hA, hB, hC]
      clear hA hB hC h1
      go_enter Tryd.func41, Tryd.ntmps41
      go_wp2_with fail
      go_ret2
      refine ⟨rfl, ?_⟩
      repeat first | exact Below.refl _ _ | (refine Below.alloc ?_ (by simp <;> omega) _) | (refine Below.setCell ?_ (by simp <;> omega) _)
    by_cases h2 : B % M256 = A % M256
    · by_cases h3 : A % M256 = 0
      · have q1 := fun W => eq_run C B (b := false) (by simp [h1]) hC hB W
        have q2 := fun W => eq_run B A (b := true) (by simp [h2]) hB hA W
        have z1 := fun W => eq_zero A (b := true) (by simp [h3]) hA W
        rw [show storeN (A % M256) (B % M256) (C % M256) false = (22100, 0) from by unfold storeN; dsimp only; (repeat' split) <;> first | rfl | (exfalso; omega) | (refine Prod.ext ?_ ?_ <;> dsimp only <;> omega) | (exfalso; simp_all)]
        rw [hA, hB, hC]
        clear hA hB hC h1 h2 h3
        go_enter Tryd.func41, Tryd.ntmps41
        go_wp2_with fail
        go_ret2
        refine ⟨rfl, ?_⟩
        repeat first | exact Below.refl _ _ | (refine Below.alloc ?_ (by simp <;> omega) _) | (refine Below.setCell ?_ (by simp <;> omega) _)
      · by_cases h4 : C % M256 = 0
        · have q1 := fun W => eq_run C B (b := false) (by simp [h1]) hC hB W
          have q2 := fun W => eq_run B A (b := true) (by simp [h2]) hB hA W
          have z1 := fun W => eq_zero A (b := false) (by simp [h3]) hA W
          have z3 := fun W => eq_zero C (b := true) (by simp [h4]) hC W
          rw [show storeN (A % M256) (B % M256) (C % M256) false = (5000, 4800) from by unfold storeN; dsimp only; (repeat' split) <;> first | rfl | (exfalso; omega) | (refine Prod.ext ?_ ?_ <;> dsimp only <;> omega) | (exfalso; simp_all)]
          rw [hA, hB, hC]
          clear hA hB hC h1 h2 h3 h4
          go_enter Tryd.func41, Tryd.ntmps41
          go_wp2_with fail
          go_ret2
          refine ⟨rfl, ?_⟩
          repeat first | exact Below.refl _ _ | (refine Below.alloc ?_ (by simp <;> omega) _) | (refine Below.setCell ?_ (by simp <;> omega) _)
        · have q1 := fun W => eq_run C B (b := false) (by simp [h1]) hC hB W
          have q2 := fun W => eq_run B A (b := true) (by simp [h2]) hB hA W
          have z1 := fun W => eq_zero A (b := false) (by simp [h3]) hA W
          have z3 := fun W => eq_zero C (b := false) (by simp [h4]) hC W
          rw [show storeN (A % M256) (B % M256) (C % M256) false = (5000, 0) from by unfold storeN; dsimp only; (repeat' split) <;> first | rfl | (exfalso; omega) | (refine Prod.ext ?_ ?_ <;> dsimp only <;> omega) | (exfalso; simp_all)]
          rw [hA, hB, hC]
          clear hA hB hC h1 h2 h3 h4
          go_enter Tryd.func41, Tryd.ntmps41
          go_wp2_with fail
          go_ret2
          refine ⟨rfl, ?_⟩
          repeat first | exact Below.refl _ _ | (refine Below.alloc ?_ (by simp <;> omega) _) | (refine Below.setCell ?_ (by simp <;> omega) _)
    · by_cases hz1 : A % M256 = 0
      · by_cases hz2 : B % M256 = 0
        · by_cases hz3 : C % M256 = 0
          · by_cases h4 : C % M256 = A % M256
            · exfalso; omega
            · exfalso; omega
          · by_cases h4 : C % M256 = A % M256
            · exfalso; omega
            · exfalso; omega
        · by_cases hz3 : C % M256 = 0
          · by_cases h4 : C % M256 = A % M256
            · have q1 := fun W => eq_run C B (b := false) (by simp [h1]) hC hB W
              have q2 := fun W => eq_run B A (b := false) (by simp [h2]) hB hA W
              have z1 := fun W => eq_zero A (b := true) (by simp [hz1]) hA W
              have z2 := fun W => eq_zero B (b := false) (by simp [hz2]) hB W
              have z3 := fun W => eq_zero C (b := true) (by simp [hz3]) hC W
              have q3 := fun W => eq_run C A (b := true) (by simp [h4]) hC hA W
              rw [show storeN (A % M256) (B % M256) (C % M256) false = (2200, 19900) from by unfold storeN; dsimp only; (repeat' split) <;> first | rfl | (exfalso; omega) | (refine Prod.ext ?_ ?_ <;> dsimp only <;> omega) | (exfalso; simp_all)]
              rw [hA, hB, hC]
              clear hA hB hC h1 h2 hz1 hz2 hz3 h4
              go_enter Tryd.func41, Tryd.ntmps41
              go_wp2_with fail
              go_ret2
              refine ⟨rfl, ?_⟩
              repeat first | exact Below.refl _ _ | (refine Below.alloc ?_ (by simp <;> omega) _) | (refine Below.setCell ?_ (by simp <;> omega) _)
            · exfalso; omega
          · by_cases h4 : C % M256 = A % M256
            · exfalso; omega
            · have q1 := fun W => eq_run C B (b := false) (by simp [h1]) hC hB W
              have q2 := fun W => eq_run B A (b := false) (by simp [h2]) hB hA W
              have z1 := fun W => eq_zero A (b := true) (by simp [hz1]) hA W
              have z2 := fun W => eq_zero B (b := false) (by simp [hz2]) hB W
              have z3 := fun W => eq_zero C (b := false) (by simp [hz3]) hC W
              have q3 := fun W => eq_run C A (b := false) (by simp [h4]) hC hA W
              rw [show storeN (A % M256) (B % M256) (C % M256) false = (2200, 0) from by unfold storeN; dsimp only; (repeat' split) <;> first | rfl | (exfalso; omega) | (refine Prod.ext ?_ ?_ <;> dsimp only <;> omega) | (exfalso; simp_all)]
              rw [hA, hB, hC]
              clear hA hB hC h1 h2 hz1 hz2 hz3 h4
              go_enter Tryd.func41, Tryd.ntmps41
              go_wp2_with fail
              go_ret2
              refine ⟨rfl, ?_⟩
              repeat first | exact Below.refl _ _ | (refine Below.alloc ?_ (by simp <;> omega) _) | (refine Below.setCell ?_ (by simp <;> omega) _)
      · by_cases hz2 : B % M256 = 0
        · by_cases hz3 : C % M256 = 0
          · by_cases h4 : C % M256 = A % M256
            · exfalso; omega
            · exfalso; omega
          · by_cases h4 : C % M256 = A % M256
            · have q1 := fun W => eq_run C B (b := false) (by simp [h1]) hC hB W
              have q2 := fun W => eq_run B A (b := false) (by simp [h2]) hB hA W
              have z1 := fun W => eq_zero A (b := false) (by simp [hz1]) hA W
              have z2 := fun W => eq_zero B (b := true) (by simp [hz2]) hB W
              have z3 := fun W => eq_zero C (b := false) (by simp [hz3]) hC W
              have q3 := fun W => eq_run C A (b := true) (by simp [h4]) hC hA W
              rw [show storeN (A % M256) (B % M256) (C % M256) false = (2200, (-2000 : Int)) from by unfold storeN; dsimp only; (repeat' split) <;> first | rfl | (exfalso; omega) | (refine Prod.ext ?_ ?_ <;> dsimp only <;> omega) | (exfalso; simp_all)]
              rw [hA, hB, hC]
              clear hA hB hC h1 h2 hz1 hz2 hz3 h4
              go_enter Tryd.func41, Tryd.ntmps41
              go_wp2_with fail
              go_ret2
              refine ⟨rfl, ?_⟩
              repeat first | exact Below.refl _ _ | (refine Below.alloc ?_ (by simp <;> omega) _) | (refine Below.setCell ?_ (by simp <;> omega) _)
            · have q1 := fun W => eq_run C B (b := false) (by simp [h1]) hC hB W
              have q2 := fun W => eq_run B A (b := false) (by simp [h2]) hB hA W
              have z1 := fun W => eq_zero A (b := false) (by simp [hz1]) hA W
              have z2 := fun W => eq_zero B (b := true) (by simp [hz2]) hB W
              have z3 := fun W => eq_zero C (b := false) (by simp [hz3]) hC W
              have q3 := fun W => eq_run C A (b := false) (by simp [h4]) hC hA W
              rw [show storeN (A % M256) (B % M256) (C % M256) false = (2200, (-4800 : Int)) from by unfold storeN; dsimp only; (repeat' split) <;> first | rfl | (exfalso; omega) | (refine Prod.ext ?_ ?_ <;> dsimp only <;> omega) | (exfalso; simp_all)]
              rw [hA, hB, hC]
              clear hA hB hC h1 h2 hz1 hz2 hz3 h4
              go_enter Tryd.func41, Tryd.ntmps41
              go_wp2_with fail
              go_ret2
              refine ⟨rfl, ?_⟩
              repeat first | exact Below.refl _ _ | (refine Below.alloc ?_ (by simp <;> omega) _) | (refine Below.setCell ?_ (by simp <;> omega) _)
        · by_cases hz3 : C % M256 = 0
          · by_cases h4 : C % M256 = A % M256
            · exfalso; omega
            · have q1 := fun W => eq_run C B (b := false) (by simp [h1]) hC hB W
              have q2 := fun W => eq_run B A (b := false) (by simp [h2]) hB hA W
              have z1 := fun W => eq_zero A (b := false) (by simp [hz1]) hA W
              have z2 := fun W => eq_zero B (b := false) (by simp [hz2]) hB W
              have z3 := fun W => eq_zero C (b := true) (by simp [hz3]) hC W
              have q3 := fun W => eq_run C A (b := false) (by simp [h4]) hC hA W
              rw [show storeN (A % M256) (B % M256) (C % M256) false = (2200, 4800) from by unfold storeN; dsimp only; (repeat' split) <;> first | rfl | (exfalso; omega) | (refine Prod.ext ?_ ?_ <;> dsimp only <;> omega) | (exfalso; simp_all)]
              rw [hA, hB, hC]
              clear hA hB hC h1 h2 hz1 hz2 hz3 h4
              go_enter Tryd.func41, Tryd.ntmps41
              go_wp2_with fail
              go_ret2
              refine ⟨rfl, ?_⟩
              repeat first | exact Below.refl _ _ | (refine Below.alloc ?_ (by simp <;> omega) _) | (refine Below.setCell ?_ (by simp <;> omega) _)
          · by_cases h4 : C % M256 = A % M256
            · have q1 := fun W => eq_run C B (b := false) (by simp [h1]) hC hB W
              have q2 := fun W => eq_run B A (b := false) (by simp [h2]) hB hA W
              have z1 := fun W => eq_zero A (b := false) (by simp [hz1]) hA W
              have z2 := fun W => eq_zero B (b := false) (by simp [hz2]) hB W
              have z3 := fun W => eq_zero C (b := false) (by simp [hz3]) hC W
              have q3 := fun W => eq_run C A (b := true) (by simp [h4]) hC hA W
              rw [show storeN (A % M256) (B % M256) (C % M256) false = (2200, 2800) from by unfold storeN; dsimp only; (repeat' split) <;> first | rfl | (exfalso; omega) | (refine Prod.ext ?_ ?_ <;> dsimp only <;> omega) | (exfalso; simp_all)]
              rw [hA, hB, hC]
              clear hA hB hC h1 h2 hz1 hz2 hz3 h4
              go_enter Tryd.func41, Tryd.ntmps41
              go_wp2_with fail
              go_ret2
              refine ⟨rfl, ?_⟩
              repeat first | exact Below.refl _ _ | (refine Below.alloc ?_ (by simp <;> omega) _) | (refine Below.setCell ?_ (by simp <;> omega) _)
            · have q1 := fun W => eq_run C B (b := false) (by simp [h1]) hC hB W
              have q2 := fun W => eq_run B A (b := false) (by simp [h2]) hB hA W
              have z1 := fun W => eq_zero A (b := false) (by simp [hz1]) hA W
              have z2 := fun W => eq_zero B (b := false) (by simp [hz2]) hB W
              have z3 := fun W => eq_zero C (b := false) (by simp [hz3]) hC W
              have q3 := fun W => eq_run C A (b := false) (by simp [h4]) hC hA W
              rw [show storeN (A % M256) (B % M256) (C % M256) false = (2200, 0) from by unfold storeN; dsimp only; (repeat' split) <;> first | rfl | (exfalso; omega) | (refine Prod.ext ?_ ?_ <;> dsimp only <;> omega) | (exfalso; simp_all)]
              rw [hA, hB, hC]
              clear hA hB hC h1 h2 hz1 hz2 hz3 h4
              go_enter Tryd.func41, Tryd.ntmps41
              go_wp2_with fail
              go_ret2
              refine ⟨rfl, ?_⟩
              repeat first | exact Below.refl _ _ | (refine Below.alloc ?_ (by simp <;> omega) _) | (refine Below.setCell ?_ (by simp <;> omega) _)
  · by_cases h1 : C % M256 = B % M256
    · have q1 := fun W => eq_run C B (b := true) (by simp [h1]) hC hB W
      rw [show storeN (A % M256) (B % M256) (C % M256) true = (100, 0) from by unfold storeN; dsimp only; (repeat' split) <;> first | rfl | (exfalso; omega) | (refine Prod.ext ?_ ?_ <;> dsimp only <;> omega) | (exfalso; simp_all)]
      rw [hA, hB, hC]
      clear hA hB hC h1
      go_enter Tryd.func41, Tryd.ntmps41
      go_wp2_with fail
      go_ret2
      refine ⟨rfl, ?_⟩
      repeat first | exact Below.refl _ _ | (refine Below.alloc ?_ (by simp <;> omega) _) | (refine Below.setCell ?_ (by simp <;> omega) _)
    by_cases h2 : B % M256 = A % M256
    · by_cases h3 : A % M256 = 0
      · have q1 := fun W => eq_run C B (b := false) (by simp [h1]) hC hB W
        have q2 := fun W => eq_run B A (b := true) (by simp [h2]) hB hA W
        have z1 := fun W => eq_zero A (b := true) (by simp [h3]) hA W
        rw [show storeN (A % M256) (B % M256) (C % M256) true = (20000, 0) from by unfold storeN; dsimp only; (repeat' split) <;> first | rfl | (exfalso; omega) | (refine Prod.ext ?_ ?_ <;> dsimp only <;> omega) | (exfalso; simp_all)]
        rw [hA, hB, hC]
        clear hA hB hC h1 h2 h3
        go_enter Tryd.func41, Tryd.ntmps41
        go_wp2_with fail
        go_ret2
        refine ⟨rfl, ?_⟩
        repeat first | exact Below.refl _ _ | (refine Below.alloc ?_ (by simp <;> omega) _) | (refine Below.setCell ?_ (by simp <;> omega) _)
      · by_cases h4 : C % M256 = 0
        · have q1 := fun W => eq_run C B (b := false) (by simp [h1]) hC hB W
          have q2 := fun W => eq_run B A (b := true) (by simp [h2]) hB hA W
          have z1 := fun W => eq_zero A (b := false) (by simp [h3]) hA W
          have z3 := fun W => eq_zero C (b := true) (by simp [h4]) hC W
          rw [show storeN (A % M256) (B % M256) (C % M256) true = (2900, 4800) from by unfold storeN; dsimp only; (repeat' split) <;> first | rfl | (exfalso; omega) | (refine Prod.ext ?_ ?_ <;> dsimp only <;> omega) | (exfalso; simp_all)]
          rw [hA, hB, hC]
          clear hA hB hC h1 h2 h3 h4
          go_enter Tryd.func41, Tryd.ntmps41
          go_wp2_with fail
          go_ret2
          refine ⟨rfl, ?_⟩
          repeat first | exact Below.refl _ _ | (refine Below.alloc ?_ (by simp <;> omega) _) | (refine Below.setCell ?_ (by simp <;> omega) _)
        · have q1 := fun W => eq_run C B (b := false) (by simp [h1]) hC hB W
          have q2 := fun W => eq_run B A (b := true) (by simp [h2]) hB hA W
          have z1 := fun W => eq_zero A (b := false) (by simp [h3]) hA W
          have z3 := fun W => eq_zero C (b := false) (by simp [h4]) hC W
          rw [show storeN (A % M256) (B % M256) (C % M256) true = (2900, 0) from by unfold storeN; dsimp only; (repeat' split) <;> first | rfl | (exfalso; omega) | (refine Prod.ext ?_ ?_ <;> dsimp only <;> omega) | (exfalso; simp_all)]
          rw [hA, hB, hC]
          clear hA hB hC h1 h2 h3 h4
          go_enter Tryd.func41, Tryd.ntmps41
          go_wp2_with fail
          go_ret2
          refine ⟨rfl, ?_⟩
          repeat first | exact Below.refl _ _ | (refine Below.alloc ?_ (by simp <;> omega) _) | (refine Below.setCell ?_ (by simp <;> omega) _)
    · by_cases hz1 : A % M256 = 0
      · by_cases hz2 : B % M256 = 0
        · by_cases hz3 : C % M256 = 0
          · by_cases h4 : C % M256 = A % M256
            · exfalso; omega
            · exfalso; omega
          · by_cases h4 : C % M256 = A % M256
            · exfalso; omega
            · exfalso; omega
        · by_cases hz3 : C % M256 = 0
          · by_cases h4 : C % M256 = A % M256
            · have q1 := fun W => eq_run C B (b := false) (by simp [h1]) hC hB W
              have q2 := fun W => eq_run B A (b := false) (by simp [h2]) hB hA W
              have z1 := fun W => eq_zero A (b := true) (by simp [hz1]) hA W
              have z2 := fun W => eq_zero B (b := false) (by simp [hz2]) hB W
              have z3 := fun W => eq_zero C (b := true) (by simp [hz3]) hC W
              have q3 := fun W => eq_run C A (b := true) (by simp [h4]) hC hA W
              rw [show storeN (A % M256) (B % M256) (C % M256) true = (100, 19900) from by unfold storeN; dsimp only; (repeat' split) <;> first | rfl | (exfalso; omega) | (refine Prod.ext ?_ ?_ <;> dsimp only <;> omega) | (exfalso; simp_all)]
              rw [hA, hB, hC]
              clear hA hB hC h1 h2 hz1 hz2 hz3 h4
              go_enter Tryd.func41, Tryd.ntmps41
              go_wp2_with fail
              go_ret2
              refine ⟨rfl, ?_⟩
              repeat first | exact Below.refl _ _ | (refine Below.alloc ?_ (by simp <;> omega) _) | (refine Below.setCell ?_ (by simp <;> omega) _)
            · exfalso; omega
          · by_cases h4 : C % M256 = A % M256
            · exfalso; omega
            · have q1 := fun W => eq_run C B (b := false) (by simp [h1]) hC hB W
              have q2 := fun W => eq_run B A (b := false) (by simp [h2]) hB hA W
              have z1 := fun W => eq_zero A (b := true) (by simp [hz1]) hA W
              have z2 := fun W => eq_zero B (b := false) (by simp [hz2]) hB W
              have z3 := fun W => eq_zero C (b := false) (by simp [hz3]) hC W
              have q3 := fun W => eq_run C A (b := false) (by simp [h4]) hC hA W
              rw [show storeN (A % M256) (B % M256) (C % M256) true = (100, 0) from by unfold storeN; dsimp only; (repeat' split) <;> first | rfl | (exfalso; omega) | (refine Prod.ext ?_ ?_ <;> dsimp only <;> omega) | (exfalso; simp_all)]
              rw [hA, hB, hC]
              clear hA hB hC h1 h2 hz1 hz2 hz3 h4
              go_enter Tryd.func41, Tryd.ntmps41
              go_wp2_with fail
              go_ret2
              refine ⟨rfl, ?_⟩
              repeat first | exact Below.refl _ _ | (refine Below.alloc ?_ (by simp <;> omega) _) | (refine Below.setCell ?_ (by simp <;> omega) _)
      · by_cases hz2 : B % M256 = 0
        · by_cases hz3 : C % M256 = 0
          · by_cases h4 : C % M256 = A % M256
            · exfalso; omega
            · exfalso; omega
          · by_cases h4 : C % M256 = A % M256
            · have q1 := fun W => eq_run C B (b := false) (by simp [h1]) hC hB W
              have q2 := fun W => eq_run B A (b := false) (by simp [h2]) hB hA W
              have z1 := fun W => eq_zero A (b := false) (by simp [hz1]) hA W
              have z2 := fun W => eq_zero B (b := true) (by simp [hz2]) hB W
              have z3 := fun W => eq_zero C (b := false) (by simp [hz3]) hC W
              have q3 := fun W => eq_run C A (b := true) (by simp [h4]) hC hA W
              rw [show storeN (A % M256) (B % M256) (C % M256) true = (100, (-2000 : Int)) from by unfold storeN; dsimp only; (repeat' split) <;> first | rfl | (exfalso; omega) | (refine Prod.ext ?_ ?_ <;> dsimp only <;> omega) | (exfalso; simp_all)]
              rw [hA, hB, hC]
              clear hA hB hC h1 h2 hz1 hz2 hz3 h4
              go_enter Tryd.func41, Tryd.ntmps41
              go_wp2_with fail
              go_ret2
              refine ⟨rfl, ?_⟩
              repeat first | exact Below.refl _ _ | (refine Below.alloc ?_ (by simp <;> omega) _) | (refine Below.setCell ?_ (by simp <;> omega) _)
            · have q1 := fun W => eq_run C B (b := false) (by simp [h1]) hC hB W
              have q2 := fun W => eq_run B A (b := false) (by simp [h2]) hB hA W
              have z1 := fun W => eq_zero A (b := false) (by simp [hz1]) hA W
              have z2 := fun W => eq_zero B (b := true) (by simp [hz2]) hB W
              have z3 := fun W => eq_zero C (b := false) (by simp [hz3]) hC W
              have q3 := fun W => eq_run C A (b := false) (by simp [h4]) hC hA W
              rw [show storeN (A % M256) (B % M256) (C % M256) true = (100, (-4800 : Int)) from by unfold storeN; dsimp only; (repeat' split) <;> first | rfl | (exfalso; omega) | (refine Prod.ext ?_ ?_ <;> dsimp only <;> omega) | (exfalso; simp_all)]
              rw [hA, hB, hC]
              clear hA hB hC h1 h2 hz1 hz2 hz3 h4
              go_enter Tryd.func41, Tryd.ntmps41
              go_wp2_with fail
              go_ret2
              refine ⟨rfl, ?_⟩
              repeat first | exact Below.refl _ _ | (refine Below.alloc ?_ (by simp <;> omega) _) | (refine Below.setCell ?_ (by simp <;> omega) _)
        · by_cases hz3 : C % M256 = 0
          · by_cases h4 : C % M256 = A % M256
            · exfalso; omega
            · have q1 := fun W => eq_run C B (b := false) (by simp [h1]) hC hB W
              have q2 := fun W => eq_run B A (b := false) (by simp [h2]) hB hA W
              have z1 := fun W => eq_zero A (b := false) (by simp [hz1]) hA W
              have z2 := fun W => eq_zero B (b := false) (by simp [hz2]) hB W
              have z3 := fun W => eq_zero C (b := true) (by simp [hz3]) hC W
              have q3 := fun W => eq_run C A (b := false) (by simp [h4]) hC hA W
              rw [show storeN (A % M256) (B % M256) (C % M256) true = (100, 4800) from by unfold storeN; dsimp only; (repeat' split) <;> first | rfl | (exfalso; omega) | (refine Prod.ext ?_ ?_ <;> dsimp only <;> omega) | (exfalso; simp_all)]
              rw [hA, hB, hC]
              clear hA hB hC h1 h2 hz1 hz2 hz3 h4
              go_enter Tryd.func41, Tryd.ntmps41
              go_wp2_with fail
              go_ret2
              refine ⟨rfl, ?_⟩
              repeat first | exact Below.refl _ _ | (refine Below.alloc ?_ (by simp <;> omega) _) | (refine Below.setCell ?_ (by simp <;> omega) _)
          · by_cases h4 : C % M256 = A % M256
            · have q1 := fun W => eq_run C B (b := false) (by simp [h1]) hC hB W
              have q2 := fun W => eq_run B A (b := false) (by simp [h2]) hB hA W
              have z1 := fun W => eq_zero A (b := false) (by simp [hz1]) hA W
              have z2 := fun W => eq_zero B (b := false) (by simp [hz2]) hB W
              have z3 := fun W => eq_zero C (b := false) (by simp [hz3]) hC W
              have q3 := fun W => eq_run C A (b := true) (by simp [h4]) hC hA W
              rw [show storeN (A % M256) (B % M256) (C % M256) true = (100, 2800) from by unfold storeN; dsimp only; (repeat' split) <;> first | rfl | (exfalso; omega) | (refine Prod.ext ?_ ?_ <;> dsimp only <;> omega) | (exfalso; simp_all)]
              rw [hA, hB, hC]
              clear hA hB hC h1 h2 hz1 hz2 hz3 h4
              go_enter Tryd.func41, Tryd.ntmps41
              go_wp2_with fail
              go_ret2
              refine ⟨rfl, ?_⟩
              repeat first | exact Below.refl _ _ | (refine Below.alloc ?_ (by simp <;> omega) _) | (refine Below.setCell ?_ (by simp <;> omega) _)
            · have q1 := fun W => eq_run C B (b := false) (by simp [h1]) hC hB W
              have q2 := fun W => eq_run B A (b := false) (by simp [h2]) hB hA W
              have z1 := fun W => eq_zero A (b := false) (by simp [hz1]) hA W
              have z2 := fun W => eq_zero B (b := false) (by simp [hz2]) hB W
              have z3 := fun W => eq_zero C (b := false) (by simp [hz3]) hC W
              have q3 := fun W => eq_run C A (b := false) (by simp [h4]) hC hA W
              rw [show storeN (A % M256) (B % M256) (C % M256) true = (100, 0) from by unfold storeN; dsimp only; (repeat' split) <;> first | rfl | (exfalso; omega) | (refine Prod.ext ?_ ?_ <;> dsimp only <;> omega) | (exfalso; simp_all)]
              rw [hA, hB, hC]
              clear hA hB hC h1 h2 hz1 hz2 hz3 h4
              go_enter Tryd.func41, Tryd.ntmps41
              go_wp2_with fail
              go_ret2
              refine ⟨rfl, ?_⟩
              repeat first | exact Below.refl _ _ | (refine Below.alloc ?_ (by simp <;> omega) _) | (refine Below.setCell ?_ (by simp <;> omega) _)

end Go.Proofs.YtaeadndihchbnaaDoor
