/-
  Small numbers as text.
-/
import Derived.Test.YtaeadndihchbnaaDoorGasTilesC13
import Derived.Test.YtaeadndihchbnaaDoorGasTilesC15
namespace Go.Proofs.YtaeadndihchbnaaDoor
open Go.RowKit Go.Shelf

def noT : Orc := fun _ _ => none

theorem noT_ok : OrcOK Tryd.prog noT := ⟨fun _ _ _ h => (by cases h), str_ok⟩

def SmOK (c : Code) (n : Nat) : Prop := (evC noT 50 c (.int .i64 n :: List.replicate 14 undef)).map (fun r => (r.1, r.2.getD 2 undef)) = some (.ret, .string (itoaB n))

set_option maxRecDepth 100000 in
theorem smalls : ∀ n : Nat, n < 33 → SmOK (Tryd.f93.body.getD .skip) n
  | 0, _ => by unfold SmOK; kernel_rfl
  | 1, _ => by unfold SmOK; kernel_rfl
  | 2, _ => by unfold SmOK; kernel_rfl
  | 3, _ => by unfold SmOK; kernel_rfl
  | 4, _ => by unfold SmOK; kernel_rfl
  | 5, _ => by unfold SmOK; kernel_rfl
  | 6, _ => by unfold SmOK; kernel_rfl
  | 7, _ => by unfold SmOK; kernel_rfl
  | 8, _ => by unfold SmOK; kernel_rfl
  | 9, _ => by unfold SmOK; kernel_rfl
  | 10, _ => by unfold SmOK; kernel_rfl
  | 11, _ => by unfold SmOK; kernel_rfl
  | 12, _ => by unfold SmOK; kernel_rfl
  | 13, _ => by unfold SmOK; kernel_rfl
  | 14, _ => by unfold SmOK; kernel_rfl
  | 15, _ => by unfold SmOK; kernel_rfl
  | 16, _ => by unfold SmOK; kernel_rfl
  | 17, _ => by unfold SmOK; kernel_rfl
  | 18, _ => by unfold SmOK; kernel_rfl
  | 19, _ => by unfold SmOK; kernel_rfl
  | 20, _ => by unfold SmOK; kernel_rfl
  | 21, _ => by unfold SmOK; kernel_rfl
  | 22, _ => by unfold SmOK; kernel_rfl
  | 23, _ => by unfold SmOK; kernel_rfl
  | 24, _ => by unfold SmOK; kernel_rfl
  | 25, _ => by unfold SmOK; kernel_rfl
  | 26, _ => by unfold SmOK; kernel_rfl
  | 27, _ => by unfold SmOK; kernel_rfl
  | 28, _ => by unfold SmOK; kernel_rfl
  | 29, _ => by unfold SmOK; kernel_rfl
  | 30, _ => by unfold SmOK; kernel_rfl
  | 31, _ => by unfold SmOK; kernel_rfl
  | 32, _ => by unfold SmOK; kernel_rfl
  | n + 33, h => absurd h (by omega)

theorem small_digits (n : Nat) (h : n < 33) (w : World) : Calls Tryd.prog 93 #[.int .i64 n] w fun e w' => e = .returned (.string (itoaB n)) ∧ w' = w := by
  obtain ⟨⟨e, L'⟩, h1, h2⟩ := Option.map_eq_some_iff.1 (smalls n h)
  simp only [Prod.mk.injEq] at h2
  obtain ⟨rfl, h3⟩ := h2
  refine calls_of_wp Tryd.func93 (c := Tryd.f93.body.getD .skip) (by kernel_rfl) ?_
  have hl : (#[.int .i64 n] ++ Array.replicate (Tryd.f93.ntmps - (#[.int .i64 n] : Array Value).size) undef) = (.int .i64 n :: List.replicate 14 undef).toArray := by kernel_rfl
  rw [hl]
  refine evC_wp noT_ok 50 _ _ _ _ h1 _ w ?_
  refine ⟨rfl, _, results_tmp Tryd.results93 _ _ _, ?_, rfl⟩
  rw [← h3]
  simp [Array.getD_eq_getD_getElem?, List.getD_eq_getElem?_getD]

set_option maxHeartbeats 2000000 in
set_option maxRecDepth 100000 in
theorem formatInt_any (n : Nat) (h : n < 33) (w : World) : Calls Tryd.prog 92 #[.int .i64 n, .int .i64 10] w fun e w' => e = .returned (.string (itoaB n)) ∧ w' = w := by
  have HC := hideP (fun W => small_digits n h W)
  have g1 : (0 : Int) ≤ (n : Int) := by omega
  have g2 : (n : Int) < 100 := by omega
  generalize itoaB n = s at *
  clear h
  go_enter Tryd.func92, Tryd.ntmps92
  go_wp2_with fail
  refine (HC.out _).mono ?_
  rintro e w' ⟨rfl, rfl⟩
  go_wp2_with fail
  go_ret
  exact ⟨rfl, rfl⟩

set_option maxHeartbeats 2000000 in
set_option maxRecDepth 100000 in
theorem isItoa_any (n : Nat) (h : n < 33) (w : World) : Calls Tryd.prog 80 #[.int .i64 n] w fun e w' => e = .returned (.string (itoaB n)) ∧ w' = w := by
  have HC := hideP (fun W => formatInt_any n h W)
  have g1 : (0 : Int) ≤ (n : Int) := by omega
  have g2 : (n : Int) < 100 := by omega
  generalize itoaB n = s at *
  clear h
  go_enter Tryd.func80, Tryd.ntmps80
  go_wp2_with fail
  refine (HC.out _).mono ?_
  rintro e w' ⟨rfl, rfl⟩
  go_wp2_with fail
  go_ret
  exact ⟨rfl, rfl⟩

set_option maxHeartbeats 2000000 in
set_option maxRecDepth 100000 in
theorem itoa_any (n : Nat) (h : n < 33) (w : World) : Calls Tryd.prog 56 #[.int .i64 n] w fun e w' => e = .returned (.string (itoaB n)) ∧ w' = w := by
  have HC := hideP (fun W => isItoa_any n h W)
  have g1 : (0 : Int) ≤ (n : Int) := by omega
  have g2 : (n : Int) < 100 := by omega
  generalize itoaB n = s at *
  clear h
  go_enter Tryd.func56, Tryd.ntmps56
  go_wp2_with fail
  refine (HC.out _).mono ?_
  rintro e w' ⟨rfl, rfl⟩
  go_wp2_with fail
  go_ret
  exact ⟨rfl, rfl⟩

end Go.Proofs.YtaeadndihchbnaaDoor
