/-
  What an opcode costs in any case, how many words it takes and puts.
-/
import Derived.Test.YtaeadndihchbnaaDoorGasTilesC14
namespace Go.Proofs.YtaeadndihchbnaaDoor
open Go.RowKit Go.Shelf

def costL : List Nat := [0, 1, 2, 3, 5, 8, 10, 20, 30, 100, 375, 5000, 32000]

theorem cost_at : ∀ (c : Nat) (_ : c < 13) (W : World), (Instr.index 105 (.agg #[.int .u64 0, .int .u64 1, .int .u64 2, .int .u64 3, .int .u64 5, .int .u64 8, .int .u64 10, .int .u64 20, .int .u64 30, .int .u64 100, .int .u64 375, .int .u64 5000, .int .u64 32000]) (.int .i64 c)).run Tryd.prog W = .ok (.int .u64 (costL.getD c 0 : Nat)) W
  | 0, _, _ => by kernel_rfl
  | 1, _, _ => by kernel_rfl
  | 2, _, _ => by kernel_rfl
  | 3, _, _ => by kernel_rfl
  | 4, _, _ => by kernel_rfl
  | 5, _, _ => by kernel_rfl
  | 6, _, _ => by kernel_rfl
  | 7, _, _ => by kernel_rfl
  | 8, _, _ => by kernel_rfl
  | 9, _, _ => by kernel_rfl
  | 10, _, _ => by kernel_rfl
  | 11, _, _ => by kernel_rfl
  | 12, _, _ => by kernel_rfl
  | n + 13, h, _ => absurd h (by omega)

set_option maxHeartbeats 2000000 in
set_option maxRecDepth 100000 in
theorem gas_any (c : Nat) (h : c < 13) (w : World) : Calls Tryd.prog 58 #[.int .i64 c] w fun e w' => e = .returned (.int .u64 (costL.getD c 0 : Nat)) ∧ w' = w := by
  have hc := fun W => cost_at c h W
  clear h
  go_enter Tryd.func58, Tryd.ntmps58
  go_wp2_with fail
  go_ret
  exact ⟨rfl, rfl⟩

/-- The families whose words hang on the number. -/
def numW (k n : Int) : Option Value := if k = 96 then some (.tuple #[.int .i64 3, .int .i64 0, .int .i64 1]) else if k = 144 then some (.tuple #[.int .i64 3, .int .i64 (wrap64 (n + 1)), .int .i64 (wrap64 (n + 1))])
  else if k = 128 then some (.tuple #[.int .i64 3, .int .i64 (wrap64 n), .int .i64 (wrap64 (n + 1))]) else if k = 160 then some (.tuple #[.int .i64 10, .int .i64 (wrap64 (n + 2)), .int .i64 0]) else if k = 0 then some (.tuple #[.int .i64 0, .int .i64 0, .int .i64 0]) else none

set_option maxHeartbeats 2000000 in
set_option maxRecDepth 100000 in
theorem shapeOfNumbered_any (k n : Int) (v : Value) (h : numW k n = some v) (w : World) : Calls Tryd.prog 81 #[.int .u8 k, .int .i64 n] w fun e w' => e = .returned v ∧ w' = w := by
  unfold numW at h
  split at h
  · rename_i hk
    subst hk
    cases h
    go_enter Tryd.func81, Tryd.ntmps81
    go_wp2_with fail
    go_ret3
    exact ⟨rfl, rfl⟩
  split at h
  · rename_i hk
    subst hk
    cases h
    go_enter Tryd.func81, Tryd.ntmps81
    go_wp2_with fail
    go_ret3
    exact ⟨rfl, rfl⟩
  split at h
  · rename_i hk
    subst hk
    cases h
    go_enter Tryd.func81, Tryd.ntmps81
    go_wp2_with fail
    go_ret3
    exact ⟨rfl, rfl⟩
  split at h
  · rename_i hk
    subst hk
    cases h
    go_enter Tryd.func81, Tryd.ntmps81
    go_wp2_with fail
    go_ret3
    exact ⟨rfl, rfl⟩
  split at h
  · rename_i hk
    subst hk
    cases h
    go_enter Tryd.func81, Tryd.ntmps81
    go_wp2_with fail
    go_ret3
    exact ⟨rfl, rfl⟩
  · cases h

def shT : Orc := fun f vs => match f, vs with
  | 81, [.int .u8 k, .int .i64 n] => numW k n
  | _, _ => none

theorem shT_ok : OrcOK Tryd.prog shT := by
  refine ⟨?_, str_ok⟩
  intro f vs v h
  unfold shT at h
  split at h
  · rename_i k n
    exact ⟨fun w => enters_of Tryd.func81 (by kernel_rfl) rfl _ w, fun w => shapeOfNumbered_any k n v h w⟩
  · cases h

theorem shape_ev {k n : Int} {a b c : Value} (h : (evC shT 300 (Tryd.f57.body.getD .skip) (.int .u8 k :: .int .i64 n :: List.replicate 120 undef)).map (fun r => (r.1, r.2.getD 4 undef, r.2.getD 5 undef, r.2.getD 6 undef)) = some (.ret, a, b, c)) (w : World) :
    Calls Tryd.prog 57 #[.int .u8 k, .int .i64 n] w fun e w' => e = .returned (.tuple #[a, b, c]) ∧ w' = w := by
  obtain ⟨⟨e, L'⟩, h1, h2⟩ := Option.map_eq_some_iff.1 h
  simp only [Prod.mk.injEq] at h2
  obtain ⟨rfl, rfl, rfl, rfl⟩ := h2
  refine calls_of_wp Tryd.func57 (c := Tryd.f57.body.getD .skip) (by kernel_rfl) ?_
  have hl : (#[.int .u8 k, .int .i64 n] ++ Array.replicate (Tryd.f57.ntmps - (#[.int .u8 k, .int .i64 n] : Array Value).size) undef) = (.int .u8 k :: .int .i64 n :: List.replicate 120 undef).toArray := by kernel_rfl
  rw [hl]
  refine evC_wp shT_ok 300 (Tryd.f57.body.getD .skip) _ _ _ h1 _ w ?_
  exact ⟨rfl, _, results_tmp3 Tryd.results57 _ _ _, by simp [Array.getD_eq_getD_getElem?, List.getD_eq_getElem?_getD], rfl⟩

/-- What the switch says of a family. -/
def shapeL : List (Nat × Nat × Int × Int) := [(0, 0, 0, 0), (1, 3, 2, 1), (2, 4, 2, 1), (3, 3, 2, 1), (4, 4, 2, 1), (5, 4, 2, 1), (6, 4, 2, 1), (7, 4, 2, 1), (8, 5, 3, 1), (9, 5, 3, 1), (10, 6, 2, 1), (11, 4, 2, 1), (16, 3, 2, 1), (17, 3, 2, 1), (18, 3, 2, 1), (19, 3, 2, 1), (20, 3, 2, 1), (21, 3, 1, 1), (22, 3, 2, 1), (23, 3, 2, 1), (24, 3, 2, 1), (25, 3, 1, 1), (26, 3, 2, 1), (27, 3, 2, 1), (28, 3, 2, 1), (29, 3, 2, 1), (32, 8, 2, 1), (48, 2, 0, 1), (49, 0, 1, 1), (50, 2, 0, 1), (51, 2, 0, 1), (52, 2, 0, 1), (53, 3, 1, 1), (54, 2, 0, 1), (55, 3, 3, 0), (56, 2, 0, 1), (57, 3, 3, 0), (58, 2, 0, 1), (59, 0, 1, 1), (60, 0, 4, 0), (61, 2, 0, 1), (62, 3, 3, 0), (63, 0, 1, 1), (64, 7, 1, 1), (65, 2, 0, 1), (66, 2, 0, 1), (67, 2, 0, 1), (68, 2, 0, 1), (69, 2, 0, 1), (70, 2, 0, 1), (71, 4, 0, 1), (72, 2, 0, 1), (73, 3, 1, 1), (74, 2, 0, 1), (80, 2, 1, 0), (81, 3, 1, 1), (82, 3, 2, 0), (83, 3, 2, 0), (84, 0, 1, 1), (85, 0, 2, 0), (86, 5, 1, 0), (87, 6, 2, 0), (88, 2, 0, 1), (89, 2, 0, 1), (90, 2, 0, 1), (91, 1, 0, 0), (92, 9, 1, 1), (93, 9, 2, 0), (94, 3, 3, 0), (95, 2, 0, 1), (240, 12, 3, 1), (241, 0, 7, 1), (242, 0, 7, 1), (243, 0, 2, 0), (244, 0, 6, 1), (245, 12, 4, 1), (250, 0, 6, 1), (253, 0, 2, 0), (255, 11, 1, 0)]

def ShOK (c : Code) (n : Int) : List (Nat × Nat × Int × Int) → Prop
  | [] => True
  | x :: l => (evC shT 300 c (.int .u8 x.1 :: .int .i64 n :: List.replicate 120 undef)).map (fun r => (r.1, r.2.getD 4 undef, r.2.getD 5 undef, r.2.getD 6 undef)) = some (.ret, .int .i64 x.2.1, .int .i64 x.2.2.1, .int .i64 x.2.2.2) ∧ ShOK c n l

set_option maxRecDepth 100000 in
theorem shapes_ok (n : Int) : ShOK (Tryd.f57.body.getD .skip) n shapeL := ⟨by kernel_rfl, by kernel_rfl, by kernel_rfl, by kernel_rfl, by kernel_rfl, by kernel_rfl, by kernel_rfl, by kernel_rfl, by kernel_rfl, by kernel_rfl, by kernel_rfl, by kernel_rfl, by kernel_rfl, by kernel_rfl, by kernel_rfl, by kernel_rfl, by kernel_rfl, by kernel_rfl, by kernel_rfl, by kernel_rfl, by kernel_rfl, by kernel_rfl, by kernel_rfl, by kernel_rfl, by kernel_rfl, by kernel_rfl, by kernel_rfl, by kernel_rfl, by kernel_rfl, by kernel_rfl, by kernel_rfl, by kernel_rfl, by kernel_rfl, by kernel_rfl, by kernel_rfl, by kernel_rfl, by kernel_rfl, by kernel_rfl, by kernel_rfl, by kernel_rfl, by kernel_rfl, by kernel_rfl, by kernel_rfl, by kernel_rfl, by kernel_rfl, by kernel_rfl, by kernel_rfl, by kernel_rfl, by kernel_rfl, by kernel_rfl, by kernel_rfl, by kernel_rfl, by kernel_rfl, by kernel_rfl, by kernel_rfl, by kernel_rfl, by kernel_rfl, by kernel_rfl, by kernel_rfl, by kernel_rfl, by kernel_rfl, by kernel_rfl, by kernel_rfl, by kernel_rfl, by kernel_rfl, by kernel_rfl, by kernel_rfl, by kernel_rfl, by kernel_rfl, by kernel_rfl, by kernel_rfl, by kernel_rfl, by kernel_rfl, by kernel_rfl, by kernel_rfl, by kernel_rfl, by kernel_rfl, by kernel_rfl, by kernel_rfl, trivial⟩

theorem ShOK.get {c : Code} {n : Int} : ∀ {l : List (Nat × Nat × Int × Int)}, ShOK c n l → ∀ x ∈ l, (evC shT 300 c (.int .u8 x.1 :: .int .i64 n :: List.replicate 120 undef)).map (fun r => (r.1, r.2.getD 4 undef, r.2.getD 5 undef, r.2.getD 6 undef)) = some (.ret, .int .i64 x.2.1, .int .i64 x.2.2.1, .int .i64 x.2.2.2)
  | _ :: _, h, _, hx => by
    rcases List.mem_cons.1 hx with rfl | hx
    · exact h.1
    · exact ShOK.get h.2 _ hx

set_option maxRecDepth 100000 in
theorem shape_96 (n : Int) : (evC shT 300 (Tryd.f57.body.getD .skip) (.int .u8 96 :: .int .i64 n :: List.replicate 120 undef)).map (fun r => (r.1, r.2.getD 4 undef, r.2.getD 5 undef, r.2.getD 6 undef)) = some (.ret, .int .i64 3, .int .i64 0, .int .i64 1) := by kernel_rfl

set_option maxRecDepth 100000 in
theorem shape_128 (n : Int) : (evC shT 300 (Tryd.f57.body.getD .skip) (.int .u8 128 :: .int .i64 n :: List.replicate 120 undef)).map (fun r => (r.1, r.2.getD 4 undef, r.2.getD 5 undef, r.2.getD 6 undef)) = some (.ret, .int .i64 3, .int .i64 (wrap64 n), .int .i64 (wrap64 (n + 1))) := by kernel_rfl

set_option maxRecDepth 100000 in
theorem shape_144 (n : Int) : (evC shT 300 (Tryd.f57.body.getD .skip) (.int .u8 144 :: .int .i64 n :: List.replicate 120 undef)).map (fun r => (r.1, r.2.getD 4 undef, r.2.getD 5 undef, r.2.getD 6 undef)) = some (.ret, .int .i64 3, .int .i64 (wrap64 (n + 1)), .int .i64 (wrap64 (n + 1))) := by kernel_rfl

set_option maxRecDepth 100000 in
theorem shape_160 (n : Int) : (evC shT 300 (Tryd.f57.body.getD .skip) (.int .u8 160 :: .int .i64 n :: List.replicate 120 undef)).map (fun r => (r.1, r.2.getD 4 undef, r.2.getD 5 undef, r.2.getD 6 undef)) = some (.ret, .int .i64 10, .int .i64 (wrap64 (n + 2)), .int .i64 0) := by kernel_rfl

end Go.Proofs.YtaeadndihchbnaaDoor
