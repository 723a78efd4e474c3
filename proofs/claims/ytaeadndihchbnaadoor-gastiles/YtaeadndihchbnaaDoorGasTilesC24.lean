/-
  Bytes, words and numbers that came in as arguments; the tables that the door lays.
-/
import Derived.Test.YtaeadndihchbnaaDoorCards
import Derived.Test.YtaeadndihchbnaaDoorTie
import Derived.ProofKit
import Derived.SizedLaws
import Derived.OpenShut
import Derived.ChangeSlices
import Derived.LaidMore
import Derived.Stop.Joined
import Derived.Deep.CondSized
import Derived.Test.YtaeadndihchbnaaDoorGasTilesC22
namespace Go.Proofs.YtaeadndihchbnaaDoor
open Go.ChangeShapes Go.WideShapes Go.ChangeAt Go.RowKit Go.Shelf

def lb (b : List Nat) : Nat → Nat := fun j => b.getD j 0

theorem BS.empty (w : World) (ao : Option Addr) (bs : Nat → Nat) (hl : ∀ j, bs j < 256) : BS w ao 0 0 bs := ⟨hl, Nat.le_refl _, Nat.zero_le _, fun j hj => absurd hj (by omega), fun _ => rfl⟩

def pay (bs : Nat → Nat) (n : Nat) : List Nat := (List.range n).map bs

theorem pay_length (bs : Nat → Nat) (n : Nat) : (pay bs n).length = n := by simp [pay]

theorem lb_pay {bs : Nat → Nat} {n j : Nat} (h : j < n) : lb (pay bs n) j = bs j := by
  unfold lb pay
  simp [h]

theorem lb_pay_lt {bs : Nat → Nat} (hl : ∀ j, bs j < 256) (n j : Nat) : lb (pay bs n) j < 256 := by
  unfold lb pay
  by_cases h : j < n
  · simp [h, hl]
  · simp [h]

/-- What the rows list as laid. -/
abbrev laidG {H : Type} : List (String × DataW H) := [("math/bits.deBruijn32tab", Rows.laid_math_bits_deBruijn32tab), ("math/bits.deBruijn64tab", Rows.laid_math_bits_deBruijn64tab), ("internal/strconv.uint64pow10", Rows.laid_internal_strconv_uint64pow10)]

set_option maxRecDepth 100000 in
theorem door_met (os : Os) (args : Array Value) : laidMetH Tryd.prog laidG ((World.doorLaid Tryd.prog 24 os).forCall (fun _ _ => 0) ⟨#[], args, []⟩).memory :=
  laidMetH_of_parts3 (fuel := 8) (laidMet_of_run' 8 (by kernel_rfl) (by kernel_rfl)) (by kernel_rfl) (by kernel_rfl)

theorem Tryd.own : ownKnob Tryd.prog.godebug = none := by kernel_rfl

theorem Tryd.laidOut : laidOutB Tryd.prog = true := by kernel_rfl

theorem Tryd.cells5 : Tryd.prog.cellsOf 5 = 1 := by kernel_rfl

theorem Tryd.byte5 : Tryd.prog.bytesOf 5 = 1 := by kernel_rfl

theorem Tryd.und5 : Tryd.prog.underlying 5 = some (.int .u8) := by kernel_rfl

theorem Tryd.undB : Tryd.prog.underlying 38 = some (.slice 5) := by kernel_rfl

theorem u8_nat {n : Int} (h : (Lit.int .u8 n).wf = true) : ∃ k : Nat, n = k ∧ k < 256 := by
  have := bounds_u8 h
  exact ⟨n.toNat, by omega, by omega⟩

section
variable {H : Type} {enc : TypeId × Value → H} {W : World}

theorem bulk_pos (d : DataW H) : 1 ≤ Rows.uptoBulk d := by
  cases d with
  | lit l => cases l <;> simp [Rows.uptoBulk]
  | _ => simp [Rows.uptoBulk]

theorem bulk_len : ∀ (ds : List (DataW H)), ds.length ≤ Rows.uptoBulkAll ds
  | [] => by simp [Rows.uptoBulkAll]
  | d :: r => by
    have := bulk_len r
    have := bulk_pos d
    simp only [Rows.uptoBulkAll, List.length_cons]
    omega

theorem one_cell {x : Addr} {cs : List Value} (h : W.cells? 0 x 1 = some cs) : ∃ c, cs = [c] ∧ W.cell? x = some c := by
  obtain ⟨_, hl, hc⟩ := World.cells?_some h
  match cs, hl with
  | [c], _ => exact ⟨c, rfl, by simpa [Addr.add] using hc 0 (by omega)⟩

set_option maxRecDepth 100000 in
/-- A slice of bytes that came in. -/
theorem bytes_trod {fuel : Nat} {v : Value} {x : DataW H × List MemPlace} (h : DataW.trod enc Tryd.prog W 0 (fun _ => true) true fuel 38 [v] = some x) (hw : (x.1.weights Tryd.prog 38).all (· ≤ reachBytes) = true) :
    ∃ (b : List Nat) (ao : Option Addr) (c : Nat), v = .slice ao b.length c ∧ BS W ao b.length c (lb b) ∧ b.length ≤ 140737488355328 ∧ b.length + 1 ≤ Rows.uptoBulk x.1 := by
  rcases DataW.trod_slice Tryd.undB h with ⟨h1, hx⟩ | ⟨a, len, cp, elems, rest, m, rfl, h1, hx, _, hle, hcm, hel, hi, _, _⟩
  · simp only [List.cons.injEq, and_true] at h1
    subst h1
    exact ⟨[], none, 0, rfl, BS.empty _ _ _ (fun j => by simp [lb]), by simp, by rw [hx]; simp [Rows.uptoBulk]⟩
  · simp only [List.cons.injEq, and_true] at h1
    subst h1
    have hd : x.1 = .slice (elems.map (·.1)) (rest.map (·.1)) := congrArg Prod.fst hx
    rw [hd] at hw ⊢
    have hs : (elems.length + rest.length) * 1 ≤ reachBytes := by
      have := List.all_eq_true.1 hw ((elems.length + rest.length) * 1) (by simp [DataW.weights, Tryd.byte5])
      simpa using this
    unfold reachBytes at hs
    have hb : ∀ j, ∃ b : Nat, b < 256 ∧ (j < len → W.cell? (a.add j) = some (.int .u8 b)) := fun j => by
      by_cases hj : j < len
      · have h2 := hi j hj
        rw [Tryd.cells5, Nat.mul_one, List.getElem?_eq_getElem (by omega)] at h2
        obtain ⟨cs, hc, ht⟩ := Option.bind_eq_some_iff.1 h2
        obtain ⟨c, rfl, hcell⟩ := one_cell hc
        obtain ⟨k, hk, _, hw⟩ := DataW.trod_int Tryd.und5 ht
        obtain ⟨b, rfl, hb⟩ := u8_nat hw
        simp only [List.cons.injEq, and_true] at hk
        exact ⟨b, hb, fun _ => by rw [hcell, hk]⟩
      · exact ⟨0, by omega, fun h => absurd h hj⟩
    refine ⟨pay (fun j => (hb j).choose) len, some a, cp, by rw [pay_length], ?_, by rw [pay_length]; omega, ?_⟩
    · rw [pay_length]
      refine ⟨lb_pay_lt (fun j => (hb j).choose_spec.1) len, hle, hcm, fun j hj => ⟨a, rfl, ?_⟩, fun h => by cases h⟩
      rw [lb_pay hj]
      exact (hb j).choose_spec.2 hj
    · have := bulk_len (elems.map (·.1))
      simp only [Rows.uptoBulk, pay_length]
      rw [List.length_map] at this
      omega

set_option maxRecDepth 100000 in
theorem bytes_open {v : Value} {d : DataW H} {p : List MemPlace} {base : Nat} (hok : Value.okWide Tryd.prog W .any base 38 v) (h : DataW.Trod enc Tryd.prog W 0 (fun _ => true) true 38 v d p) (hw : (d.weights Tryd.prog 38).all (· ≤ reachBytes) = true) :
    ∃ (b : List Nat) (ao : Option Addr) (c : Nat), v = .slice ao b.length c ∧ BS W ao b.length c (lb b) ∧ b.length ≤ 140737488355328 ∧ b.length + 1 ≤ Rows.uptoBulk d := by
  obtain ⟨fuel, hf⟩ := h
  obtain ⟨ao, n, cap, rfl⟩ := okWide_slice Tryd.undB hok
  have hcells : (Value.slice ao n cap).cells.toList = [.slice ao n cap] := rfl
  rw [hcells] at hf
  exact bytes_trod hf hw

end

end Go.Proofs.YtaeadndihchbnaaDoor
