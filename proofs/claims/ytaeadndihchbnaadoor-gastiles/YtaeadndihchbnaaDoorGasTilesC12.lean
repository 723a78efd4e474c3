/-
  Names of opcodes.
-/
import Derived.Test.YtaeadndihchbnaaDoorGasTilesC05
namespace Go.Proofs.YtaeadndihchbnaaDoor
open Go.RowKit Go.Shelf

def noS : ByteArray := { data := #[] }

/-- A row of names in memory. -/
def NmRow (W : World) (g n : Nat) (l : List ByteArray) : Prop := n = l.length ∧ ∀ j, j < n → W.cell? ⟨g, j, none⟩ = some (.string (l.getD j noS))

theorem nmRow_of {W : World} {g t : Nat} {l : List ByteArray} (h : W.heap[g]? = some (.cells (l.map Value.string).toArray t (0, 0))) : NmRow W g l.length l :=
  ⟨rfl, fun j hj => blk_cell h (by simp [List.getD_eq_getElem?_getD, hj])⟩

set_option maxHeartbeats 1000000 in
set_option maxRecDepth 100000 in
theorem ofRow_any (k : Nat) {g n c : Nat} {l : List ByteArray} (w : World) (h : NmRow w g n l) : Calls Tryd.prog 79 #[.int .u8 k, .slice (some ⟨g, 0, none⟩) n c] w fun e w' => e = .returned (.string (l.getD (k % 16) noS)) ∧ w' = w := by
  have e1 : IntKind.u8.wrap ((k : Int) % 16) = (k : Int) % 16 := by rw [IntKind.wrap_u8]; omega
  have e2 : IntKind.i64.wrap ((k : Int) % 16) = (k : Int) % 16 := by rw [IntKind.wrap_i64]; omega
  obtain ⟨hl, hc⟩ := h
  by_cases hk : k % 16 < n
  · have hcell := hc _ hk
    generalize l.getD (k % 16) noS = s at *
    have e3 : ((k : Int) % 16).toNat = k % 16 := by omega
    have g1 : ¬ (n : Int) ≤ (k : Int) % 16 := by omega
    have g2 : (k : Int) % 16 < (n : Int) := by omega
    have g3 : (0 : Int) ≤ (k : Int) % 16 := by omega
    clear hc hl hk
    go_enter Tryd.func79, Tryd.ntmps79
    go_wp2_with fail
    go_ret
    exact ⟨rfl, rfl⟩
  · have hs : l.getD (k % 16) noS = noS := by rw [List.getD_eq_getElem?_getD, List.getElem?_eq_none (by omega)]; rfl
    rw [hs]
    have g1 : (n : Int) ≤ (k : Int) % 16 := by omega
    clear hc hl hs hk
    go_enter Tryd.func79, Tryd.ntmps79
    go_wp2_with fail
    go_ret
    exact ⟨rfl, rfl⟩

end Go.Proofs.YtaeadndihchbnaaDoor
