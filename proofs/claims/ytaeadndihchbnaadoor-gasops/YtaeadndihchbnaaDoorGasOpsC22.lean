/-
  The document's Op.
-/
import Derived.Test.YtaeadndihchbnaaDoorGasOpsC21
import Derived.Test.YtaeadndihchbnaaDoorGasOpsC11
namespace Go.Proofs.YtaeadndihchbnaaDoor
open Go.RowKit Go.Shelf

theorem rows_get {k i : Nat} (hk : k < 79) (hi : i < 5) : rowsC[k * 5 + i]? = (rowC (rowsT.getD k (0, noS, 0, 0, 0)))[i]? := by
  have h : ∀ k < 79, ∀ i < 5, True := fun _ _ _ _ => trivial
  have hlen : ∀ (l : List RowT) (k i : Nat), k < l.length → i < 5 → (l.flatMap rowC)[k * 5 + i]? = (rowC (l.getD k (0, noS, 0, 0, 0)))[i]? := by
    intro l
    induction l with
    | nil => intro k i h; simp at h
    | cons x l ih =>
      intro k i hk hi
      rw [List.flatMap_cons]
      cases k with
      | zero =>
        rw [List.getElem?_append_left (by simp [rowC]; omega)]
        simp
      | succ k =>
        rw [List.getElem?_append_right (by simp [rowC]; omega)]
        have := ih k i (by simpa using hk) hi
        simp only [rowC, List.length_cons, List.length_nil] at this ⊢
        rw [show (k + 1) * 5 + i - (0 + 1 + 1 + 1 + 1 + 1) = k * 5 + i by omega]
        simpa using this
  exact hlen rowsT k i (by rw [rows_len]; exact hk) hi

def rowAt (k : Nat) : RowT := rowsT.getD k (0, noS, 0, 0, 0)

theorem row_cells {V : World} {b k : Nat} (h : V.heap[b]? = some (.cells rowsC.toArray 86 (0, 0))) (hk : k < 79) :
    V.cell? ⟨b, k * 5, none⟩ = some (.int .i64 (rowAt k).1) ∧ V.cell? ⟨b, k * 5 + 1, none⟩ = some (.string (rowAt k).2.1) ∧ V.cell? ⟨b, k * 5 + 2, none⟩ = some (.int .u64 (rowAt k).2.2.1) ∧ V.cell? ⟨b, k * 5 + 3, none⟩ = some (.int .i64 (rowAt k).2.2.2.1) ∧ V.cell? ⟨b, k * 5 + 4, none⟩ = some (.int .i64 (rowAt k).2.2.2.2) := by
  refine ⟨blk_cell h ?_, blk_cell h ?_, blk_cell h ?_, blk_cell h ?_, blk_cell h ?_⟩ <;> rw [List.getElem?_toArray]
  · exact rows_get (i := 0) hk (by omega)
  · exact rows_get (i := 1) hk (by omega)
  · exact rows_get (i := 2) hk (by omega)
  · exact rows_get (i := 3) hk (by omega)
  · exact rows_get (i := 4) hk (by omega)

/-- Where the table has it. -/
def rowIx (o : Nat) : Option Nat := (List.range 79).find? fun k => (rowAt k).1 == o

def opR (o : Nat) : OpR := match rowIx o with
  | some k => ⟨(rowAt k).2.1, (rowAt k).2.2.1, (rowAt k).2.2.2.1, (rowAt k).2.2.2.2, 0, true⟩
  | none => if 96 ≤ o ∧ o ≤ 127 then ⟨{ data := #[80, 85, 83, 72] } ++ itoaB (o - 95), 3, 0, 1, o - 95, true⟩
    else if 128 ≤ o ∧ o ≤ 143 then ⟨{ data := #[68, 85, 80] } ++ itoaB (o - 127), 3, (o : Int) - 127, (o : Int) - 126, 0, true⟩
    else if 144 ≤ o ∧ o ≤ 159 then ⟨{ data := #[83, 87, 65, 80] } ++ itoaB (o - 143), 3, (o : Int) - 142, (o : Int) - 142, 0, true⟩
    else if 160 ≤ o ∧ o ≤ 164 then ⟨{ data := #[76, 79, 71] } ++ itoaB (o - 160), 375, (o : Int) - 160 + 2, 0, 0, true⟩
    else ⟨noS, 0, 0, 0, 0, false⟩

def sameR (a b : OpR) : Bool := decide (a.name = b.name) && decide (a.gas = b.gas) && decide (a.pops = b.pops) && decide (a.pushes = b.pushes) && decide (a.data = b.data) && decide (a.is = b.is)

theorem ops_same : ∀ o < 256, sameR (opN o) (opR o) = true := by decide +kernel

theorem same_eq {a b : OpR} (h : sameR a b = true) : a = b := by
  unfold sameR at h
  simp only [Bool.and_eq_true, decide_eq_true_eq] at h
  obtain ⟨⟨⟨⟨⟨h1, h2⟩, h3⟩, h4⟩, h5⟩, h6⟩ := h
  cases a; cases b
  simp_all

theorem rowIx_some {o k : Nat} (hk : k < 79) (h1 : ∀ j, j < k → (rowAt j).1 ≠ o) (h2 : (rowAt k).1 = o) : rowIx o = some k := by
  unfold rowIx
  rw [List.find?_range_eq_some]
  refine ⟨by simpa using h2, by simpa using hk, fun j hj => by simpa using h1 j hj⟩

theorem rowIx_none {o : Nat} (h1 : ∀ j, j < 79 → (rowAt j).1 ≠ o) : rowIx o = none := by
  unfold rowIx
  rw [List.find?_eq_none]
  intro j hj
  simpa using h1 j (List.mem_range.1 hj)

end Go.Proofs.YtaeadndihchbnaaDoor
