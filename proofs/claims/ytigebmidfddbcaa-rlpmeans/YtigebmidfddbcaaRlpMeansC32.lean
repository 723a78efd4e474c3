/-
  How great the items of nodes are; bytes in rows of their own.
-/
import Derived.Test.YtigebmidfddbcaaRlpMeansC27
import Derived.Test.YtigebmidfddbcaaRlpMeansC31
namespace Go.Proofs.Ytigebmidfddbcaa
open Go.RowKit Go.Shelf

/-- Bytes are a row of them, from a place on. -/
def At (bs : Nat → Nat) (o : Nat) (L : List Nat) : Prop := ∀ j, j < L.length → bs (o + j) = lb L j

theorem lb_left {x y : List Nat} {j : Nat} (h : j < x.length) : lb (x ++ y) j = lb x j := by
  unfold lb
  rw [List.getD_eq_getElem?_getD, List.getD_eq_getElem?_getD, List.getElem?_append_left h]

theorem lb_right {x y : List Nat} {j : Nat} : lb (x ++ y) (x.length + j) = lb y j := by
  unfold lb
  rw [List.getD_eq_getElem?_getD, List.getD_eq_getElem?_getD, List.getElem?_append_right (Nat.le_add_right _ _), Nat.add_sub_cancel_left]

theorem At.left {bs : Nat → Nat} {o : Nat} {x y : List Nat} (h : At bs o (x ++ y)) : At bs o x := fun j hj => by
  rw [h j (by rw [List.length_append]; omega), lb_left hj]

theorem At.right {bs : Nat → Nat} {o : Nat} {x y : List Nat} (h : At bs o (x ++ y)) : At bs (o + x.length) y := fun j hj => by
  rw [Nat.add_assoc, h (x.length + j) (by rw [List.length_append]; omega), lb_right]

theorem At.append {bs : Nat → Nat} {o : Nat} {x y : List Nat} (h : At bs o x) (h' : At bs (o + x.length) y) : At bs o (x ++ y) := fun j hj => by
  rw [List.length_append] at hj
  by_cases hx : j < x.length
  · rw [h j hx, lb_left hx]
  · have e : j = x.length + (j - x.length) := by omega
    rw [e, lb_right, ← Nat.add_assoc]
    exact h' _ (by omega)

theorem At.shift {bs : Nat → Nat} {o p : Nat} {x : List Nat} (h : At bs (o + p) x) : At (fun j => bs (o + j)) p x := fun j hj => by
  show bs (o + (p + j)) = _
  rw [← Nat.add_assoc]
  exact h j hj

theorem At.pay {bs : Nat → Nat} {o : Nat} {x : List Nat} (h : At bs o x) : pay (fun j => bs (o + j)) x.length = x := by
  conv => rhs; rw [← pay_lb x]
  unfold Go.Proofs.Ytigebmidfddbcaa.pay
  exact List.map_congr_left fun j hj => h j (List.mem_range.1 hj)

theorem At.lb (L : List Nat) : At (lb L) 0 L := fun j _ => by rw [Nat.zero_add]

mutual
/-- All that an item holds are bytes. -/
def Tree.by : Tree → Prop
  | .node _ b k => (∀ x ∈ b, x < 256) ∧ Tree.byK k

def Tree.byK : List Tree → Prop
  | [] => True
  | t :: ts => t.by ∧ Tree.byK ts

end

mutual
theorem IsItem.by {w : World} : ∀ {t : Tree} {v : Value}, IsItem w t v → t.by
  | .node l b k, v, h => by
    unfold IsItem at h
    unfold Tree.by
    obtain ⟨ao, c, ao', c', rfl, h1, h2, h3⟩ := h
    refine ⟨fun x hx => ?_, IsKids.by h3⟩
    obtain ⟨j, hj, rfl⟩ := List.mem_iff_getElem.1 hx
    have := h1.lt j
    unfold lb at this
    rwa [List.getD_eq_getElem?_getD, List.getElem?_eq_getElem hj] at this

theorem IsKids.by {w : World} : ∀ {ts : List Tree} {ao : Option Addr} {i : Nat}, IsKids w ts ao i → Tree.byK ts
  | [], _, _, _ => by unfold Tree.byK; trivial
  | t :: ts, ao, i, h => by
    unfold IsKids at h
    unfold Tree.byK
    obtain ⟨⟨g, v0, v1, v2, e, c0, c1, c2, hi⟩, hr⟩ := h
    exact ⟨IsItem.by hi, IsKids.by hr⟩

end


end Go.Proofs.Ytigebmidfddbcaa

namespace Go.Proofs.Ytigebmidfddbcaa
open Go.RowKit Go.Shelf



/-- A row of bytes, as cells. -/
def byR (n : Nat) (bs : Nat → Nat) : List Value := (List.range n).map fun j => Value.int .u8 (bs j)

theorem byR_len (n : Nat) (bs : Nat → Nat) : (byR n bs).length = n := by simp [byR]

theorem byR_get {n j : Nat} {bs : Nat → Nat} (h : j < n) : (byR n bs)[j]? = some (.int .u8 (bs j)) := by simp [byR, h]

theorem byR_one {n : Nat} {bs : Nat → Nat} : ∀ u ∈ byR n bs, u.oneCell' = true := by
  intro u hu
  unfold byR at hu
  simp only [List.mem_map] at hu
  obtain ⟨x, _, rfl⟩ := hu
  rfl

theorem byR_cells {w : World} {a : Addr} {n c : Nat} {bs : Nat → Nat} (h : BS w (some a) n c bs) : ∀ j u, (byR n bs)[j]? = some u → w.cell? (a.add j) = some u := by
  intro j u hu
  have hj := (List.getElem?_eq_some_iff.1 hu).1
  rw [byR_len] at hj
  rw [byR_get hj] at hu
  cases hu
  obtain ⟨ad, e, hc⟩ := h.cell j hj
  cases e
  exact hc

end Go.Proofs.Ytigebmidfddbcaa
