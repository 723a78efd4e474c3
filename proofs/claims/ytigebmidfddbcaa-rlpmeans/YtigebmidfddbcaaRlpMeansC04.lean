/-
  Items in memory: trees of texts and lists.
-/
import Derived.Test.YtigebmidfddbcaaRlpMeansC03
namespace Go.Proofs.Ytigebmidfddbcaa
open Go.RowKit

/-- An item: what its field List holds, its bytes, its kids. -/
inductive Tree where
  | node (l : Int) (b : List Nat) (k : List Tree)

/-- A list's bytes by their places. -/
def lb (b : List Nat) : Nat → Nat := fun j => b.getD j 0

mutual
/-- How many items there are in an item. -/
def Tree.num : Tree → Nat
  | .node _ _ k => 1 + Tree.nums k

def Tree.nums : List Tree → Nat
  | [] => 0
  | t :: ts => Tree.num t + Tree.nums ts

end

theorem Tree.num_pos (t : Tree) : 0 < t.num := by
  cases t
  unfold Tree.num
  omega

theorem Tree.nums_mem {t : Tree} : ∀ {k : List Tree}, t ∈ k → t.num ≤ Tree.nums k
  | [], h => by cases h
  | s :: ts, h => by
    unfold Tree.nums
    rcases List.mem_cons.1 h with rfl | h
    · omega
    · have := Tree.nums_mem h
      omega

/-- A slice of items, as far as its own words go: a row of its own, or nil. -/
structure KS (w : World) (ao : Option Addr) (n cap : Nat) : Prop where
  le : n ≤ cap
  room : cap ≤ maxLen
  at_ : (ao = none ∧ cap = 0) ∨ ∃ g, ao = some ⟨g, 0, none⟩

mutual
/-- A value is an item. -/
def IsItem (w : World) : Tree → Value → Prop
  | .node l b k, v => ∃ ao c ao' c', v = .agg #[.int .i64 l, .slice ao b.length c, .slice ao' k.length c'] ∧ BS w ao b.length c (lb b) ∧ KS w ao' k.length c' ∧ IsKids w k ao' 0

/-- Items in a row, from a place on. -/
def IsKids (w : World) : List Tree → Option Addr → Nat → Prop
  | [], _, _ => True
  | t :: ts, ao, i => (∃ g v0 v1 v2, ao = some ⟨g, 0, none⟩ ∧ w.cell? ⟨g, i * 3, none⟩ = some v0 ∧ w.cell? ⟨g, i * 3 + 1, none⟩ = some v1 ∧ w.cell? ⟨g, i * 3 + 2, none⟩ = some v2 ∧ IsItem w t (.agg #[v0, v1, v2])) ∧ IsKids w ts ao (i + 1)

end

mutual
theorem IsItem.moved {w w' : World} (hb : Below w.heap.size w w') : ∀ {t : Tree} {v : Value}, IsItem w t v → IsItem w' t v
  | .node l b k, v, h => by
    unfold IsItem at h ⊢
    obtain ⟨ao, c, ao', c', rfl, h1, h2, h3⟩ := h
    exact ⟨ao, c, ao', c', rfl, h1.moved hb, ⟨h2.le, h2.room, h2.at_⟩, IsKids.moved hb h3⟩

theorem IsKids.moved {w w' : World} (hb : Below w.heap.size w w') : ∀ {ts : List Tree} {ao : Option Addr} {i : Nat}, IsKids w ts ao i → IsKids w' ts ao i
  | [], _, _, _ => by unfold IsKids; trivial
  | t :: ts, ao, i, h => by
    unfold IsKids at h ⊢
    obtain ⟨⟨g, v0, v1, v2, e, c0, c1, c2, hi⟩, hk⟩ := h
    have hg : g < w.heap.size := World.block_lt_of_cell? w _ c0
    exact ⟨⟨g, v0, v1, v2, e, (hb.cell (p := ⟨g, i * 3, none⟩) hg).trans c0, (hb.cell (p := ⟨g, i * 3 + 1, none⟩) hg).trans c1, (hb.cell (p := ⟨g, i * 3 + 2, none⟩) hg).trans c2, IsItem.moved hb hi⟩, IsKids.moved hb hk⟩

end

/-- One kid of a row. -/
theorem IsKids.get {w : World} {ao : Option Addr} : ∀ {ts : List Tree} {i j : Nat} {t : Tree}, IsKids w ts ao i → ts[j]? = some t →
    ∃ g v0 v1 v2, ao = some ⟨g, 0, none⟩ ∧ w.cell? ⟨g, (i + j) * 3, none⟩ = some v0 ∧ w.cell? ⟨g, (i + j) * 3 + 1, none⟩ = some v1 ∧ w.cell? ⟨g, (i + j) * 3 + 2, none⟩ = some v2 ∧ IsItem w t (.agg #[v0, v1, v2])
  | [], _, _, _, _, h => by cases h
  | s :: ts, i, 0, t, hk, h => by
    unfold IsKids at hk
    cases h
    exact hk.1
  | s :: ts, i, j + 1, t, hk, h => by
    unfold IsKids at hk
    have := IsKids.get (j := j) hk.2 (by simpa using h)
    rw [show i + (j + 1) = i + 1 + j by omega]
    exact this

/-- An item's words. -/
theorem IsItem.form {w : World} {l : Int} {b : List Nat} {k : List Tree} {v : Value} (h : IsItem w (.node l b k) v) :
    ∃ ao c ao' c', v = .agg #[.int .i64 l, .slice ao b.length c, .slice ao' k.length c'] ∧ BS w ao b.length c (lb b) ∧ KS w ao' k.length c' ∧ IsKids w k ao' 0 := by
  unfold IsItem at h
  exact h

/-- Why an item that stands within so many lists may not be. -/
def chk (l : Int) (nb nk within : Nat) : Nat :=
  if l = 1 ∧ 64 ≤ within then 44 else if (l = 0 ∧ nk = 0) ∨ (l = 1 ∧ nb = 0) then 0 else 40

set_option maxHeartbeats 4000000 in
set_option maxRecDepth 100000 in
theorem check_any (l : Int) (ao ao' : Option Addr) (nb c nk c' within : Nat) (w : World) :
    Calls Try.prog 72 #[.agg #[.int .i64 l, .slice ao nb c, .slice ao' nk c'], .int .i64 within] w fun e w' => e = .returned (.int .i64 (chk l nb nk within)) ∧ Below w.heap.size w w' := by
  have hb : Hid (∀ o, Below w.heap.size w (w.alloc o)) := fun o => (Below.refl _ w).alloc (Nat.le_refl _) _
  by_cases h1 : l = 1
  · subst h1
    by_cases h64 : 64 ≤ within
    · have HR : Hid (chk 1 nb nk within = 44) := if_pos ⟨rfl, h64⟩
      have g : (within : Int) ≥ 64 := by omega
      have g' : (64 : Int) ≤ (within : Int) := by omega
      clear h64
      go_enter Try.func72, Try.ntmps72
      go_wp2_with fail
      go_ret
      exact ⟨by rw [HR.out] <;> rfl, hb.out _⟩
    · have g : ¬ (within : Int) ≥ 64 := by omega
      have g' : ¬ (64 : Int) ≤ (within : Int) := by omega
      by_cases hn : nb = 0
      · subst hn
        have HR : Hid (chk 1 0 nk within = 0) := (if_neg (fun h => h64 h.2)).trans (if_pos (Or.inr ⟨rfl, rfl⟩))
        clear h64
        go_enter Try.func72, Try.ntmps72
        go_wp2_with fail
        go_ret
        exact ⟨by rw [HR.out] <;> rfl, hb.out _⟩
      · have HR : Hid (chk 1 nb nk within = 40) := (if_neg (fun h => h64 h.2)).trans (if_neg (by omega))
        have g2 : ¬ (nb : Int) = 0 := by omega
        have g2' : ((nb : Int) == 0) = false := beq_eq_false_iff_ne.2 g2
        clear h64 hn
        go_enter Try.func72, Try.ntmps72
        go_wp2_with fail
        go_ret
        exact ⟨by rw [HR.out] <;> rfl, hb.out _⟩
  · have n1 : (l == 1) = false := beq_eq_false_iff_ne.2 h1
    by_cases h0 : l = 0
    · subst h0
      by_cases hn : nk = 0
      · subst hn
        have HR : Hid (chk 0 nb 0 within = 0) := (if_neg (fun h => h1 h.1)).trans (if_pos (Or.inl ⟨rfl, rfl⟩))
        clear h1 n1
        go_enter Try.func72, Try.ntmps72
        go_wp2_with fail
        go_ret
        exact ⟨by rw [HR.out] <;> rfl, hb.out _⟩
      · have HR : Hid (chk 0 nb nk within = 40) := (if_neg (fun h => h1 h.1)).trans (if_neg (by omega))
        have g2 : ¬ (nk : Int) = 0 := by omega
        have g2' : ((nk : Int) == 0) = false := beq_eq_false_iff_ne.2 g2
        clear h1 n1 hn
        go_enter Try.func72, Try.ntmps72
        go_wp2_with fail
        go_ret
        exact ⟨by rw [HR.out] <;> rfl, hb.out _⟩
    · have n0 : (l == 0) = false := beq_eq_false_iff_ne.2 h0
      have HR : Hid (chk l nb nk within = 40) := (if_neg (fun h => h1 h.1)).trans (if_neg (by omega))
      go_enter Try.func72, Try.ntmps72
      go_wp2_with fail
      go_ret
      exact ⟨by rw [HR.out] <;> rfl, hb.out _⟩

end Go.Proofs.Ytigebmidfddbcaa
