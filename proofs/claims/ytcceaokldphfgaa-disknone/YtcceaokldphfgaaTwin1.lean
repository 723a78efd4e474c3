import Derived.Test.YtcceaokldphfgaaTwin0
namespace Go.Proofs.Ytcceaokldphfgaa
open Go.RowKit Go.Shelf

/-- A slice of one-cell values that can be read, below w's size. -/
structure RdS (w : World) (ao : Option Addr) (c : Nat) (xs : List Value) (bytes : Nat) : Prop where
  nil : ao = none → xs = [] ∧ c = 0
  lt : ∀ a, ao = some a → xs ≠ [] → a.block < w.heap.size
  at_ : ∀ a, ao = some a → ∀ j u, xs[j]? = some u → w.cell? (a.add j) = some u
  one : ∀ u ∈ xs, u.oneCell' = true
  len : xs.length ≤ 9223372036854775807
  room : xs.length * bytes ≤ 140737488355328


theorem RdS.later {w w' : World} {ao : Option Addr} {c : Nat} {xs : List Value} {bytes : Nat} (h : RdS w ao c xs bytes) (hb : Below w.heap.size w w') : RdS w' ao c xs bytes :=
  ⟨h.nil, fun a e hne => Nat.lt_of_lt_of_le (h.lt a e hne) hb.size, fun a e j u hu => (hb.cell (p := a.add j) (by rw [add_block]; exact h.lt a e (by rintro rfl; simp at hu))).trans (h.at_ a e j u hu), h.one, h.len, h.room⟩

theorem RdS.copied {w w0 : World} {ao : Option Addr} {c : Nat} {xs : List Value} (h : RdS w0 ao c xs 8) (hb : Below w0.heap.size w0 w) :
    ∃ v' w', (Builtin.append_ #[22, 22] 22 #[.slice none 0 0, .slice ao xs.length c]).run Try.prog w = .ok v' w' ∧ w'.ownsRow w.heap.size 3 1 v' xs.length xs ∧ Below w.heap.size w w' :=
  have h' := h.later hb
  append_nil_run Try.underlying22 Try.info3 rfl 22 ao c xs h'.nil h'.at_ h'.one h'.len h'.room

end Go.Proofs.Ytcceaokldphfgaa
