/-
  Codes: a copy of the code, gone over.
-/
import Derived.Test.YtaeadndihchbnaaDoorGasTilesC09
import Derived.Test.YtaeadndihchbnaaDoorGasTilesC10
namespace Go.Proofs.YtaeadndihchbnaaDoor
open Go.RowKit Go.Shelf

set_option maxHeartbeats 1000000 in
set_option maxRecDepth 100000 in
theorem clone_any {ao : Option Addr} {n c : Nat} {bs : Nat → Nat} (hn : n ≤ 140737488355328) (w : World) (h : BS w ao n c bs) :
    Calls Tryd.prog 77 #[.slice ao n c] w fun e w' => (∃ ao' c', e = .returned (.slice ao' n c') ∧ BS w' ao' n c' bs ∧ (0 < n → ∃ g, w.heap.size ≤ g ∧ ao' = some ⟨g, 0, none⟩)) ∧ Below w.heap.size w w' := by
  cases ao with
  | none =>
    have hc := h.nil rfl
    have hle := h.le
    obtain rfl : n = 0 := by omega
    subst hc
    have HB := hideP h
    have he : ∀ W : World, (binOp BinOp.eql 38 (.slice none 0 0) (.slice none 0 0)).run Tryd.prog W = .ok (.bool true) W := fun W => by kernel_rfl
    clear h hle hn
    go_enter Tryd.func77, Tryd.ntmps77
    go_wp2_with fail
    go_ret
    exact ⟨⟨none, 0, rfl, HB.out, fun h => absurd h (by omega)⟩, Below.refl _ _⟩
  | some ad =>
    have HB := hideP (h.moved ((Below.refl _ w).alloc (Nat.le_refl _) (.cells #[] 5 (0, 0))))
    have HN := hideP hn
    have HLT := hideP h.lt
    have he : ∀ W : World, (binOp BinOp.eql 38 (.slice (some ad) n c) (.slice none 0 0)).run Tryd.prog W = .ok (.bool false) W := fun W => by kernel_rfl
    clear h hn
    go_enter Tryd.func77, Tryd.ntmps77
    go_wp2_with (at_builtin; refine wpList_appendB rfl _ _ rfl (some ⟨w.heap.size, 0, none⟩) (some ad) n c rfl rfl HN.out bs HB.out ?_)
    intro ao' cap w' h1 h2 h3
    have HO : Hid (BS w' ao' n cap bs) := by
      rcases h1 with ⟨rfl, rfl, rfl, rfl⟩ | ⟨h0, _⟩
      · exact ⟨HLT.out, Nat.le_refl _, Nat.zero_le _, fun j hj => absurd hj (by omega), fun _ => rfl⟩
      · exact h2 h0
    have HG : Hid (0 < n → ∃ g, w.heap.size ≤ g ∧ ao' = some ⟨g, 0, none⟩) := fun h => by
      rcases h1 with ⟨h0, _⟩ | ⟨_, rfl⟩
      · omega
      · exact ⟨_, by simp, rfl⟩
    have HL : Hid (Below w.heap.size w w') := ((Below.refl _ w).alloc (Nat.le_refl _) _).trans (h3.mono (by simp))
    clear h1 h2 h3
    go_wp2_with fail
    go_ret
    exact ⟨⟨_, _, rfl, HO.out, HG.out⟩, HL.out⟩

set_option maxHeartbeats 1000000 in
set_option maxRecDepth 100000 in
theorem codes_any {ao : Option Addr} {n c : Nat} {bs : Nat → Nat} (hn : n ≤ 140737488355328) (w : World) (h : BS w ao n c bs) :
    Calls Tryd.prog 51 #[.slice ao n c] w fun e w' => (∃ b ao' c', e = .returned (.func (.func 91) #[] #[.pointer (some ⟨b, 0, none⟩)]) ∧ InsM b ao' n c' bs w' ∧ w.heap.size ≤ b ∧ (0 < n → ∃ g, w.heap.size ≤ g ∧ ao' = some ⟨g, 0, none⟩)) ∧ Below w.heap.size w w' := by
  have HC := hideP (clone_any hn w h)
  clear h hn
  go_enter Tryd.func51, Tryd.ntmps51
  go_wp2_with fail
  refine HC.out.mono ?_
  rintro e w1 ⟨⟨ao', c', rfl, hB, hG⟩, hb⟩
  have HG := hideP hG
  have HB := hideP hB
  have HBW := hideP hb
  clear hB hb HC hG
  go_wp2_with fail
  refine (instructions_any _ _ _ _).mono ?_
  rintro e w2 ⟨rfl, hw⟩
  have HX : Hid (InsM w1.heap.size ao' n c' bs w2 ∧ Below w.heap.size w w2) := by
    subst hw
    exact ⟨⟨blk_cell (heap_new _ _) rfl, HB.out.moved ((Below.refl _ _).alloc (Nat.le_refl _) _)⟩, HBW.out.trans ((Below.refl _ _).alloc HBW.out.size _)⟩
  clear hw
  go_wp2_with fail
  go_ret
  exact ⟨⟨_, _, _, rfl, HX.out.1, HBW.out.size, HG.out⟩, HX.out.2⟩

end Go.Proofs.YtaeadndihchbnaaDoor
