/-
  Four calls beside four variables that are made, whichever comes first.
-/
import Derived.Test.YtpnijncoldihfaaPowersC17
import Derived.Test.YtpnijncoldihfaaPowersC13
namespace Go.Proofs.Ytpnijncoldihfaa
open Go.RowKit Go.Shelf

set_option maxHeartbeats 2000000 in
set_option maxRecDepth 100000 in
theorem fromWord_any (X : Nat) (w : World) : Calls Try.prog 87 #[wv X] w fun e w' => e = .returned (lv (X % M256)) ∧ Below w.heap.size w w' := by
  obtain ⟨x0, x1, x2, x3, h0, h1, h2, h3, eX, hX⟩ := wv_limbs X
  have HR := hideP (lv_word h0 h1 h2 h3 eX)
  rw [hX]
  have m : ∀ x : Nat, (x : Int) % 4294967296 = ((x % 4294967296 : Nat) : Int) := fun x => by omega
  have d : ∀ x : Nat, (x : Int) / 4294967296 = ((x / 4294967296 : Nat) : Int) := fun x => by omega
  have a0 := m x0
  have a1 := m x1
  have a2 := m x2
  have a3 := m x3
  have u : ∀ x : Nat, x < 18446744073709551616 → IntKind.u64.wrap ((x / 4294967296 : Nat) : Int) = ((x / 4294967296 : Nat) : Int) := fun x hx => M64.wrapN _ (by omega)
  have u0 := u x0 h0
  have u1 := u x1 h1
  have u2 := u x2 h2
  have u3 := u x3 h3
  have b0 := d x0
  have b1 := d x1
  have b2 := d x2
  have b3 := d x3
  clear m d u eX hX h0 h1 h2 h3
  generalize x0 % 4294967296 = p0 at *
  generalize x1 % 4294967296 = p1 at *
  generalize x2 % 4294967296 = p2 at *
  generalize x3 % 4294967296 = p3 at *
  generalize x0 / 4294967296 = q0 at *
  generalize x1 / 4294967296 = q1 at *
  generalize x2 / 4294967296 = q2 at *
  generalize x3 / 4294967296 = q3 at *
  go_enter Try.func87, Try.ntmps87
  go_wp2_with fail
  rename_i Q' K hK
  have HK := hideP hK
  clear hK
  refine wp_loop_rounds 5 ?_
  rw [rounds_succ]
  go_wp2_with fail
  rw [rounds_succ]
  go_wp2_with fail
  rw [rounds_succ]
  go_wp2_with fail
  rw [rounds_succ]
  go_wp2_with fail
  rw [rounds_succ]
  go_wp2_with fail
  refine HK.out _ _ ?_
  refine end17 (g := dg (X % M256)) (g' := fun _ => 0) (L := w.heap.size + 1 + 1) (R0 := w.heap.size + 1) (t := 76) rfl rfl rfl (by decide) (by show 24 < 25; decide) rfl (range17 (t := 76) ?_) ?_ ?_
  · rw [← show _ = c17 (dg (X % M256)) from Value.agg.inj HR.out]
    simp only [World.alloc, Array.getElem?_push, Array.size_push]
    simp
  · rw [← zero17]
    simp only [World.alloc, Array.getElem?_push, Array.size_push]
    simp
  intro wS g1 g2
  refine ⟨rfl, Below.trans ?_ (g2.below.mono (by omega))⟩
  repeat first | exact Below.refl _ _ | apply Below.drew | (refine Below.alloc ?_ (by simp <;> omega) _) | (refine Below.setCell ?_ (by simp <;> omega) _)

end Go.Proofs.Ytpnijncoldihfaa

namespace Go.Proofs.Ytpnijncoldihfaa
open Go.RowKit Go.Shelf

/-- All that lay in W0 is as it was but for the box R. -/
structure KeepR (W0 : World) (R : Nat) (V : World) : Prop where
  same : ∀ b, b < W0.heap.size → b ≠ R → V.heap[b]? = W0.heap[b]?
  below : Below R W0 V
  res : ∃ z0 z1 z2 z3, V.heap[R]? = some (.cells #[z0, z1, z2, z3] 24 (0, 0))

section
variable {W0 V V' : World} {R : Nat}
theorem KeepR.init {z0 z1 z2 z3 : Value} (h : W0.heap[R]? = some (.cells #[z0, z1, z2, z3] 24 (0, 0))) : KeepR W0 R W0.drew :=
  ⟨fun _ _ _ => rfl, (Below.refl _ _).drew, z0, z1, z2, z3, h⟩

theorem lt_of_block {W : World} {b : Nat} {o : Obj} (h : W.heap[b]? = some o) : b < W.heap.size := (Array.getElem?_eq_some_iff.1 h).1

theorem KeepR.call (h : KeepR W0 R V) (hb : Below V.heap.size V V') : KeepR W0 R V' := by
  obtain ⟨z0, z1, z2, z3, hz⟩ := h.res
  have hs : W0.heap.size ≤ V.heap.size := h.below.size
  exact ⟨fun b h1 h2 => (hb.block b (by omega)).trans (h.same b h1 h2), h.below.trans (hb.mono (Nat.le_of_lt (lt_of_block hz))), z0, z1, z2, z3, (hb.block R (lt_of_block hz)).trans hz⟩

theorem KeepR.store (h : KeepR W0 R V) (z0 z1 z2 z3 : Value) : KeepR W0 R ((((V.setCell ⟨R, 0, none⟩ z0).setCell ⟨R, 1, none⟩ z1).setCell ⟨R, 2, none⟩ z2).setCell ⟨R, 3, none⟩ z3) := by
  obtain ⟨y0, y1, y2, y3, hz⟩ := h.res
  exact ⟨fun b h1 h2 => (other4 h2).trans (h.same b h1 h2), below_stored4 h.below (Nat.le_refl _), z0, z1, z2, z3, stored4 hz⟩

theorem KeepR.cells (h : KeepR W0 R V) {b t : Nat} {u0 u1 u2 u3 : Value} (hb : W0.heap[b]? = some (.cells #[u0, u1, u2, u3] t (0, 0))) (hne : b ≠ R) :
    V.cell? ⟨b, 0, none⟩ = some u0 ∧ V.cell? ⟨b, 1, none⟩ = some u1 ∧ V.cell? ⟨b, 2, none⟩ = some u2 ∧ V.cell? ⟨b, 3, none⟩ = some u3 :=
  cells4 ((h.same b (lt_of_block hb) hne).trans hb)

theorem KeepR.room (h : KeepR W0 R V) : ∃ z0 z1 z2 z3, V.cell? ⟨R, 0, none⟩ = some z0 ∧ V.cell? ⟨R, 1, none⟩ = some z1 ∧ V.cell? ⟨R, 2, none⟩ = some z2 ∧ V.cell? ⟨R, 3, none⟩ = some z3 ∧ ∀ o, V.frozen? ⟨R, o, none⟩ = false := by
  obtain ⟨z0, z1, z2, z3, hz⟩ := h.res
  obtain ⟨a, b, c, d⟩ := cells4 hz
  exact ⟨z0, z1, z2, z3, a, b, c, d, fun o => blk_free hz⟩

end

end Go.Proofs.Ytpnijncoldihfaa

namespace Go.Proofs.Ytpnijncoldihfaa
open Go.RowKit Go.Shelf

section
variable {P : Program} {md : Region.Mode} {ops : Array Oper} {Q : Exit → Act → World → Prop} {S : World → Prop}

/-- A stage of a region: what holds of its states leads through it. -/
theorem wpAnyH_stage {Φ : Nat → Array Bool → Act → World → Prop} {r : Nat}
    (hstep : ∀ k listed a w, Φ (k + 1) listed a w → Region.ready md ops listed ≠ [] ∧ ∀ i ∈ Region.ready md ops listed, wpOp P ops Q i (fun a' w' => S w' ∧ Φ k (listed.setIfInBounds i true) a' w') a w)
    (hend : ∀ listed a w, Φ 0 listed a w → wpAnyH P md ops Q S r listed a w) :
    ∀ k listed a w, Φ k listed a w → wpAnyH P md ops Q S (r + k) listed a w
  | 0, listed, a, w, h => hend listed a w h
  | k + 1, listed, a, w, h => by
    obtain ⟨h1, h2⟩ := hstep k listed a w h
    exact ⟨fun h0 => absurd h0 h1, fun i hi => wpOp_mono (fun a' w' h' => ⟨h'.1, wpAnyH_stage hstep hend k _ a' w' h'.2⟩) (h2 i hi)⟩

end

/-- A slot that is set, if the variable is made. -/
def setO (d : Nat) (p : Option Nat) (t : List Value) : List Value := match p with | none => t | some b => t.set d (.pointer (some ⟨b, 0, none⟩))

/-- A slot that is set, if the call is done. -/
def setC (c : Nat) (b : Bool) (v : Value) (t : List Value) : List Value := if b then t.set c v else t

theorem setO_set {d c : Nat} {p : Option Nat} {t : List Value} {v : Value} (h : d ≠ c) : (setO d p t).set c v = setO d p (t.set c v) := by
  cases p with
  | none => rfl
  | some b => exact List.set_comm _ _ h

theorem setO_get {d s : Nat} {p : Option Nat} {t : List Value} (h : d ≠ s) : (setO d p t)[s]? = t[s]? := by
  cases p with
  | none => rfl
  | some b => exact List.getElem?_set_ne h

theorem setC_get {d s : Nat} {b : Bool} {t : List Value} {u : Value} (h : d ≠ s) : (setC d b u t)[s]? = t[s]? := by
  cases b with
  | false => rfl
  | true => exact List.getElem?_set_ne h

/-- A new variable of four limbs. -/
def Fresh (N : Nat) (w : World) (p : Option Nat) : Prop := ∀ b, p = some b → N ≤ b ∧ w.heap[b]? = some (.cells #[.int .u64 0, .int .u64 0, .int .u64 0, .int .u64 0] 24 (0, 0))

/-- Two variables are apart. -/
def Apart (p q : Option Nat) : Prop := ∀ b c, p = some b → q = some c → b ≠ c

theorem Fresh.none {N : Nat} {w : World} : Fresh N w none := fun _ h => by cases h

theorem Fresh.call {N : Nat} {w w' : World} {p : Option Nat} (h : Fresh N w p) (hb : Below w.heap.size w w') : Fresh N w' p := fun b e => by
  obtain ⟨h1, h2⟩ := h b e
  exact ⟨h1, (hb.block b (lt_of_block h2)).trans h2⟩

theorem Fresh.alloc {N : Nat} {w : World} {p : Option Nat} (h : Fresh N w p) (o : Obj) : Fresh N (w.alloc o) p := fun b e => by
  obtain ⟨h1, h2⟩ := h b e
  exact ⟨h1, (heap_old _ _ (lt_of_block h2)).trans h2⟩

theorem Fresh.new {N : Nat} {w : World} (hN : N ≤ w.heap.size) : Fresh N (w.alloc (.cells #[.int .u64 0, .int .u64 0, .int .u64 0, .int .u64 0] 24)) (some w.heap.size) := fun b e => by
  cases e
  exact ⟨hN, heap_new _ _⟩

theorem Apart.new {N : Nat} {w : World} {p : Option Nat} (h : Fresh N w p) : Apart (some w.heap.size) p := fun b c e1 e2 => by
  cases e1
  have := lt_of_block (h c e2).2
  omega

theorem Apart.symm {p q : Option Nat} (h : Apart p q) : Apart q p := fun b c e1 e2 => (h c b e2 e1).symm

theorem Apart.none1 {q : Option Nat} : Apart none q := fun _ _ h => by cases h


end Go.Proofs.Ytpnijncoldihfaa
