/-
  A word that is put together bit by bit.
-/
import Derived.Test.YtpnijncoldihfaaBackC14
import Derived.Test.YtpnijncoldihfaaBackC15
import Derived.Test.YtpnijncoldihfaaBackC03
import Derived.Test.YtpnijncoldihfaaBackC01
import Derived.Test.YtpnijncoldihfaaBackC04
import Derived.Test.YtpnijncoldihfaaBackC11
namespace Go.Proofs.Ytpnijncoldihfaa
open Go.RowKit Go.Shelf

/-- Where a comparison has come to. -/
structure OI (w wr : World) (A B k : Nat) : Prop where
  a : wr.heap[w.heap.size]? = some (.cells (c17 (dg A)) 76 (0, 0))
  b : wr.heap[w.heap.size + 1]? = some (.cells (c17 (dg B)) 76 (0, 0))
  e : ∀ j, k ≤ j → j < 17 → dg A j = dg B j
  l : Below w.heap.size w wr

theorem OI.start (w : World) (A B : Nat) : OI w ((w.alloc (.cells (c17 (dg A)) 76 (0, 0))).alloc (.cells (c17 (dg B)) 76 (0, 0))) A B 17 := by
  refine ⟨?_, ?_, fun j h1 h2 => absurd h2 (by omega), ?_⟩
  · simp only [World.alloc, Array.getElem?_push, Array.size_push]; simp
  · simp only [World.alloc, Array.getElem?_push, Array.size_push]; simp
  · refine Below.alloc ?_ (by simp <;> omega) _
    refine Below.alloc ?_ (by simp <;> omega) _
    exact Below.refl _ _

end Go.Proofs.Ytpnijncoldihfaa

namespace Go.Proofs.Ytpnijncoldihfaa
open Go.RowKit Go.Shelf

/-- All but the box R is as it was; R is a box of four cells. -/
structure KeepT (t : Nat) (W0 : World) (R : Nat) (V : World) : Prop where
  same : ∀ b, b < W0.heap.size → b ≠ R → V.heap[b]? = W0.heap[b]?
  below : Below R W0 V
  res : ∃ z0 z1 z2 z3, V.heap[R]? = some (.cells #[z0, z1, z2, z3] t (0, 0))

section
variable {t : Nat} {W0 V V' : World} {R : Nat}
theorem KeepT.init {z0 z1 z2 z3 : Value} (h : W0.heap[R]? = some (.cells #[z0, z1, z2, z3] t (0, 0))) : KeepT t W0 R W0.drew :=
  ⟨fun _ _ _ => rfl, (Below.refl _ _).drew, z0, z1, z2, z3, h⟩

theorem KeepT.call (h : KeepT t W0 R V) (hb : Below V.heap.size V V') : KeepT t W0 R V' := by
  obtain ⟨z0, z1, z2, z3, hz⟩ := h.res
  have hs : W0.heap.size ≤ V.heap.size := h.below.size
  exact ⟨fun b h1 h2 => (hb.block b (by omega)).trans (h.same b h1 h2), h.below.trans (hb.mono (Nat.le_of_lt (lt_of_block hz))), z0, z1, z2, z3, (hb.block R (lt_of_block hz)).trans hz⟩

theorem KeepT.store (h : KeepT t W0 R V) (z0 z1 z2 z3 : Value) : KeepT t W0 R ((((V.setCell ⟨R, 0, none⟩ z0).setCell ⟨R, 1, none⟩ z1).setCell ⟨R, 2, none⟩ z2).setCell ⟨R, 3, none⟩ z3) := by
  obtain ⟨y0, y1, y2, y3, hz⟩ := h.res
  exact ⟨fun b h1 h2 => (other4 h2).trans (h.same b h1 h2), below_stored4 h.below (Nat.le_refl _), z0, z1, z2, z3, stored4 hz⟩

theorem KeepT.cells (h : KeepT t W0 R V) {b t' : Nat} {u0 u1 u2 u3 : Value} (hb : W0.heap[b]? = some (.cells #[u0, u1, u2, u3] t' (0, 0))) (hne : b ≠ R) :
    V.cell? ⟨b, 0, none⟩ = some u0 ∧ V.cell? ⟨b, 1, none⟩ = some u1 ∧ V.cell? ⟨b, 2, none⟩ = some u2 ∧ V.cell? ⟨b, 3, none⟩ = some u3 :=
  cells4 ((h.same b (lt_of_block hb) hne).trans hb)

theorem KeepT.room (h : KeepT t W0 R V) : ∃ z0 z1 z2 z3, V.cell? ⟨R, 0, none⟩ = some z0 ∧ V.cell? ⟨R, 1, none⟩ = some z1 ∧ V.cell? ⟨R, 2, none⟩ = some z2 ∧ V.cell? ⟨R, 3, none⟩ = some z3 ∧ ∀ o, V.frozen? ⟨R, o, none⟩ = false := by
  obtain ⟨z0, z1, z2, z3, hz⟩ := h.res
  obtain ⟨a, b, c, d⟩ := cells4 hz
  exact ⟨z0, z1, z2, z3, a, b, c, d, fun o => blk_free hz⟩

end

theorem at_world_q {P : Program} {f : FuncId} {args : Array Value} {w : World} {Q : Ending → World → Prop} (h : ∀ W0, W0 = w → Calls P f args W0 Q) : Calls P f args w Q := h w rfl

end Go.Proofs.Ytpnijncoldihfaa

namespace Go.Proofs.Ytpnijncoldihfaa
open Go.RowKit Go.Shelf

theorem eq_words (a b c d a' b' c' d' : Int) (W : World) : (Op.equalIn 10000 24 (.agg #[.int .u64 a, .int .u64 b, .int .u64 c, .int .u64 d]) (.agg #[.int .u64 a', .int .u64 b', .int .u64 c', .int .u64 d'])).run Try.prog W = .ok (a == a' && (b == b' && (c == c' && d == d'))) W := by
  have h : ∀ x y : Int, (Op.equalIn 9999 22 (.int .u64 x) (.int .u64 y)).run Try.prog W = .ok (x == y) W := fun x y => by
    unfold Op.equalIn
    simp [go_sem]
  unfold Op.equalIn
  simp [go_sem, List.range', h]
  by_cases h1 : a = a' <;> by_cases h2 : b = b' <;> by_cases h3 : c = c' <;> by_cases h4 : d = d' <;> simp [go_sem, h1, h2, h3, h4]

end Go.Proofs.Ytpnijncoldihfaa

namespace Go.Proofs.Ytpnijncoldihfaa
open Go.RowKit Go.Shelf

theorem endRow {P : Program} {fn : Func} {R : Ending → World → Prop} {a : Act} {w : World} {id L R0 i j k ty ty1 ty2 : Nat} {C : Array Value} {d : TypeDesc} {pos1 pos2 aft1 aft2} (hf : fn.results = #[.cell j ty]) (hi : a.eval (.tmp i) = .pointer (some ⟨L, 0, none⟩)) (hj : a.eval (.tmp j) = .pointer (some ⟨R0, 0, none⟩)) (hjk : k ≠ j) (hk : k < a.tmps.size) (hd : a.defers = [])
    (hu : P.underlying ty = some d) (hr : d.isRow = true) (hs : (P.info? ty).map (·.size) = some C.size) (h1 : C.all (·.oneCell') = true)
    (hL : w.rangeAt L 0 C.toList) (hR : w.there R0 0 C.size) (h : ∀ wS, But R0 w wS → R (.returned (.agg C)) wS) :
    ((Code.region id #[{ dst := some k, op := .load ty (.tmp i), type := ty1, pos := pos1, after := aft1, guard := none }, { dst := none, op := .store ty (.tmp j) (.tmp k), type := ty2, pos := pos2, after := aft2, guard := none }] false).seq .ret).wp P (bodyPost P fn R) a w := by
  refine wp_seq ?_
  refine wp_region_list ?_
  have hj' : (a.put (some k) (.agg C)).eval (.tmp j) = .pointer (some ⟨R0, 0, none⟩) := by rw [put_ne _ _ hjk, hj]
  have hs' : (P.info? ty).map (·.size) = some C.toList.length := by rw [Array.length_toList]; exact hs
  refine wpList_load_mid rfl ty (.tmp i) rfl L 0 hi C.toList _ hL hu hr hs' ?_
  refine wpList_store_mid rfl ty (.tmp j) (.tmp k) rfl R0 0 C hj' (put_same _ _ _ hk) hR hs h1 ?_
  refine wpList_nil ?_
  refine wp_ret ?_
  have hb := World.rangeAt_setCells_same w R0 0 C.toList (by rw [Array.length_toList]; exact hR)
  exact bodyPost_ret_by (results_cell hf hj' (run_loadVar_mid _ R0 0 ty C.toList _ hb hu hr hs')) hd (h _ (But.sets _ _ (But.refl _ _)))

theorem rangeOf {w : World} {b t : Nat} {C : Array Value} (h : w.heap[b]? = some (.cells C t (0, 0))) : w.rangeAt b 0 C.toList := fun j v hv =>
  blk_cell (o := 0 + j) (v := v) h (by rw [Nat.zero_add]; rw [Array.getElem?_toList] at hv; exact hv)

theorem thereOf {w : World} {b t : Nat} {C : Array Value} (h : w.heap[b]? = some (.cells C t (0, 0))) : w.there b 0 C.size := fun j hj =>
  ⟨(rangeOf h).isSome j (by rw [Array.length_toList]; exact hj), blk_free h⟩

end Go.Proofs.Ytpnijncoldihfaa

namespace Go.Proofs.Ytpnijncoldihfaa
open Go.RowKit Go.Shelf

/-- Four cells. -/
def c4 (g : Nat → Nat) : Array Value := #[.int .u64 (g 0), .int .u64 (g 1), .int .u64 (g 2), .int .u64 (g 3)]

theorem wv_c4 (X : Nat) : wv X = .agg (c4 (limb X)) := wv_limb X

theorem cget4 (g : Nat → Nat) {j : Nat} (h : j < 4) : (c4 g)[j]? = some (.int .u64 (g j)) := by
  match j, h with
  | 0, _ => rfl
  | 1, _ => rfl
  | 2, _ => rfl
  | 3, _ => rfl
  | k + 4, h => exact absurd h (by omega)

theorem cset4 (g : Nat → Nat) {j : Nat} (v : Nat) (h : j < 4) : (c4 g).setIfInBounds j (.int .u64 v) = c4 (fun i => if i = j then v else g i) := by
  match j, h with
  | 0, _ => rfl
  | 1, _ => rfl
  | 2, _ => rfl
  | 3, _ => rfl
  | k + 4, h => exact absurd h (by omega)

theorem oneCell4 (g : Nat → Nat) : (c4 g).all (·.oneCell') = true := by simp [c4, Value.oneCell']

theorem zero4 : (#[.int .u64 0, .int .u64 0, .int .u64 0, .int .u64 0] : Array Value) = c4 (fun _ => 0) := rfl

theorem putAll4 (g' g : Nat → Nat) : putAll (c4 g') 0 (c4 g).toList = c4 g := by
  simp [c4, putAll]

theorem there4 {w : World} {b t : Nat} {g : Nat → Nat} (h : w.heap[b]? = some (.cells (c4 g) t (0, 0))) : w.there b 0 4 := thereOf h

end Go.Proofs.Ytpnijncoldihfaa

namespace Go.Proofs.Ytpnijncoldihfaa
open Go.RowKit Go.Shelf

/-- The borrow into a digit of a difference. -/
def br (A B k : Nat) : Nat := if A % 4294967296 ^ k < B % 4294967296 ^ k then 1 else 0

end Go.Proofs.Ytpnijncoldihfaa

namespace Go.Proofs.Ytpnijncoldihfaa
open Go.RowKit Go.Shelf

/-- Where a long division has come to: the cells. -/
structure SI (w wr : World) (A B : Nat) (gq gr : Nat → Nat) : Prop where
  a : wr.heap[w.heap.size]? = some (.cells (c17 (dg A)) 76 (0, 0))
  b : wr.heap[w.heap.size + 1]? = some (.cells (c17 (dg B)) 76 (0, 0))
  r4 : wr.heap[w.heap.size + 1 + 1]? = some (.cells (c17 (fun _ => 0)) 76 (0, 0))
  r5 : wr.heap[w.heap.size + 1 + 1 + 1]? = some (.cells (c17 (fun _ => 0)) 76 (0, 0))
  q : wr.heap[w.heap.size + 1 + 1 + 1 + 1]? = some (.cells (c17 gq) 76 (0, 0))
  r : wr.heap[w.heap.size + 1 + 1 + 1 + 1 + 1]? = some (.cells (c17 gr) 76 (0, 0))
  l : Below w.heap.size w wr

theorem SI.start (w : World) (A B : Nat) : SI w ((((((w.alloc (.cells (c17 (dg A)) 76 (0, 0))).alloc (.cells (c17 (dg B)) 76 (0, 0))).alloc (.cells (c17 (fun _ => 0)) 76 (0, 0))).alloc (.cells (c17 (fun _ => 0)) 76 (0, 0))).alloc (.cells (c17 (fun _ => 0)) 76 (0, 0))).alloc (.cells (c17 (fun _ => 0)) 76 (0, 0))) A B (fun _ => 0) (fun _ => 0) := by
  refine ⟨?_, ?_, ?_, ?_, ?_, ?_, ?_⟩
  · simp only [World.alloc, Array.getElem?_push, Array.size_push]; simp [Nat.add_assoc]
  · simp only [World.alloc, Array.getElem?_push, Array.size_push]; simp [Nat.add_assoc]
  · simp only [World.alloc, Array.getElem?_push, Array.size_push]; simp [Nat.add_assoc]
  · simp only [World.alloc, Array.getElem?_push, Array.size_push]; simp [Nat.add_assoc]
  · simp only [World.alloc, Array.getElem?_push, Array.size_push]; simp [Nat.add_assoc]
  · simp only [World.alloc, Array.getElem?_push, Array.size_push]; simp
  · repeat first | exact Below.refl _ _ | (refine Below.alloc ?_ (by simp <;> omega) _)

theorem SI.drew {w wr : World} {A B : Nat} {gq gr : Nat → Nat} (I : SI w wr A B gq gr) : SI w wr.drew A B gq gr := ⟨I.a, I.b, I.r4, I.r5, I.q, I.r, I.l.drew⟩

theorem SI.call {w wr w' : World} {A B : Nat} {gq gr : Nat → Nat} (I : SI w wr A B gq gr) (h : Below wr.heap.size wr w') : SI w w' A B gq gr :=
  ⟨(h.block _ (lt_of_block I.a)).trans I.a, (h.block _ (lt_of_block I.b)).trans I.b, (h.block _ (lt_of_block I.r4)).trans I.r4, (h.block _ (lt_of_block I.r5)).trans I.r5, (h.block _ (lt_of_block I.q)).trans I.q, (h.block _ (lt_of_block I.r)).trans I.r, I.l.trans (h.mono I.l.size)⟩

theorem SI.but {w wr w' : World} {A B : Nat} {gq gr g' : Nat → Nat} (I : SI w wr A B gq gr) (h : But (w.heap.size + 1 + 1 + 1 + 1 + 1) wr w') (hr : w'.heap[w.heap.size + 1 + 1 + 1 + 1 + 1]? = some (.cells (c17 g') 76 (0, 0))) : SI w w' A B gq g' :=
  ⟨(h.same _ (by omega)).trans I.a, (h.same _ (by omega)).trans I.b, (h.same _ (by omega)).trans I.r4, (h.same _ (by omega)).trans I.r5, (h.same _ (by omega)).trans I.q, hr, I.l.trans (h.below.mono (by omega))⟩

theorem SI.whole {w wr : World} {A B : Nat} {gq gr : Nat → Nat} (I : SI w wr A B gq gr) (g : Nat → Nat) : SI w (wr.setCells (w.heap.size + 1 + 1 + 1 + 1 + 1) 0 (c17 g).toList) A B gq g := by
  refine I.but (But.sets _ _ (But.refl _ _)) ?_
  have h := blk_sets (c17 g).toList 0 I.r
  rwa [putAll17] at h

theorem SI.cell {w wr : World} {A B : Nat} {gq gr : Nat → Nat} (I : SI w wr A B gq gr) {j : Nat} (hj : j < 17) (v : Nat) : SI w (wr.setCell ⟨w.heap.size + 1 + 1 + 1 + 1 + 1, j, none⟩ (.int .u64 v)) A B gq (fun i => if i = j then v else gr i) := by
  refine I.but ((But.refl _ _).set _ _) ?_
  have h := blk_set (o := j) I.r (.int .u64 v)
  rwa [set17 gr v hj] at h

theorem put_none (a : Act) (v : Value) : a.put none v = a := rfl

/-- The end of a long division. -/
structure SE (w wr : World) (x y : Nat) : Prop where
  q : wr.heap[w.heap.size + 1 + 1 + 1 + 1]? = some (.cells (c17 (dg x)) 76 (0, 0))
  r : wr.heap[w.heap.size + 1 + 1 + 1 + 1 + 1]? = some (.cells (c17 (dg y)) 76 (0, 0))
  r4 : ∃ g, wr.heap[w.heap.size + 1 + 1]? = some (.cells (c17 g) 76 (0, 0))
  r5 : ∃ g, wr.heap[w.heap.size + 1 + 1 + 1]? = some (.cells (c17 g) 76 (0, 0))
  l : Below w.heap.size w wr

theorem SE.drew {w wr : World} {x y : Nat} (I : SE w wr x y) : SE w wr.drew x y := ⟨I.q, I.r, I.r4, I.r5, I.l.drew⟩

end Go.Proofs.Ytpnijncoldihfaa

namespace Go.Proofs.Ytpnijncoldihfaa
open Go.RowKit Go.Shelf

/-- Where a word that is put together bit by bit has come to. -/
structure BI (w wr : World) (bx br O A V : Nat) : Prop where
  x : wr.heap[bx]? = some (.cells (c4 (limb A)) 23 (0, 0))
  r : wr.heap[br]? = some (.cells (c4 (fun _ => 0)) 23 (0, 0))
  o : wr.heap[O]? = some (.cells (c4 (limb V)) 23 (0, 0))
  n1 : O ≠ bx
  n2 : O ≠ br
  h1 : w.heap.size ≤ br
  h2 : w.heap.size ≤ O
  b : Below w.heap.size w wr

theorem BI.drew {w wr : World} {bx br O A V : Nat} (I : BI w wr bx br O A V) : BI w wr.drew bx br O A V := ⟨I.x, I.r, I.o, I.n1, I.n2, I.h1, I.h2, I.b.drew⟩

theorem BI.call {w wr w' : World} {bx br O A V : Nat} (I : BI w wr bx br O A V) (h : Below wr.heap.size wr w') : BI w w' bx br O A V :=
  ⟨(h.block _ (lt_of_block I.x)).trans I.x, (h.block _ (lt_of_block I.r)).trans I.r, (h.block _ (lt_of_block I.o)).trans I.o, I.n1, I.n2, I.h1, I.h2, I.b.trans (h.mono I.b.size)⟩

theorem BI.put {w wr : World} {bx br O A V : Nat} (I : BI w wr bx br O A V) (V' : Nat) : BI w (wr.setCells O 0 (c4 (limb V')).toList) bx br O A V' := by
  have h := But.sets (c4 (limb V')).toList 0 (But.refl O wr)
  have ho := blk_sets (c4 (limb V')).toList 0 I.o
  rw [putAll4] at ho
  exact ⟨(h.same _ (Ne.symm I.n1)).trans I.x, (h.same _ (Ne.symm I.n2)).trans I.r, ho, I.n1, I.n2, I.h1, I.h2, I.b.trans (h.below.mono I.h2)⟩

theorem limb_nought : limb 0 = fun _ => 0 := by funext j; simp [limb]

end Go.Proofs.Ytpnijncoldihfaa
