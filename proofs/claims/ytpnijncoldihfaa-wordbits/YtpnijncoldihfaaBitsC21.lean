/-
  A word that is put together bit by bit.
-/
import Derived.Test.YtpnijncoldihfaaBitsC20
import Derived.Test.YtpnijncoldihfaaBitsC14
import Derived.Test.YtpnijncoldihfaaBitsC12
import Derived.Test.YtpnijncoldihfaaBitsC15
import Derived.Test.YtpnijncoldihfaaBitsC17
namespace Go.Proofs.Ytpnijncoldihfaa
open Go.RowKit Go.Shelf

/-- A number below a limit, or the limit. -/
def smallN (X n : Nat) : Nat := if X % M256 < n then X % M256 else n

set_option maxHeartbeats 2000000 in
set_option maxRecDepth 100000 in
theorem refSmall_any (X n : Nat) (hn : n < 2147483648) (w : World) : Calls Try.prog 105 #[wv X, .int .i64 n] w fun e w' => e = .returned (.int .i64 (smallN X n)) ∧ Below w.heap.size w w' := by
  obtain ⟨x0, x1, x2, x3, h0, h1, h2, h3, e, hx⟩ := wv_limbs X
  have e1 : IntKind.u64.wrap (n : Int) = (n : Int) := by rw [IntKind.wrap_u64]; omega
  have HL : Hid (Below w.heap.size w (w.alloc (.cells #[.int .u64 x0, .int .u64 x1, .int .u64 x2, .int .u64 x3] 23 (0, 0)))) := (Below.refl _ _).alloc (Nat.le_refl _) _
  unfold smallN
  rw [e, hx]
  clear hx e
  by_cases b : x1 = 0
  · subst b
    by_cases c : x2 = 0
    · subst c
      by_cases d : x3 = 0
      · subst d
        have hv : num x0 0 0 0 = x0 := by unfold num; omega
        rw [hv]
        clear hv
        by_cases f : x0 < n
        · rw [if_pos f]
          have f1 : (x0 : Int) < (n : Int) := by omega
          have f2 : ¬ (n : Int) ≤ (x0 : Int) := by omega
          have f3 : IntKind.i64.wrap (x0 : Int) = (x0 : Int) := by rw [IntKind.wrap_i64]; omega
          clear f h0 h1 h2 h3 hn
          go_enter Try.func105, Try.ntmps105
          go_wp2_with fail
          go_ret
          exact ⟨rfl, HL.out⟩
        · rw [if_neg f]
          have f2 : (n : Int) ≤ (x0 : Int) := by omega
          have f1 : ¬ (x0 : Int) < (n : Int) := by omega
          clear f h0 h1 h2 h3 hn
          go_enter Try.func105, Try.ntmps105
          go_wp2_with fail
          go_ret
          exact ⟨rfl, HL.out⟩
      · rw [if_neg (by unfold num; omega)]
        have d' : ((x3 : Int) == 0) = false := by simp; omega
        have d2 : ¬ (x3 : Int) = 0 := by omega
        clear d h0 h1 h2 h3 hn
        go_enter Try.func105, Try.ntmps105
        go_wp2_with fail
        go_ret
        exact ⟨rfl, HL.out⟩
    · rw [if_neg (by unfold num; omega)]
      have d' : ((x2 : Int) == 0) = false := by simp; omega
      have d2 : ¬ (x2 : Int) = 0 := by omega
      clear c h0 h1 h2 h3 hn
      go_enter Try.func105, Try.ntmps105
      go_wp2_with fail
      go_ret
      exact ⟨rfl, HL.out⟩
  · rw [if_neg (by unfold num; omega)]
    have d' : ((x1 : Int) == 0) = false := by simp; omega
    have d2 : ¬ (x1 : Int) = 0 := by omega
    clear b h0 h1 h2 h3 hn
    go_enter Try.func105, Try.ntmps105
    go_wp2_with fail
    go_ret
    exact ⟨rfl, HL.out⟩

end Go.Proofs.Ytpnijncoldihfaa

namespace Go.Proofs.Ytpnijncoldihfaa
open Go.RowKit Go.Shelf

/-- The borrow into a digit of a difference. -/
def br (A B k : Nat) : Nat := if A % 4294967296 ^ k < B % 4294967296 ^ k then 1 else 0

end Go.Proofs.Ytpnijncoldihfaa

namespace Go.Proofs.Ytpnijncoldihfaa
open Go.RowKit Go.Shelf

/-- Where a long division has come to: the cells. -/
structure SI (w wr : World) (A B : Nat) (gq gr : Nat → Nat) : Prop where
  a : wr.heap[w.heap.size]? = some (.cells (c17 (dg A)) 76 (0, 0))
  b : wr.heap[w.heap.size + 1]? = some (.cells (c17 (dg B)) 76 (0, 0))
  r4 : wr.heap[w.heap.size + 1 + 1]? = some (.cells (c17 (fun _ => 0)) 76 (0, 0))
  r5 : wr.heap[w.heap.size + 1 + 1 + 1]? = some (.cells (c17 (fun _ => 0)) 76 (0, 0))
  q : wr.heap[w.heap.size + 1 + 1 + 1 + 1]? = some (.cells (c17 gq) 76 (0, 0))
  r : wr.heap[w.heap.size + 1 + 1 + 1 + 1 + 1]? = some (.cells (c17 gr) 76 (0, 0))
  l : Below w.heap.size w wr

theorem SI.start (w : World) (A B : Nat) : SI w ((((((w.alloc (.cells (c17 (dg A)) 76 (0, 0))).alloc (.cells (c17 (dg B)) 76 (0, 0))).alloc (.cells (c17 (fun _ => 0)) 76 (0, 0))).alloc (.cells (c17 (fun _ => 0)) 76 (0, 0))).alloc (.cells (c17 (fun _ => 0)) 76 (0, 0))).alloc (.cells (c17 (fun _ => 0)) 76 (0, 0))) A B (fun _ => 0) (fun _ => 0) := by
  refine ⟨?_, ?_, ?_, ?_, ?_, ?_, ?_⟩
  · simp only [World.alloc, Array.getElem?_push, Array.size_push]; simp [Nat.add_assoc]
  · simp only [World.alloc, Array.getElem?_push, Array.size_push]; simp [Nat.add_assoc]
  · simp only [World.alloc, Array.getElem?_push, Array.size_push]; simp [Nat.add_assoc]
  · simp only [World.alloc, Array.getElem?_push, Array.size_push]; simp [Nat.add_assoc]
  · simp only [World.alloc, Array.getElem?_push, Array.size_push]; simp [Nat.add_assoc]
  · simp only [World.alloc, Array.getElem?_push, Array.size_push]; simp
  · repeat first | exact Below.refl _ _ | (refine Below.alloc ?_ (by simp <;> omega) _)

theorem SI.drew {w wr : World} {A B : Nat} {gq gr : Nat → Nat} (I : SI w wr A B gq gr) : SI w wr.drew A B gq gr := ⟨I.a, I.b, I.r4, I.r5, I.q, I.r, I.l.drew⟩

theorem SI.call {w wr w' : World} {A B : Nat} {gq gr : Nat → Nat} (I : SI w wr A B gq gr) (h : Below wr.heap.size wr w') : SI w w' A B gq gr :=
  ⟨(h.block _ (lt_of_block I.a)).trans I.a, (h.block _ (lt_of_block I.b)).trans I.b, (h.block _ (lt_of_block I.r4)).trans I.r4, (h.block _ (lt_of_block I.r5)).trans I.r5, (h.block _ (lt_of_block I.q)).trans I.q, (h.block _ (lt_of_block I.r)).trans I.r, I.l.trans (h.mono I.l.size)⟩

theorem SI.but {w wr w' : World} {A B : Nat} {gq gr g' : Nat → Nat} (I : SI w wr A B gq gr) (h : But (w.heap.size + 1 + 1 + 1 + 1 + 1) wr w') (hr : w'.heap[w.heap.size + 1 + 1 + 1 + 1 + 1]? = some (.cells (c17 g') 76 (0, 0))) : SI w w' A B gq g' :=
  ⟨(h.same _ (by omega)).trans I.a, (h.same _ (by omega)).trans I.b, (h.same _ (by omega)).trans I.r4, (h.same _ (by omega)).trans I.r5, (h.same _ (by omega)).trans I.q, hr, I.l.trans (h.below.mono (by omega))⟩

theorem SI.whole {w wr : World} {A B : Nat} {gq gr : Nat → Nat} (I : SI w wr A B gq gr) (g : Nat → Nat) : SI w (wr.setCells (w.heap.size + 1 + 1 + 1 + 1 + 1) 0 (c17 g).toList) A B gq g := by
  refine I.but (But.sets _ _ (But.refl _ _)) ?_
  have h := blk_sets (c17 g).toList 0 I.r
  rwa [putAll17] at h

theorem SI.cell {w wr : World} {A B : Nat} {gq gr : Nat → Nat} (I : SI w wr A B gq gr) {j : Nat} (hj : j < 17) (v : Nat) : SI w (wr.setCell ⟨w.heap.size + 1 + 1 + 1 + 1 + 1, j, none⟩ (.int .u64 v)) A B gq (fun i => if i = j then v else gr i) := by
  refine I.but ((But.refl _ _).set _ _) ?_
  have h := blk_set (o := j) I.r (.int .u64 v)
  rwa [set17 gr v hj] at h

/-- An operation that looks at the world and a call, in either order. -/
theorem wpAnyH_pair {P : Program} {md : Region.Mode} {ops : Array Oper} {Q : Exit → Act → World → Prop} {S : World → Prop} {i j r : Nat} {listed : Array Bool} {l : List Value} {ds : List Deferred} {w : World} (di dj : Nat) (vi vj : Value)
    (hr : Region.ready md ops listed = [i, j]) (hri : Region.ready md ops (listed.setIfInBounds i true) = [j]) (hrj : Region.ready md ops (listed.setIfInBounds j true) = [i]) (hij : i ≠ j) (hd : di ≠ dj)
    (hS : ∀ w', Below w.heap.size w w' → S w')
    (hi : ∀ (T : List Value) (w' : World) (K : Act → World → Prop), (T = l ∨ T = l.set dj vj) → Below w.heap.size w w' → K { tmps := (T.set di vi).toArray, defers := ds } w' → wpOp P ops Q i K { tmps := T.toArray, defers := ds } w')
    (hj : ∀ (T : List Value) (w' : World) (K : Act → World → Prop), (T = l ∨ T = l.set di vi) → Below w.heap.size w w' → (∀ w'', Below w'.heap.size w' w'' → K { tmps := (T.set dj vj).toArray, defers := ds } w'') → wpOp P ops Q j K { tmps := T.toArray, defers := ds } w')
    (h : ∀ w', Below w.heap.size w w' → wpAnyH P md ops Q S r ((listed.setIfInBounds i true).setIfInBounds j true) { tmps := ((l.set di vi).set dj vj).toArray, defers := ds } w') :
    wpAnyH P md ops Q S (r + 2) listed { tmps := l.toArray, defers := ds } w := by
  refine wpAnyH_all hr (by simp) (fun k hk => ?_)
  rcases List.mem_cons.1 hk with rfl | hk
  · refine hi l w _ (Or.inl rfl) (Below.refl _ _) ⟨hS _ (Below.refl _ _), ?_⟩
    refine wpAnyH_all hri (by simp) (fun m hm => ?_)
    rw [List.mem_singleton] at hm
    subst hm
    refine hj _ w _ (Or.inr rfl) (Below.refl _ _) (fun w'' hb => ⟨hS _ hb, h w'' hb⟩)
  · rw [List.mem_singleton] at hk
    subst hk
    refine hj l w _ (Or.inl rfl) (Below.refl _ _) (fun w'' hb => ⟨hS _ hb, ?_⟩)
    refine wpAnyH_all hrj (by simp) (fun m hm => ?_)
    rw [List.mem_singleton] at hm
    subst hm
    refine hi _ w'' _ (Or.inr rfl) hb ⟨hS _ hb, ?_⟩
    rw [List.set_comm _ _ (Ne.symm hd), Array.setIfInBounds_comm _ _ (Ne.symm hij)]
    exact h w'' hb

theorem put_none (a : Act) (v : Value) : a.put none v = a := rfl

/-- The end of a long division. -/
structure SE (w wr : World) (x y : Nat) : Prop where
  q : wr.heap[w.heap.size + 1 + 1 + 1 + 1]? = some (.cells (c17 (dg x)) 76 (0, 0))
  r : wr.heap[w.heap.size + 1 + 1 + 1 + 1 + 1]? = some (.cells (c17 (dg y)) 76 (0, 0))
  r4 : ∃ g, wr.heap[w.heap.size + 1 + 1]? = some (.cells (c17 g) 76 (0, 0))
  r5 : ∃ g, wr.heap[w.heap.size + 1 + 1 + 1]? = some (.cells (c17 g) 76 (0, 0))
  l : Below w.heap.size w wr

theorem SE.drew {w wr : World} {x y : Nat} (I : SE w wr x y) : SE w wr.drew x y := ⟨I.q, I.r, I.r4, I.r5, I.l.drew⟩

end Go.Proofs.Ytpnijncoldihfaa

namespace Go.Proofs.Ytpnijncoldihfaa
open Go.RowKit Go.Shelf

/-- Where a word that is put together bit by bit has come to. -/
structure BI (w wr : World) (bx br O A V : Nat) : Prop where
  x : wr.heap[bx]? = some (.cells (c4 (limb A)) 23 (0, 0))
  r : wr.heap[br]? = some (.cells (c4 (fun _ => 0)) 23 (0, 0))
  o : wr.heap[O]? = some (.cells (c4 (limb V)) 23 (0, 0))
  n1 : O ≠ bx
  n2 : O ≠ br
  h1 : w.heap.size ≤ br
  h2 : w.heap.size ≤ O
  b : Below w.heap.size w wr

theorem BI.drew {w wr : World} {bx br O A V : Nat} (I : BI w wr bx br O A V) : BI w wr.drew bx br O A V := ⟨I.x, I.r, I.o, I.n1, I.n2, I.h1, I.h2, I.b.drew⟩

theorem BI.call {w wr w' : World} {bx br O A V : Nat} (I : BI w wr bx br O A V) (h : Below wr.heap.size wr w') : BI w w' bx br O A V :=
  ⟨(h.block _ (lt_of_block I.x)).trans I.x, (h.block _ (lt_of_block I.r)).trans I.r, (h.block _ (lt_of_block I.o)).trans I.o, I.n1, I.n2, I.h1, I.h2, I.b.trans (h.mono I.b.size)⟩

theorem BI.put {w wr : World} {bx br O A V : Nat} (I : BI w wr bx br O A V) (V' : Nat) : BI w (wr.setCells O 0 (c4 (limb V')).toList) bx br O A V' := by
  have h := But.sets (c4 (limb V')).toList 0 (But.refl O wr)
  have ho := blk_sets (c4 (limb V')).toList 0 I.o
  rw [putAll4] at ho
  exact ⟨(h.same _ (Ne.symm I.n1)).trans I.x, (h.same _ (Ne.symm I.n2)).trans I.r, ho, I.n1, I.n2, I.h1, I.h2, I.b.trans (h.below.mono I.h2)⟩

theorem limb_nought : limb 0 = fun _ => 0 := by funext j; simp [limb]

theorem wv_two (F : Nat) : wv (F % 2 ^ 256) = wv F := wv_congr (by rw [show M256 = 2 ^ 256 by decide, Nat.mod_mod])

end Go.Proofs.Ytpnijncoldihfaa
