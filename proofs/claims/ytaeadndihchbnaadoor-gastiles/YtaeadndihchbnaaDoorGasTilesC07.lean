/-
  A range over a function that gives a known row of values, one behind the other: the round is told which one comes.
-/
import Derived.RangeFuncWrites
import Derived.Test.YtaeadndihchbnaaDoorGasTilesC06
namespace Go.Proofs.YtaeadndihchbnaaDoor
open Go.RowKit Go.Shelf

/-- How a round may be left. -/
def seqPost (B : Nat) (Kp : World → World → Prop) (I : Nat → World → Prop) (Ix : Code → World → Prop) (k : Nat) (W W2 : World) : Exit → Act → World → Prop
  | .normal, _, W3 => KeepsFrom B W2 W3 ∧ Kp W W3 ∧ I (k + 1) W3
  | .ret, _, W3 => KeepsFrom B W2 W3 ∧ Ix .ret W3
  | .exit id, _, W3 => KeepsFrom B W2 W3 ∧ Ix (.exit id) W3
  | .goto t, _, W3 => KeepsFrom B W2 W3 ∧ Ix (.goto t) W3
  | .panic _, _, _ => False
  | .outgrown, _, _ => False

/-- An iterator that gives the values vals 0, .., vals (N - 1), and then ends. -/
def Gives (m : Nat) (P : Program) (gf : Nat) (lb : Array Value) (vals : Nat → Array Value) (N : Nat) (Kp : World → World → Prop) (w : World) : Prop :=
  ∀ (l : Nat) (J : Nat → World → Prop) (Jx : World → Prop) (W : World), Below w.heap.size w W → (∀ k V V', J k V → Below V.heap.size V V' → J k V') → (∀ V V', Jx V → Below V.heap.size V V' → Jx V') →
    (∀ k V, k < N → J k V → YieldAt Fence.wide (m - 1) P l (vals k) V fun e V' => (e = .returned (.bool true) ∧ J (k + 1) V' ∧ Kp V V') ∨ (e = .returned (.bool false) ∧ Jx V')) →
    J 0 W → CallsIn Fence.wide m P gf (#[.func (.yield l) #[] #[]] ++ lb) W fun e W' => (∃ v, e = .returned v) ∧ (J N W' ∨ Jx W')

theorem below_other {W W' : World} (hb : Below W.heap.size W W') {k : Nat} {o : Obj} (h : W.heap[k]? = some o) : W'.heap[k]? = some o := (hb.block k (lt_of_block h)).trans h

theorem range_seq {P : Program} {n : Nat} {g : Operand} {ps : Array Tmp} {assign body : Code} {Q : Exit → Act → World → Prop} {a : Act} {w : World} (h1 : 1 ≤ n) {gf : Nat} {lb : Array Value} (hg : a.eval g = .func (.func gf) #[] lb)
    (eg : ∀ args w, (callFunc gf args).run P w = .ok (.enter gf args) w) (vals : Nat → Array Value) (N : Nat) (hps : ∀ k, (vals k).size = ps.size) (Kp : World → World → Prop) (hgive : Gives (n - 1) P gf lb vals N Kp w)
    (I : Nat → World → Prop) (Ix : Code → World → Prop) (hI : ∀ k V V', I k V → Below V.heap.size V V' → I k V') (hIx : ∀ c V V', Ix c V → Below V.heap.size V V' → Ix c V')
    (hIp : ∀ k V l o o', I k V → w.heap.size ≤ l → V.heap[l]? = some o → o.isCells = false → I k (V.putObj l o')) (hIxp : ∀ c V l o o', Ix c V → w.heap.size ≤ l → V.heap[l]? = some o → o.isCells = false → Ix c (V.putObj l o'))
    (hKp : ∀ V V' l o o', Kp V V' → w.heap.size ≤ l → V'.heap[l]? = some o → o.isCells = false → Kp V (V'.putObj l o')) (h0 : I 0 w)
    (hround : ∀ (l k : Nat) (W : World), k < N → I k W → w.heap.size ≤ l → (∃ r, W.heap[l]? = some (.loop r)) →
      assign.wpIn (Fence.wide.inRound l) (n - 1 - 1) P (Exit.then (fun a1 W1 => KeepsFrom w.heap.size W W1 ∧ ∀ r, body.wpIn (Fence.wide.inRound l) (n - 1 - 1) P (seqPost w.heap.size Kp I Ix k W (W1.putObj l (.loop r))) a1 (W1.putObj l (.loop r))) (fun _ _ _ => False))
        { tmps := (ps.zip (vals k)).foldl (fun t (p, v) => t.setIfInBounds p v) a.tmps, defers := [] } W)
    (hdone : ∀ (D : Nat) (W : World), w.heap.size ≤ D → I N W → W.heap[D]? = some (.deferred (some [])) → Q .normal { a with defers := { target := .collected D, args := #[] } :: a.defers } W)
    (hstop : ∀ (D : Nat) (c : Code) (W : World), w.heap.size ≤ D → Ix c W → W.heap[D]? = some (.deferred (some [])) → c.wpIn Fence.wide n P Q { a with defers := { target := .collected D, args := #[] } :: a.defers } W) :
    (Code.rangeFunc g ps assign body).wpIn Fence.wide n P Q a w := by
  refine wpIn_rangeFunc fun fn hfn => ?_
  let rc : LoopState → Option Code → Loop := fun st pe => { state := st, pending := pe, fn, tmps := a.tmps, params := ps, assign, body, defers := w.heap.size }
  have hen : (Instr.enterLoop fn a.tmps ps assign body Fence.wide.round).run P w = .ok (w.heap.size + 1, [{ target := .collected w.heap.size, args := #[] }]) ((w.alloc (.deferred (some []))).alloc (.loop (rc .ready none))) := run_enterLoop_outer (P := P) (w := w) fn a.tmps ps assign body
  generalize hW1 : (w.alloc (.deferred (some []))).alloc (.loop (rc .ready none)) = W1 at hen
  have hb1 : Below w.heap.size w W1 := by
    rw [← hW1]; exact ((Below.refl _ w).alloc (Nat.le_refl _) _).alloc (by simp) _
  have hL : W1.heap[w.heap.size + 1]? = some (.loop (rc .ready none)) := by
    rw [← hW1]
    have := heap_new (w.alloc (.deferred (some []))) (.loop (rc .ready none))
    rwa [World.size_alloc] at this
  have hD : W1.heap[w.heap.size]? = some (.deferred (some [])) := by
    rw [← hW1]; exact (heap_old _ _ (by simp)).trans (heap_new _ _)
  have hI1 : I 0 W1 := hI 0 w W1 h0 hb1
  clear hW1
  refine ⟨w.heap.size + 1, _, W1, { target := .fn (.func gf) lb, args := #[.func (.yield (w.heap.size + 1)) #[] #[]] }, W1, gf, #[.func (.yield (w.heap.size + 1)) #[] #[]] ++ lb, W1, hen, ?_, fun _ _ => trivial, ?_, fun _ => h1, ?_⟩
  · simp only [resolve, hg]
    simp [go_sem]
  · simp [invoke, go_sem, eg]
  · refine (hgive (w.heap.size + 1) (fun k V => I k V ∧ V.heap[w.heap.size + 1]? = some (.loop (rc .ready none)) ∧ V.heap[w.heap.size]? = some (.deferred (some [])))
      (fun V => ∃ c, Ix c V ∧ V.heap[w.heap.size + 1]? = some (.loop (rc .done (some c))) ∧ V.heap[w.heap.size]? = some (.deferred (some []))) W1 hb1
      (fun k V V' h hb => ⟨hI k V V' h.1 hb, below_other hb h.2.1, below_other hb h.2.2⟩) (fun V V' h hb => by
        obtain ⟨c, h1, h2, h3⟩ := h
        exact ⟨c, hIx c V V' h1 hb, below_other hb h2, below_other hb h3⟩) ?_ ⟨hI1, hL, hD⟩).mono ?_
    · rintro k V hk ⟨hi, hl, hd⟩
      refine ⟨fn, _, assign, body, run_yield (P := P) hl (hps k), roundIn_of_wpIn hfn (wpIn_mono (hround (w.heap.size + 1) k V hk hi (by omega) ⟨_, hl⟩) ?_)⟩
      intro e a1 V1 hp
      cases e with
      | normal =>
        obtain ⟨hkf, hbody⟩ := hp
        have hl1 := hkf.same _ _ (by omega) hl rfl
        have hd1 := hkf.same _ _ (Nat.le_refl _) hd rfl
        refine ⟨_, run_beginRound hl1 rfl, ?_⟩
        have hl2 : (V1.putObj (w.heap.size + 1) (.loop { rc .ready none with state := .busy })).heap[w.heap.size + 1]? = some (.loop { rc .ready none with state := .busy }) := World.putObj_heap_same (lt_of_block hl1)
        have hd2 : (V1.putObj (w.heap.size + 1) (.loop { rc .ready none with state := .busy })).heap[w.heap.size]? = some (.deferred (some [])) := (World.putObj_heap_other (by omega)).trans hd1
        refine wpIn_mono (hbody _) ?_
        have fin : ∀ (j : Option Code) (V3 : World), KeepsFrom w.heap.size (V1.putObj (w.heap.size + 1) (.loop { rc .ready none with state := .busy })) V3 →
            ∃ o : Obj, V3.heap[w.heap.size + 1]? = some o ∧ o.isCells = false ∧ (Instr.endRound (w.heap.size + 1) j).run P V3 = .ok (.bool j.isNone) (V3.putObj (w.heap.size + 1) (.loop (rc (if j.isNone then .ready else .done) j))) ∧
              (V3.putObj (w.heap.size + 1) (.loop (rc (if j.isNone then .ready else .done) j))).heap[w.heap.size + 1]? = some (.loop (rc (if j.isNone then .ready else .done) j)) ∧ (V3.putObj (w.heap.size + 1) (.loop (rc (if j.isNone then .ready else .done) j))).heap[w.heap.size]? = some (.deferred (some [])) := fun j V3 hk3 => by
          have hl3 := hk3.same _ _ (by omega) hl2 rfl
          exact ⟨_, hl3, rfl, run_endRound (P := P) j hl3, World.putObj_heap_same (lt_of_block hl3), (World.putObj_heap_other (by omega)).trans (hk3.same _ _ (Nat.le_refl _) hd2 rfl)⟩
        intro e3 a3 V3 hq
        cases e3 with
        | normal =>
          obtain ⟨hk3, hkp, hi3⟩ := hq
          obtain ⟨o, ho, hc, hr, hl4, hd4⟩ := fin none V3 hk3
          exact ⟨_, _, hr, Or.inl ⟨rfl, ⟨hIp _ _ _ _ _ hi3 (by omega) ho hc, hl4, hd4⟩, hKp _ _ _ _ _ hkp (by omega) ho hc⟩⟩
        | ret =>
          obtain ⟨hk3, hi3⟩ := hq
          obtain ⟨o, ho, hc, hr, hl4, hd4⟩ := fin (some .ret) V3 hk3
          exact ⟨_, _, hr, Or.inr ⟨rfl, .ret, hIxp _ _ _ _ _ hi3 (by omega) ho hc, hl4, hd4⟩⟩
        | exit id =>
          obtain ⟨hk3, hi3⟩ := hq
          obtain ⟨o, ho, hc, hr, hl4, hd4⟩ := fin (some (.exit id)) V3 hk3
          exact ⟨_, _, hr, Or.inr ⟨rfl, .exit id, hIxp _ _ _ _ _ hi3 (by omega) ho hc, hl4, hd4⟩⟩
        | goto t =>
          obtain ⟨hk3, hi3⟩ := hq
          obtain ⟨o, ho, hc, hr, hl4, hd4⟩ := fin (some (.goto t)) V3 hk3
          exact ⟨_, _, hr, Or.inr ⟨rfl, .goto t, hIxp _ _ _ _ _ hi3 (by omega) ho hc, hl4, hd4⟩⟩
        | panic ch => exact hq.elim
        | outgrown => exact hq.elim
      | ret => exact hp.elim
      | exit id => exact hp.elim
      | goto t => exact hp.elim
      | panic ch => exact hp.elim
      | outgrown => exact hp.elim
    · rintro e V ⟨⟨v, rfl⟩, (⟨hi, hl, hd⟩ | ⟨c, hi, hl, hd⟩)⟩
      · exact ⟨none, _, run_endLoop (P := P) hl (by intro h; cases h), hdone _ _ (Nat.le_refl _) (hIp _ _ _ _ _ hi (by omega) hl rfl) ((World.putObj_heap_other (by omega)).trans hd)⟩
      · exact ⟨some c, _, run_endLoop (P := P) hl (by intro h; cases h), hstop _ c _ (Nat.le_refl _) (hIxp _ _ _ _ _ hi (by omega) hl rfl) ((World.putObj_heap_other (by omega)).trans hd)⟩

end Go.Proofs.YtaeadndihchbnaaDoor
