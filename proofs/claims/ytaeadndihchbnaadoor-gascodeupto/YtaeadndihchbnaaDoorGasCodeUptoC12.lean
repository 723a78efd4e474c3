/-
  A range over a function that gives a known row of values and is left by nobody: the function may itself range over another one, for the rounds keep what it laid behind this loop.
-/
import Derived.Test.YtaeadndihchbnaaDoorGasCodeUptoC11
namespace Go.Proofs.YtaeadndihchbnaaDoor
open Go.RowKit Go.Shelf

/-- A round that goes on. -/
def onPost (B : Nat) (Kp : World → World → Prop) (I : Nat → World → Prop) (k : Nat) (W W2 : World) : Exit → Act → World → Prop
  | .normal, _, W3 => KeepsFrom B W2 W3 ∧ Kp W W3 ∧ I (k + 1) W3
  | _, _, _ => False

/-- An iterator that gives the values vals 0, .., vals (N - 1), and then ends; it may lay loops of its own behind the one that ranges over it. -/
def Gives2 (m : Nat) (P : Program) (gf : Nat) (lb : Array Value) (vals : Nat → Array Value) (N : Nat) (Kp : World → World → Prop) (w : World) : Prop :=
  ∀ (l : Nat) (J : Nat → World → Prop) (W : World), w.heap.size + 2 ≤ W.heap.size → Below w.heap.size w W → (∀ k V V', J k V → Below V.heap.size V V' → J k V') →
    (∀ k V b o o', J k V → w.heap.size + 2 ≤ b → V.heap[b]? = some o → o.isCells = false → J k (V.putObj b o')) →
    (∀ k V, k < N → J k V → YieldAt Fence.wide (m - 1) P l (vals k) V fun e V' => e = .returned (.bool true) ∧ J (k + 1) V' ∧ Kp V V') →
    J 0 W → CallsIn Fence.wide m P gf (#[.func (.yield l) #[] #[]] ++ lb) W fun e W' => (∃ v, e = .returned v) ∧ J N W'

/-- What a yield does it does in a round too. -/
theorem round_any {m m' l' : Nat} {P : Program} {l f : Nat} {tmps : Array Value} {assign body : Code} {W : World} {R : Ending → World → Prop} (h : RoundIn Fence.wide m P l f tmps assign body W R) : RoundIn (Fence.wide.inRound l') m' P l f tmps assign body W R :=
  ⟨h.1, fun c cs _ => h.2 c cs (room_wide _)⟩

theorem range_seq2 {P : Program} {n : Nat} {g : Operand} {ps : Array Tmp} {assign body : Code} {Q : Exit → Act → World → Prop} {a : Act} {w : World} (h1 : 1 ≤ n) {gf : Nat} {lb : Array Value} (hg : a.eval g = .func (.func gf) #[] lb)
    (eg : ∀ args w, (callFunc gf args).run P w = .ok (.enter gf args) w) (vals : Nat → Array Value) (N : Nat) (hps : ∀ k, (vals k).size = ps.size) (Kp : World → World → Prop) (hgive : Gives2 (n - 1) P gf lb vals N Kp w)
    (I : Nat → World → Prop) (hI : ∀ k V V', I k V → Below V.heap.size V V' → I k V')
    (hIp : ∀ k V l o o', I k V → w.heap.size ≤ l → V.heap[l]? = some o → o.isCells = false → I k (V.putObj l o'))
    (hKp : ∀ V V' l o o', Kp V V' → l = w.heap.size + 1 → V'.heap[l]? = some o → o.isCells = false → Kp V (V'.putObj l o')) (h0 : I 0 w)
    (hround : ∀ (l k : Nat) (W : World), k < N → I k W → l = w.heap.size + 1 → (∃ r, W.heap[l]? = some (.loop r)) →
      assign.wpIn (Fence.wide.inRound l) (n - 1 - 1) P (Exit.then (fun a1 W1 => KeepsFrom w.heap.size W W1 ∧ ∀ r, body.wpIn (Fence.wide.inRound l) (n - 1 - 1) P (onPost w.heap.size Kp I k W (W1.putObj l (.loop r))) a1 (W1.putObj l (.loop r))) (fun _ _ _ => False))
        { tmps := (ps.zip (vals k)).foldl (fun t (p, v) => t.setIfInBounds p v) a.tmps, defers := [] } W)
    (hdone : ∀ (D : Nat) (W : World), w.heap.size ≤ D → I N W → W.heap[D]? = some (.deferred (some [])) → Q .normal { a with defers := { target := .collected D, args := #[] } :: a.defers } W) :
    (Code.rangeFunc g ps assign body).wpIn Fence.wide n P Q a w := by
  refine wpIn_rangeFunc fun fn hfn => ?_
  let rc : LoopState → Option Code → Loop := fun st pe => { state := st, pending := pe, fn, tmps := a.tmps, params := ps, assign, body, defers := w.heap.size }
  have hen : (Instr.enterLoop fn a.tmps ps assign body Fence.wide.round).run P w = .ok (w.heap.size + 1, [{ target := .collected w.heap.size, args := #[] }]) ((w.alloc (.deferred (some []))).alloc (.loop (rc .ready none))) := run_enterLoop_outer (P := P) (w := w) fn a.tmps ps assign body
  generalize hW1 : (w.alloc (.deferred (some []))).alloc (.loop (rc .ready none)) = W1 at hen
  have hb1 : Below w.heap.size w W1 := by
    rw [← hW1]; exact ((Below.refl _ w).alloc (Nat.le_refl _) _).alloc (by simp) _
  have hL : W1.heap[w.heap.size + 1]? = some (.loop (rc .ready none)) := by
    rw [← hW1]
    have := heap_new (w.alloc (.deferred (some []))) (.loop (rc .ready none))
    rwa [World.size_alloc] at this
  have hD : W1.heap[w.heap.size]? = some (.deferred (some [])) := by
    rw [← hW1]; exact (heap_old _ _ (by simp)).trans (heap_new _ _)
  have hI1 : I 0 W1 := hI 0 w W1 h0 hb1
  have hs1 : w.heap.size + 2 ≤ W1.heap.size := by rw [← hW1]; simp
  clear hW1
  refine ⟨w.heap.size + 1, _, W1, { target := .fn (.func gf) lb, args := #[.func (.yield (w.heap.size + 1)) #[] #[]] }, W1, gf, #[.func (.yield (w.heap.size + 1)) #[] #[]] ++ lb, W1, hen, ?_, fun _ _ => trivial, ?_, fun _ => h1, ?_⟩
  · simp only [resolve, hg]
    simp [go_sem]
  · simp [invoke, go_sem, eg]
  · refine (hgive (w.heap.size + 1) (fun k V => I k V ∧ V.heap[w.heap.size + 1]? = some (.loop (rc .ready none)) ∧ V.heap[w.heap.size]? = some (.deferred (some [])))
      W1 hs1 hb1
      (fun k V V' h hb => ⟨hI k V V' h.1 hb, below_other hb h.2.1, below_other hb h.2.2⟩)
      (fun k V b o o' h hb h1 h2 => ⟨hIp k V b o o' h.1 (by omega) h1 h2, (World.putObj_heap_other (by omega)).trans h.2.1, (World.putObj_heap_other (by omega)).trans h.2.2⟩) ?_ ⟨hI1, hL, hD⟩).mono ?_
    · rintro k V hk ⟨hi, hl, hd⟩
      refine ⟨fn, _, assign, body, run_yield (P := P) hl (hps k), roundIn_of_wpIn hfn (wpIn_mono (hround (w.heap.size + 1) k V hk hi rfl ⟨_, hl⟩) ?_)⟩
      intro e a1 V1 hp
      cases e with
      | normal =>
        obtain ⟨hkf, hbody⟩ := hp
        have hl1 := hkf.same _ _ (by omega) hl rfl
        have hd1 := hkf.same _ _ (Nat.le_refl _) hd rfl
        refine ⟨_, run_beginRound hl1 rfl, ?_⟩
        have hl2 : (V1.putObj (w.heap.size + 1) (.loop { rc .ready none with state := .busy })).heap[w.heap.size + 1]? = some (.loop { rc .ready none with state := .busy }) := World.putObj_heap_same (lt_of_block hl1)
        have hd2 : (V1.putObj (w.heap.size + 1) (.loop { rc .ready none with state := .busy })).heap[w.heap.size]? = some (.deferred (some [])) := (World.putObj_heap_other (by omega)).trans hd1
        refine wpIn_mono (hbody _) ?_
        intro e3 a3 V3 hq
        cases e3 with
        | normal =>
          obtain ⟨hk3, hkp, hi3⟩ := hq
          have hl3 := hk3.same _ _ (by omega) hl2 rfl
          refine ⟨_, _, run_endRound (P := P) none hl3, ⟨rfl, ⟨hIp _ _ _ _ _ hi3 (by omega) hl3 rfl, World.putObj_heap_same (lt_of_block hl3), (World.putObj_heap_other (by omega)).trans (hk3.same _ _ (Nat.le_refl _) hd2 rfl)⟩, hKp _ _ _ _ _ hkp rfl hl3 rfl⟩⟩
        | ret => exact hq.elim
        | exit id => exact hq.elim
        | goto t => exact hq.elim
        | panic ch => exact hq.elim
        | outgrown => exact hq.elim
      | ret => exact hp.elim
      | exit id => exact hp.elim
      | goto t => exact hp.elim
      | panic ch => exact hp.elim
      | outgrown => exact hp.elim
    · rintro e V ⟨⟨v, rfl⟩, hi, hl, hd⟩
      exact ⟨none, _, run_endLoop (P := P) hl (by intro h; cases h), hdone _ _ (Nat.le_refl _) (hIp _ _ _ _ _ hi (by omega) hl rfl) ((World.putObj_heap_other (by omega)).trans hd)⟩

end Go.Proofs.YtaeadndihchbnaaDoor
