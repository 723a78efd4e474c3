/-
  A range over a function that writes to boxes of its own: what whoever ranges holds lies below the loop.
-/
import Derived.Test.YtigebmidfddbcaaReadL
namespace Go.Proofs.Ytigebmidfddbcaa
open Go.RowKit Go.Shelf

/-- An iterator that gives the values vals 0, .., vals (N - 1), and then ends. -/
def GivesE (m : Nat) (P : Program) (gf : Nat) (lb : Array Value) (vals : Nat → Array Value) (N : Nat) (Kp : World → World → Prop) (w : World) : Prop :=
  ∀ (J : Nat → World → Prop) (Jx : World → Prop) (W : World), Below w.heap.size w W → w.heap.size + 2 ≤ W.heap.size → (∀ k V V', J k V → Below (w.heap.size + 2) V V' → J k V') → (∀ V V', Jx V → Below (w.heap.size + 2) V V' → Jx V') →
    (∀ k V, k < N → J k V → YieldAt Fence.wide (m - 1) P (w.heap.size + 1) (vals k) V fun e V' => (e = .returned (.bool true) ∧ J (k + 1) V' ∧ Kp V V') ∨ (e = .returned (.bool false) ∧ Jx V' ∧ KeepsFrom (w.heap.size + 2) V V')) →
    J 0 W → CallsIn Fence.wide m P gf (#[.func (.yield (w.heap.size + 1)) #[] #[]] ++ lb) W fun e W' => (∃ v, e = .returned v) ∧ (J N W' ∨ Jx W')

theorem range_seqE {P : Program} {n : Nat} {g : Operand} {ps : Array Tmp} {assign body : Code} {Q : Exit → Act → World → Prop} {a : Act} {w : World} (h1 : 1 ≤ n) {gf : Nat} {lb : Array Value} (hg : a.eval g = .func (.func gf) #[] lb)
    (eg : ∀ args w, (callFunc gf args).run P w = .ok (.enter gf args) w) (vals : Nat → Array Value) (N : Nat) (hps : ∀ k, (vals k).size = ps.size) (Kp : World → World → Prop) (hgive : GivesE (n - 1) P gf lb vals N Kp w)
    (I : Nat → World → Prop) (Ix : Code → World → Prop) (hI : ∀ k V V', I k V → Below w.heap.size V V' → I k V') (hIx : ∀ c V V', Ix c V → Below w.heap.size V V' → Ix c V')
    (hKp : ∀ V V' o o', Kp V V' → V'.heap[w.heap.size + 1]? = some o → o.isCells = false → Kp V (V'.putObj (w.heap.size + 1) o')) (h0 : I 0 w)
    (hround : ∀ (k : Nat) (W : World), k < N → I k W → (∃ r, W.heap[w.heap.size + 1]? = some (.loop r)) →
      assign.wpIn (Fence.wide.inRound (w.heap.size + 1)) (n - 1 - 1) P (Exit.then (fun a1 W1 => KeepsFrom w.heap.size W W1 ∧ ∀ r, body.wpIn (Fence.wide.inRound (w.heap.size + 1)) (n - 1 - 1) P (seqPost w.heap.size Kp I Ix k W (W1.putObj (w.heap.size + 1) (.loop r))) a1 (W1.putObj (w.heap.size + 1) (.loop r))) (fun _ _ _ => False))
        { tmps := (ps.zip (vals k)).foldl (fun t (p, v) => t.setIfInBounds p v) a.tmps, defers := [] } W)
    (hdone : ∀ (W : World), I N W → W.heap[w.heap.size]? = some (.deferred (some [])) → Q .normal { a with defers := { target := .collected w.heap.size, args := #[] } :: a.defers } W)
    (hstop : ∀ (c : Code) (W : World), Ix c W → W.heap[w.heap.size]? = some (.deferred (some [])) → c.wpIn Fence.wide n P Q { a with defers := { target := .collected w.heap.size, args := #[] } :: a.defers } W) :
    (Code.rangeFunc g ps assign body).wpIn Fence.wide n P Q a w := by
  refine wpIn_rangeFunc fun fn hfn => ?_
  let rc : LoopState → Option Code → Loop := fun st pe => { state := st, pending := pe, fn, tmps := a.tmps, params := ps, assign, body, defers := w.heap.size }
  have hen : (Instr.enterLoop fn a.tmps ps assign body Fence.wide.round).run P w = .ok (w.heap.size + 1, [{ target := .collected w.heap.size, args := #[] }]) ((w.alloc (.deferred (some []))).alloc (.loop (rc .ready none))) := run_enterLoop_outer (P := P) (w := w) fn a.tmps ps assign body
  have hsW1 : ((w.alloc (.deferred (some []))).alloc (.loop (rc .ready none))).heap.size = w.heap.size + 2 := by simp
  generalize hW1 : (w.alloc (.deferred (some []))).alloc (.loop (rc .ready none)) = W1 at hen hsW1
  have hb1 : Below w.heap.size w W1 := by
    rw [← hW1]; exact ((Below.refl _ w).alloc (Nat.le_refl _) _).alloc (by simp) _
  have hL : W1.heap[w.heap.size + 1]? = some (.loop (rc .ready none)) := by
    rw [← hW1]
    have := heap_new (w.alloc (.deferred (some []))) (.loop (rc .ready none))
    rwa [World.size_alloc] at this
  have hD : W1.heap[w.heap.size]? = some (.deferred (some [])) := by
    rw [← hW1]; exact (heap_old _ _ (by simp)).trans (heap_new _ _)
  have hI1 : I 0 W1 := hI 0 w W1 h0 hb1
  clear hW1
  refine ⟨w.heap.size + 1, _, W1, { target := .fn (.func gf) lb, args := #[.func (.yield (w.heap.size + 1)) #[] #[]] }, W1, gf, #[.func (.yield (w.heap.size + 1)) #[] #[]] ++ lb, W1, hen, ?_, fun _ _ => trivial, ?_, fun _ => h1, ?_⟩
  · simp only [resolve, hg]
    simp [go_sem]
  · simp [invoke, go_sem, eg]
  · refine (hgive (fun k V => I k V ∧ V.heap[w.heap.size + 1]? = some (.loop (rc .ready none)) ∧ V.heap[w.heap.size]? = some (.deferred (some [])))
      (fun V => ∃ c, Ix c V ∧ V.heap[w.heap.size + 1]? = some (.loop (rc .done (some c))) ∧ V.heap[w.heap.size]? = some (.deferred (some []))) W1 hb1 (by omega)
      (fun k V V' h hb => ⟨hI k V V' h.1 (hb.mono (by omega)), (hb.block _ (by omega)).trans h.2.1, (hb.block _ (by omega)).trans h.2.2⟩) (fun V V' h hb => by
        obtain ⟨c, h1, h2, h3⟩ := h
        exact ⟨c, hIx c V V' h1 (hb.mono (by omega)), (hb.block _ (by omega)).trans h2, (hb.block _ (by omega)).trans h3⟩) ?_ ⟨hI1, hL, hD⟩).mono ?_
    · rintro k V hk ⟨hi, hl, hd⟩
      refine ⟨fn, _, assign, body, run_yield (P := P) hl (hps k), roundIn_of_wpIn hfn (wpIn_mono (hround k V hk hi ⟨_, hl⟩) ?_)⟩
      intro e a1 V1 hp
      cases e with
      | normal =>
        obtain ⟨hkf, hbody⟩ := hp
        have hl1 := hkf.same _ _ (by omega) hl rfl
        have hd1 := hkf.same _ _ (Nat.le_refl _) hd rfl
        refine ⟨_, run_beginRound hl1 rfl, ?_⟩
        have hl2 : (V1.putObj (w.heap.size + 1) (.loop { rc .ready none with state := .busy })).heap[w.heap.size + 1]? = some (.loop { rc .ready none with state := .busy }) := World.putObj_heap_same (lt_of_block hl1)
        have hd2 : (V1.putObj (w.heap.size + 1) (.loop { rc .ready none with state := .busy })).heap[w.heap.size]? = some (.deferred (some [])) := (World.putObj_heap_other (by omega)).trans hd1
        refine wpIn_mono (hbody _) ?_
        have fin : ∀ (j : Option Code) (V3 : World), KeepsFrom w.heap.size (V1.putObj (w.heap.size + 1) (.loop { rc .ready none with state := .busy })) V3 →
            ∃ o : Obj, V3.heap[w.heap.size + 1]? = some o ∧ o.isCells = false ∧ (Instr.endRound (w.heap.size + 1) j).run P V3 = .ok (.bool j.isNone) (V3.putObj (w.heap.size + 1) (.loop (rc (if j.isNone then .ready else .done) j))) ∧
              (V3.putObj (w.heap.size + 1) (.loop (rc (if j.isNone then .ready else .done) j))).heap[w.heap.size + 1]? = some (.loop (rc (if j.isNone then .ready else .done) j)) ∧ (V3.putObj (w.heap.size + 1) (.loop (rc (if j.isNone then .ready else .done) j))).heap[w.heap.size]? = some (.deferred (some [])) := fun j V3 hk3 => by
          have hl3 := hk3.same _ _ (by omega) hl2 rfl
          exact ⟨_, hl3, rfl, run_endRound (P := P) j hl3, World.putObj_heap_same (lt_of_block hl3), (World.putObj_heap_other (by omega)).trans (hk3.same _ _ (Nat.le_refl _) hd2 rfl)⟩
        have hIp : ∀ k V o', I k V → I k (V.putObj (w.heap.size + 1) o') := fun k V o' h => hI k V _ h (below_putObj _ (by omega))
        have hIxp : ∀ c V o', Ix c V → Ix c (V.putObj (w.heap.size + 1) o') := fun c V o' h => hIx c V _ h (below_putObj _ (by omega))
        have hkx : ∀ (V3 : World) (o' : Obj), KeepsFrom w.heap.size (V1.putObj (w.heap.size + 1) (.loop { rc .ready none with state := .busy })) V3 → KeepsFrom (w.heap.size + 2) V (V3.putObj (w.heap.size + 1) o') := fun V3 o' h3 =>
          ⟨Nat.le_trans hkf.size (by have := h3.size; simpa using this), fun b o hb h0 hc => (World.putObj_heap_other (by omega)).trans (h3.same b o (by omega) ((World.putObj_heap_other (by omega)).trans (hkf.same b o (by omega) h0 hc)) hc)⟩
        intro e3 a3 V3 hq
        cases e3 with
        | normal =>
          obtain ⟨hk3, hkp, hi3⟩ := hq
          obtain ⟨o, ho, hc, hr, hl4, hd4⟩ := fin none V3 hk3
          exact ⟨_, _, hr, Or.inl ⟨rfl, ⟨hIp _ _ _ hi3, hl4, hd4⟩, hKp _ _ _ _ hkp ho hc⟩⟩
        | ret =>
          obtain ⟨hk3, hi3⟩ := hq
          obtain ⟨o, ho, hc, hr, hl4, hd4⟩ := fin (some .ret) V3 hk3
          exact ⟨_, _, hr, Or.inr ⟨rfl, ⟨.ret, hIxp _ _ _ hi3, hl4, hd4⟩, hkx _ _ hk3⟩⟩
        | exit id =>
          obtain ⟨hk3, hi3⟩ := hq
          obtain ⟨o, ho, hc, hr, hl4, hd4⟩ := fin (some (.exit id)) V3 hk3
          exact ⟨_, _, hr, Or.inr ⟨rfl, ⟨.exit id, hIxp _ _ _ hi3, hl4, hd4⟩, hkx _ _ hk3⟩⟩
        | goto t =>
          obtain ⟨hk3, hi3⟩ := hq
          obtain ⟨o, ho, hc, hr, hl4, hd4⟩ := fin (some (.goto t)) V3 hk3
          exact ⟨_, _, hr, Or.inr ⟨rfl, ⟨.goto t, hIxp _ _ _ hi3, hl4, hd4⟩, hkx _ _ hk3⟩⟩
        | panic ch => exact hq.elim
        | outgrown => exact hq.elim
      | ret => exact hp.elim
      | exit id => exact hp.elim
      | goto t => exact hp.elim
      | panic ch => exact hp.elim
      | outgrown => exact hp.elim
    · rintro e V ⟨⟨v, rfl⟩, (⟨hi, hl, hd⟩ | ⟨c, hi, hl, hd⟩)⟩
      · exact ⟨none, _, run_endLoop (P := P) hl (by intro h; cases h), hdone _ (hI _ _ _ hi (below_putObj _ (by omega))) ((World.putObj_heap_other (by omega)).trans hd)⟩
      · exact ⟨some c, _, run_endLoop (P := P) hl (by intro h; cases h), hstop c _ (hIx _ _ _ hi (below_putObj _ (by omega))) ((World.putObj_heap_other (by omega)).trans hd)⟩

end Go.Proofs.Ytigebmidfddbcaa
