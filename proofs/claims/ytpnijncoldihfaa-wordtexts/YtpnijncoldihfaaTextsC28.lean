/-
  Any number of calls in a row beside two variables that are made, whichever comes first.
-/
import Derived.Test.YtpnijncoldihfaaTextsC19
namespace Go.Proofs.Ytpnijncoldihfaa
open Go.RowKit Go.Shelf

section
variable {P : Program} {md : Region.Mode} {ops : Array Oper} {Q : Exit → Act → World → Prop} {S : World → Prop}

/-- A stage of a region that may end at several states. -/
theorem wpAnyH_stageE {Φ : Nat → Array Bool → Act → World → Prop}
    (hstep : ∀ k listed a w, Φ k listed a w → wpAnyH P md ops Q S k listed a w ∨ ∃ k', k = k' + 1 ∧ Region.ready md ops listed ≠ [] ∧ ∀ i ∈ Region.ready md ops listed, wpOp P ops Q i (fun a' w' => S w' ∧ Φ k' (listed.setIfInBounds i true) a' w') a w) :
    ∀ k listed a w, Φ k listed a w → wpAnyH P md ops Q S k listed a w := by
  intro k
  induction k with
  | zero =>
    intro listed a w h
    rcases hstep 0 listed a w h with h | ⟨k', e, _⟩
    · exact h
    · cases e
  | succ k ih =>
    intro listed a w h
    rcases hstep (k + 1) listed a w h with h | ⟨k', e, h1, h2⟩
    · exact h
    · cases e
      exact ⟨fun h0 => absurd h0 h1, fun i hi => wpOp_mono (fun a' w' h' => ⟨h'.1, ih _ a' w' h'.2⟩) (h2 i hi)⟩

end

/-- The slots behind so many calls. -/
def TC (cd : Nat → Nat) (V : Nat → Value) (l : List Value) : Nat → List Value
  | 0 => l
  | i + 1 => (TC cd V l i).set (cd i) (V i)

/-- The slots of a state. -/
def TF (d1 d2 : Nat) (l : List Value) (p q : Option Nat) : List Value := setO d2 q (setO d1 p l)

/-- One if it is made. -/
def one? (p : Option Nat) : Nat := if p.isSome then 1 else 0

section
variable {d1 d2 : Nat} {l : List Value} {p q : Option Nat}
theorem TF_get {x : Nat} (h1 : x ≠ d1) (h2 : x ≠ d2) : (TF d1 d2 l p q)[x]? = l[x]? := by
  unfold TF
  rw [setO_get (Ne.symm h2), setO_get (Ne.symm h1)]

theorem TF_set {d : Nat} {v : Value} (h1 : d1 ≠ d) (h2 : d2 ≠ d) : (TF d1 d2 l p q).set d v = TF d1 d2 (l.set d v) p q := by
  unfold TF
  rw [setO_set h2, setO_set h1]

theorem TF_p (h : d1 ≠ d2) (b : Nat) : (TF d1 d2 l none q).set d1 (.pointer (some ⟨b, 0, none⟩)) = TF d1 d2 l (some b) q := by
  unfold TF
  rw [setO_set (Ne.symm h)]
  rfl

theorem TF_q (b : Nat) : (TF d1 d2 l p none).set d2 (.pointer (some ⟨b, 0, none⟩)) = TF d1 d2 l p (some b) := rfl

end

/-- Which operations may come up, state by state. -/
def chkN (md : Region.Mode) (ops : Array Oper) (n : Nat) (ci : Nat → Nat) (a1 a2 : Nat) (L : Nat → Bool → Bool → Array Bool) : Bool :=
  (List.range n).all fun i => [false, true].all fun p => [false, true].all fun q =>
    !(Region.ready md ops (L i p q)).isEmpty && ((Region.ready md ops (L i p q)).all fun j => j == ci i || (j == a1 && !p) || (j == a2 && !q)) &&
    decide ((L i p q).setIfInBounds (ci i) true = L (i + 1) p q) && decide ((L i false q).setIfInBounds a1 true = L i true q) && decide ((L i p false).setIfInBounds a2 true = L i p true)

/-- Which operations may come up behind the calls. -/
def chk2 (md : Region.Mode) (ops : Array Oper) (a1 a2 : Nat) (L : Bool → Bool → Array Bool) : Bool :=
  [false, true].all fun p => [false, true].all fun q => (p && q) ||
    (!(Region.ready md ops (L p q)).isEmpty && ((Region.ready md ops (L p q)).all fun j => (j == a1 && !p) || (j == a2 && !q)) &&
    decide ((L false q).setIfInBounds a1 true = L true q) && decide ((L p false).setIfInBounds a2 true = L p true))

/-- A state of the calls. -/
structure StN (zc : Array Value) (t d1 d2 : Nat) (cd : Nat → Nat) (V : Nat → Value) (L : Nat → Bool → Bool → Array Bool) (l : List Value) (ds : List Deferred) (W0 : World) (n m k : Nat) (listed : Array Bool) (a : Act) (w : World) (i : Nat) (p q : Option Nat) : Prop where
  i2 : i ≤ n
  k : k + i + one? p + one? q = m
  listed : listed = L i p.isSome q.isSome
  a : a = { tmps := (TF d1 d2 (TC cd V l i) p q).toArray, defers := ds }
  b : Below W0.heap.size W0 w
  fp : FreshZ zc t W0.heap.size w p
  fq : FreshZ zc t W0.heap.size w q
  pq : Apart p q

theorem not_isEmpty {α : Type} {l : List α} (h : (!l.isEmpty) = true) : l ≠ [] := fun e => by rw [e] at h; cases h

theorem regionN {P : Program} {md : Region.Mode} {ops : Array Oper} {Q : Exit → Act → World → Prop} {W0 w : World} {l : List Value} {ds : List Deferred} {r : Nat} {listed : Array Bool} (n : Nat) (ci cd : Nat → Nat) (V : Nat → Value) (L : Nat → Bool → Bool → Array Bool) (zc : Array Value) (t a1 a2 d1 d2 : Nat)
    (hchk : chkN md ops n ci a1 a2 L = true) (hd : d1 ≠ d2) (hcd : ∀ i, i < n → d1 ≠ cd i ∧ d2 ≠ cd i) (hlisted : listed = L 0 false false) (hw : Below W0.heap.size W0 w)
    (hc : ∀ i, i < n → ∀ (T : List Value) (w : World) (K : Act → World → Prop), (∀ x, x ≠ d1 → x ≠ d2 → T[x]? = (TC cd V l i)[x]?) → (∀ w', Below w.heap.size w w' → K { tmps := (T.set (cd i) (V i)).toArray, defers := ds } w') → wpOp P ops Q (ci i) K { tmps := T.toArray, defers := ds } w)
    (h1 : ∀ (T : List Value) (w : World) (K : Act → World → Prop), K { tmps := (T.set d1 (.pointer (some ⟨w.heap.size, 0, none⟩))).toArray, defers := ds } (w.alloc (.cells zc t (0, 0))) → wpOp P ops Q a1 K { tmps := T.toArray, defers := ds } w)
    (h2 : ∀ (T : List Value) (w : World) (K : Act → World → Prop), K { tmps := (T.set d2 (.pointer (some ⟨w.heap.size, 0, none⟩))).toArray, defers := ds } (w.alloc (.cells zc t (0, 0))) → wpOp P ops Q a2 K { tmps := T.toArray, defers := ds } w)
    (hend : ∀ (k : Nat) (w : World) (p q : Option Nat), k + one? p + one? q = r + 2 → Below W0.heap.size W0 w → FreshZ zc t W0.heap.size w p → FreshZ zc t W0.heap.size w q → Apart p q →
      wpAnyH P md ops Q (fun V => Below W0.heap.size W0 V) k (L n p.isSome q.isSome) { tmps := (TF d1 d2 (TC cd V l n) p q).toArray, defers := ds } w) :
    wpAnyH P md ops Q (fun V => Below W0.heap.size W0 V) (r + 2 + n) listed { tmps := l.toArray, defers := ds } w := by
  refine wpAnyH_stageE (Φ := fun k listed a w => ∃ i p q, StN zc t d1 d2 cd V L l ds W0 n (r + 2 + n) k listed a w i p q) ?_ (r + 2 + n) listed _ w ⟨0, none, none, ⟨by omega, by simp [one?], hlisted, rfl, hw, FreshZ.none, FreshZ.none, Apart.none1⟩⟩
  rintro k listed a w ⟨i, p, q, I⟩
  obtain ⟨hi2, hk, hli, ha, hb, fp, fq, pq⟩ := I
  subst hli ha
  by_cases hin : i = n
  · subst hin
    exact Or.inl (hend k w p q (by omega) hb fp fq pq)
  · have hlt : i < n := by omega
    have hbb : ∀ b : Bool, b ∈ [false, true] := fun b => by cases b <;> simp
    have g := List.all_eq_true.1 (List.all_eq_true.1 (List.all_eq_true.1 hchk i (List.mem_range.2 hlt)) p.isSome (hbb _)) q.isSome (hbb _)
    simp only [Bool.and_eq_true, decide_eq_true_eq] at g
    obtain ⟨⟨⟨⟨g1, g2⟩, g3⟩, g4⟩, g5⟩ := g
    have hone : one? p ≤ 1 ∧ one? q ≤ 1 := by unfold one?; constructor <;> split <;> omega
    obtain ⟨k', rfl⟩ : ∃ k', k = k' + 1 := ⟨k - 1, by omega⟩
    refine Or.inr ⟨k', rfl, not_isEmpty g1, fun j hj => ?_⟩
    have g6 := List.all_eq_true.1 g2 j hj
    simp only [Bool.or_eq_true, Bool.and_eq_true, beq_iff_eq, Bool.not_eq_true'] at g6
    rcases g6 with (rfl | ⟨rfl, hn⟩) | ⟨rfl, hn⟩
    · refine hc i hlt _ w _ (fun x x1 x2 => TF_get x1 x2) (fun w' hb' => ⟨hb.trans (hb'.mono hb.size), i + 1, p, q, ⟨hlt, by omega, g3, by rw [TF_set (hcd i hlt).1 (hcd i hlt).2]; rfl, hb.trans (hb'.mono hb.size), fp.call hb', fq.call hb', pq⟩⟩)
    · have e : p = none := by cases p with | none => rfl | some _ => cases hn
      subst e
      refine h1 _ w _ ⟨hb.alloc hb.size _, i, (some w.heap.size), q, ⟨hi2, by simp [one?] at hk ⊢; omega, g4, by rw [TF_p hd], hb.alloc hb.size _, FreshZ.new hb.size, fq.alloc _, fq.apart⟩⟩
    · have e : q = none := by cases q with | none => rfl | some _ => cases hn
      subst e
      refine h2 _ w _ ⟨hb.alloc hb.size _, i, p, (some w.heap.size), ⟨hi2, by simp [one?] at hk ⊢; omega, g5, by rw [TF_q], hb.alloc hb.size _, fp.alloc _, FreshZ.new hb.size, fp.apart.symm⟩⟩

/-- A state behind the calls. -/
structure St2 (zc : Array Value) (t d1 d2 : Nat) (L : Bool → Bool → Array Bool) (l : List Value) (ds : List Deferred) (W0 : World) (m k : Nat) (listed : Array Bool) (a : Act) (w : World) (p q : Option Nat) : Prop where
  k : k + one? p + one? q = m
  listed : listed = L p.isSome q.isSome
  a : a = { tmps := (TF d1 d2 l p q).toArray, defers := ds }
  b : Below W0.heap.size W0 w
  fp : FreshZ zc t W0.heap.size w p
  fq : FreshZ zc t W0.heap.size w q
  pq : Apart p q

theorem region2 {P : Program} {md : Region.Mode} {ops : Array Oper} {Q : Exit → Act → World → Prop} {W0 w : World} {l : List Value} {ds : List Deferred} {r k : Nat} {p q : Option Nat} {listed : Array Bool} (L : Bool → Bool → Array Bool) (zc : Array Value) (t a1 a2 d1 d2 : Nat)
    (hchk : chk2 md ops a1 a2 L = true) (hd : d1 ≠ d2) (hlisted : listed = L p.isSome q.isSome) (hk : k + one? p + one? q = r + 2) (hw : Below W0.heap.size W0 w) (fp : FreshZ zc t W0.heap.size w p) (fq : FreshZ zc t W0.heap.size w q) (pq : Apart p q)
    (h1 : ∀ (T : List Value) (w : World) (K : Act → World → Prop), K { tmps := (T.set d1 (.pointer (some ⟨w.heap.size, 0, none⟩))).toArray, defers := ds } (w.alloc (.cells zc t (0, 0))) → wpOp P ops Q a1 K { tmps := T.toArray, defers := ds } w)
    (h2 : ∀ (T : List Value) (w : World) (K : Act → World → Prop), K { tmps := (T.set d2 (.pointer (some ⟨w.heap.size, 0, none⟩))).toArray, defers := ds } (w.alloc (.cells zc t (0, 0))) → wpOp P ops Q a2 K { tmps := T.toArray, defers := ds } w)
    (hend : ∀ (w : World) (b1 b2 : Nat), Below W0.heap.size W0 w → W0.heap.size ≤ b1 → W0.heap.size ≤ b2 → w.heap[b1]? = some (.cells zc t (0, 0)) → w.heap[b2]? = some (.cells zc t (0, 0)) → b1 ≠ b2 →
      wpAnyH P md ops Q (fun V => Below W0.heap.size W0 V) r (L true true) { tmps := ((l.set d1 (.pointer (some ⟨b1, 0, none⟩))).set d2 (.pointer (some ⟨b2, 0, none⟩))).toArray, defers := ds } w) :
    wpAnyH P md ops Q (fun V => Below W0.heap.size W0 V) k listed { tmps := (TF d1 d2 l p q).toArray, defers := ds } w := by
  refine wpAnyH_stageE (Φ := fun k listed a w => ∃ p q, St2 zc t d1 d2 L l ds W0 (r + 2) k listed a w p q) ?_ k listed _ w ⟨p, q, ⟨hk, hlisted, rfl, hw, fp, fq, pq⟩⟩
  clear hlisted hk hw fp fq pq
  rintro k listed a w ⟨p, q, I⟩
  obtain ⟨hk, hli, ha, hb, fp, fq, pq⟩ := I
  subst hli ha
  by_cases hx : p.isSome = true ∧ q.isSome = true
  · obtain ⟨e1, e2⟩ := hx
    obtain ⟨b1, rfl⟩ := Option.isSome_iff_exists.1 e1
    obtain ⟨b2, rfl⟩ := Option.isSome_iff_exists.1 e2
    have e : k = r := by simp [one?] at hk; omega
    subst e
    exact Or.inl (hend w b1 b2 hb (fp b1 rfl).1 (fq b2 rfl).1 (fp b1 rfl).2 (fq b2 rfl).2 (pq _ _ rfl rfl))
  · have hbb : ∀ b : Bool, b ∈ [false, true] := fun b => by cases b <;> simp
    have g := List.all_eq_true.1 (List.all_eq_true.1 hchk p.isSome (hbb _)) q.isSome (hbb _)
    simp only [Bool.or_eq_true, Bool.and_eq_true, decide_eq_true_eq] at g
    rcases g with g | ⟨⟨⟨g1, g2⟩, g4⟩, g5⟩
    · exact absurd g hx
    · have hone : one? p + one? q ≤ 1 := by
        unfold one?
        cases hp : p.isSome <;> cases hq : q.isSome <;> simp [hp, hq] at hx ⊢
      obtain ⟨k', rfl⟩ : ∃ k', k = k' + 1 := ⟨k - 1, by omega⟩
      refine Or.inr ⟨k', rfl, not_isEmpty g1, fun j hj => ?_⟩
      have g6 := List.all_eq_true.1 g2 j hj
      simp only [Bool.or_eq_true, Bool.and_eq_true, beq_iff_eq, Bool.not_eq_true'] at g6
      rcases g6 with ⟨rfl, hn⟩ | ⟨rfl, hn⟩
      · have e : p = none := by cases p with | none => rfl | some _ => cases hn
        subst e
        refine h1 _ w _ ⟨hb.alloc hb.size _, (some w.heap.size), q, ⟨by simp [one?] at hk ⊢; omega, g4, by rw [TF_p hd], hb.alloc hb.size _, FreshZ.new hb.size, fq.alloc _, fq.apart⟩⟩
      · have e : q = none := by cases q with | none => rfl | some _ => cases hn
        subst e
        refine h2 _ w _ ⟨hb.alloc hb.size _, p, (some w.heap.size), ⟨by simp [one?] at hk ⊢; omega, g5, by rw [TF_q], hb.alloc hb.size _, fp.alloc _, FreshZ.new hb.size, fp.apart.symm⟩⟩

/-- An operation that yields its value at once, whatever variables are made. -/
theorem wpAnyH_takeO {P : Program} {l : List Oper} {Q : Exit → Act → World → Prop} {md : Region.Mode} {S : World → Prop} {i d : Nat} {oi : Oper} {v : Value} {fuel : Nat} {L : Bool → Bool → Array Bool} {d1 d2 : Nat} {p q : Option Nat} {lc : List Value} {ds : List Deferred} {w : World} (hi : l[i]? = some oi) (hd : oi.dst = some d) (hd1 : d1 ≠ d) (hd2 : d2 ≠ d)
    (hs : Region.noSelect l.toArray = true) (hf : ∀ p q, Region.free md l.toArray (L p q) i = true) (hr : ∀ p q, (Region.ready md l.toArray (L p q)).contains i = true)
    (hQ : ∀ c a w, Q (.panic c) (a.put oi.dst v) w → Q (.panic c) a w) (hy : ∀ T : List Value, (∀ x, x ≠ d1 → x ≠ d2 → T[x]? = lc[x]?) → YieldsIf P l.toArray S oi v { tmps := T.toArray, defers := ds }) (hS : S w)
    (h : wpAnyH P md l.toArray Q S fuel ((L p.isSome q.isSome).setIfInBounds i true) { tmps := (TF d1 d2 (lc.set d v) p q).toArray, defers := ds } w) : wpAnyH P md l.toArray Q S (fuel + 1) (L p.isSome q.isSome) { tmps := (TF d1 d2 lc p q).toArray, defers := ds } w := by
  refine wpAnyH_takeL hi hs (hf _ _) (hr _ _) hQ (hy _ (fun x h1 h2 => TF_get h1 h2)) hS ?_
  rw [hd, put_list, TF_set hd1 hd2]
  exact h

end Go.Proofs.Ytpnijncoldihfaa
