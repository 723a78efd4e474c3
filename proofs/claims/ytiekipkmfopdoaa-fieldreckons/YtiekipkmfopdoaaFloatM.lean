/-
  Calls in a row beside one value that is made, and beside two variables, in whatever order.
-/
import Derived.Test.YtiekipkmfopdoaaEnds
namespace Go.Proofs.Ytiekipkmfopdoaa
open Go.RowKit Go.Shelf

def setM (PV : Nat → Value) (d : Nat) (p : Option Nat) (t : List Value) : List Value := match p with | none => t | some b => t.set d (PV b)

theorem setM_set {PV : Nat → Value} {d c : Nat} {p : Option Nat} {t : List Value} {v : Value} (h : d ≠ c) : (setM PV d p t).set c v = setM PV d p (t.set c v) := by
  cases p with
  | none => rfl
  | some b => exact List.set_comm _ _ h

theorem TM_get {PV : Nat → Value} {d s : Nat} {p : Option Nat} {t : List Value} (h : s ≠ d) : (setM PV d p t)[s]? = t[s]? := by
  cases p with
  | none => rfl
  | some b => exact List.getElem?_set_ne (Ne.symm h)

/-- A state of the calls. -/
structure StM (PV : Nat → Value) (zc : Array Value) (t d1 : Nat) (cd : Nat → Nat) (V : Nat → Value) (L : Nat → Bool → Array Bool) (l : List Value) (ds : List Deferred) (W0 : World) (n m k : Nat) (listed : Array Bool) (a : Act) (w : World) (i : Nat) (p : Option Nat) : Prop where
  i2 : i ≤ n
  k : k + i + one? p = m
  listed : listed = L i p.isSome
  a : a = { tmps := (setM PV d1 p (TC cd V l i)).toArray, defers := ds }
  b : Below W0.heap.size W0 w
  fp : FreshZ zc t W0.heap.size w p

theorem TC_get {cd : Nat → Nat} {V : Nat → Value} {l : List Value} {x n : Nat} (hx : ∀ i, i < n → x ≠ cd i) : ∀ i, i ≤ n → (TC cd V l i)[x]? = l[x]?
  | 0, _ => rfl
  | i + 1, h => by
    show ((TC cd V l i).set (cd i) (V i))[x]? = l[x]?
    rw [List.getElem?_set_ne (Ne.symm (hx i (by omega)))]
    exact TC_get hx i (by omega)

/-- An operation that a guard lets through. -/
theorem wanted_of {l : List Oper} {o og : Oper} {T : List Value} {g d : Nat} {b : Bool} (ho : o.guard = some (g, b)) (hg : l[g]? = some og) (hd : og.dst = some d) (ht : T[d]? = some (.bool b)) : Region.wanted o (yielded l.toArray T.toArray) = true := by
  unfold Region.wanted
  rw [ho]
  simp [yielded, hg, hd, ht]

theorem regionM {P : Program} {md : Region.Mode} {ops : Array Oper} {Q : Exit → Act → World → Prop} {W0 w : World} {l : List Value} {ds : List Deferred} {r : Nat} {listed : Array Bool} (PV : Nat → Value) (n : Nat) (ci cd : Nat → Nat) (V : Nat → Value) (L : Nat → Bool → Array Bool) (zc : Array Value) (t a1 d1 : Nat)
    (hchk : chkO md ops n ci a1 L = true) (hcd : ∀ i, i < n → d1 ≠ cd i) (hlisted : listed = L 0 false) (hw : Below W0.heap.size W0 w)
    (hc : ∀ i, i < n → ∀ (T : List Value) (w : World) (K : Act → World → Prop), Below W0.heap.size W0 w → (∀ x, x ≠ d1 → T[x]? = (TC cd V l i)[x]?) → (∀ w', Below w.heap.size w w' → K { tmps := (T.set (cd i) (V i)).toArray, defers := ds } w') → wpOp P ops Q (ci i) K { tmps := T.toArray, defers := ds } w)
    (h1 : ∀ (T : List Value) (w : World) (K : Act → World → Prop), (∀ x, (∀ i, i < n → x ≠ cd i) → T[x]? = l[x]?) → K { tmps := (T.set d1 (PV w.heap.size)).toArray, defers := ds } (w.alloc (.cells zc t (0, 0))) → wpOp P ops Q a1 K { tmps := T.toArray, defers := ds } w)
    (hend : ∀ (w : World) (b1 : Nat), Below W0.heap.size W0 w → W0.heap.size ≤ b1 → w.heap[b1]? = some (.cells zc t (0, 0)) →
      wpAnyH P md ops Q (fun V => Below W0.heap.size W0 V) r (L n true) { tmps := ((TC cd V l n).set d1 (PV b1)).toArray, defers := ds } w) :
    wpAnyH P md ops Q (fun V => Below W0.heap.size W0 V) (r + 1 + n) listed { tmps := l.toArray, defers := ds } w := by
  refine wpAnyH_stageE (Φ := fun k listed a w => ∃ i p, StM PV zc t d1 cd V L l ds W0 n (r + 1 + n) k listed a w i p) ?_ (r + 1 + n) listed _ w ⟨0, none, ⟨by omega, by simp [one?], hlisted, rfl, hw, FreshZ.none⟩⟩
  rintro k listed a w ⟨i, p, I⟩
  obtain ⟨hi2, hk, hli, ha, hb, fp⟩ := I
  subst hli ha
  unfold chkO at hchk
  simp only [Bool.and_eq_true, decide_eq_true_eq] at hchk
  obtain ⟨⟨hchk, hE⟩, hE2⟩ := hchk
  have hone : one? p ≤ 1 := by unfold one?; split <;> omega
  by_cases hin : i = n
  · subst hin
    cases p with
    | some b1 =>
      have e : k = r := by simp [one?] at hk; omega
      subst e
      exact Or.inl (hend w b1 hb (fp b1 rfl).1 (fp b1 rfl).2)
    | none =>
      obtain ⟨k', rfl⟩ : ∃ k', k = k' + 1 := ⟨k - 1, by simp [one?] at hk; omega⟩
      refine Or.inr ⟨k', rfl, by show Region.ready md ops (L i false) ≠ []; rw [hE]; simp, fun j hj => ?_⟩
      replace hj : j ∈ Region.ready md ops (L i false) := hj
      rw [hE, List.mem_singleton] at hj
      subst hj
      exact h1 _ w _ (fun x hx => TC_get hx i hi2) ⟨hb.alloc hb.size _, i, some w.heap.size, ⟨hi2, by simp [one?] at hk ⊢; omega, hE2, rfl, hb.alloc hb.size _, FreshZ.new hb.size⟩⟩
  · have hlt : i < n := by omega
    have hbb : ∀ b : Bool, b ∈ [false, true] := fun b => by cases b <;> simp
    have g := List.all_eq_true.1 (List.all_eq_true.1 hchk i (List.mem_range.2 hlt)) p.isSome (hbb _)
    simp only [Bool.and_eq_true, decide_eq_true_eq] at g
    obtain ⟨⟨⟨g1, g2⟩, g3⟩, g4⟩ := g
    obtain ⟨k', rfl⟩ : ∃ k', k = k' + 1 := ⟨k - 1, by omega⟩
    refine Or.inr ⟨k', rfl, not_isEmpty g1, fun j hj => ?_⟩
    have g6 := List.all_eq_true.1 g2 j hj
    simp only [Bool.or_eq_true, Bool.and_eq_true, beq_iff_eq, Bool.not_eq_true'] at g6
    rcases g6 with rfl | ⟨rfl, hn⟩
    · refine hc i hlt _ w _ hb (fun x x1 => TM_get x1) (fun w' hb' => ⟨hb.trans (hb'.mono hb.size), i + 1, p, ⟨hlt, by omega, g3, by rw [setM_set (hcd i hlt)]; rfl, hb.trans (hb'.mono hb.size), fp.call hb'⟩⟩)
    · have e : p = none := by cases p with | none => rfl | some _ => cases hn
      subst e
      refine h1 _ w _ (fun x hx => TC_get hx i hi2) ⟨hb.alloc hb.size _, i, some w.heap.size, ⟨hi2, by simp [one?] at hk ⊢; omega, g4, rfl, hb.alloc hb.size _, FreshZ.new hb.size⟩⟩

/-- The slots of two variables. -/
def TF2 (d1 d2 : Nat) (l : List Value) (p q : Option Nat) : List Value := setO d2 q (setO d1 p l)

section
variable {d1 d2 : Nat} {l : List Value} {p q : Option Nat}
theorem TF2_get {x : Nat} (h1 : x ≠ d1) (h2 : x ≠ d2) : (TF2 d1 d2 l p q)[x]? = l[x]? := by
  unfold TF2
  rw [setO_get (Ne.symm h2), setO_get (Ne.symm h1)]
theorem TF2_set {d : Nat} {v : Value} (h1 : d1 ≠ d) (h2 : d2 ≠ d) : (TF2 d1 d2 l p q).set d v = TF2 d1 d2 (l.set d v) p q := by
  unfold TF2
  rw [setO_set h2, setO_set h1]
theorem TF2_p (h12 : d1 ≠ d2) (b : Nat) : (TF2 d1 d2 l none q).set d1 (.pointer (some ⟨b, 0, none⟩)) = TF2 d1 d2 l (some b) q := by
  unfold TF2
  rw [setO_set (Ne.symm h12)]
  rfl
theorem TF2_q (b : Nat) : (TF2 d1 d2 l p none).set d2 (.pointer (some ⟨b, 0, none⟩)) = TF2 d1 d2 l p (some b) := rfl
end

/-- Two variables that are made are two. -/
def Apart2 (p q : Option Nat) : Prop := ∀ b c, p = some b → q = some c → b ≠ c
theorem Apart2.none1 {q : Option Nat} : Apart2 none q := fun _ _ h => by cases h
theorem Apart2.none2 {q : Option Nat} : Apart2 q none := fun _ _ _ h => by cases h

/-- Which operations may come up, state by state. -/
def chk2v (md : Region.Mode) (ops : Array Oper) (n : Nat) (ci : Nat → Nat) (a1 a2 : Nat) (L : Nat → Bool → Bool → Array Bool) : Bool :=
  (List.range (n + 1)).all fun i => [false, true].all fun p => [false, true].all fun q =>
    (decide (i = n) && p && q) ||
    (!(Region.ready md ops (L i p q)).isEmpty && ((Region.ready md ops (L i p q)).all fun j => (j == ci i && decide (i < n)) || (j == a1 && !p) || (j == a2 && !q)) &&
      (decide (i = n) || decide ((L i p q).setIfInBounds (ci i) true = L (i + 1) p q)) &&
      (p || decide ((L i p q).setIfInBounds a1 true = L i true q)) && (q || decide ((L i p q).setIfInBounds a2 true = L i p true)))

/-- A state of the calls. -/
structure St2v (zc : Array Value) (t d1 d2 : Nat) (cd : Nat → Nat) (V : Nat → Value) (L : Nat → Bool → Bool → Array Bool) (l : List Value) (ds : List Deferred) (W0 : World) (n m k : Nat) (listed : Array Bool) (a : Act) (w : World) (i : Nat) (p q : Option Nat) : Prop where
  i2 : i ≤ n
  k : k + i + one? p + one? q = m
  listed : listed = L i p.isSome q.isSome
  a : a = { tmps := (TF2 d1 d2 (TC cd V l i) p q).toArray, defers := ds }
  b : Below W0.heap.size W0 w
  fp : FreshZ zc t W0.heap.size w p
  fq : FreshZ zc t W0.heap.size w q
  pq : Apart2 p q

theorem FreshZ.apart2 {zc : Array Value} {t N : Nat} {w : World} {p : Option Nat} (h : FreshZ zc t N w p) : Apart2 (some w.heap.size) p := fun b c e1 e2 => by
  cases e1
  have := lt_of_block (h c e2).2
  omega
theorem Apart2.symm {p q : Option Nat} (h : Apart2 p q) : Apart2 q p := fun b c e1 e2 => (h c b e2 e1).symm

theorem regionQ {P : Program} {md : Region.Mode} {ops : Array Oper} {Q : Exit → Act → World → Prop} {W0 w : World} {l : List Value} {ds : List Deferred} {r0 : Nat} {listed : Array Bool} (n : Nat) (ci cd : Nat → Nat) (V : Nat → Value) (L : Nat → Bool → Bool → Array Bool) (zc : Array Value) (t a1 a2 d1 d2 : Nat)
    (hchk : chk2v md ops n ci a1 a2 L = true) (hd : d1 ≠ d2) (hcd : ∀ i, i < n → d1 ≠ cd i ∧ d2 ≠ cd i) (hlisted : listed = L 0 false false) (hw : Below W0.heap.size W0 w)
    (hc : ∀ i, i < n → ∀ (T : List Value) (w : World) (K : Act → World → Prop), Below W0.heap.size W0 w → (∀ x, x ≠ d1 → x ≠ d2 → T[x]? = (TC cd V l i)[x]?) → (∀ w', Below w.heap.size w w' → K { tmps := (T.set (cd i) (V i)).toArray, defers := ds } w') → wpOp P ops Q (ci i) K { tmps := T.toArray, defers := ds } w)
    (h1 : ∀ (T : List Value) (w : World) (K : Act → World → Prop), K { tmps := (T.set d1 (.pointer (some ⟨w.heap.size, 0, none⟩))).toArray, defers := ds } (w.alloc (.cells zc t (0, 0))) → wpOp P ops Q a1 K { tmps := T.toArray, defers := ds } w)
    (h2 : ∀ (T : List Value) (w : World) (K : Act → World → Prop), K { tmps := (T.set d2 (.pointer (some ⟨w.heap.size, 0, none⟩))).toArray, defers := ds } (w.alloc (.cells zc t (0, 0))) → wpOp P ops Q a2 K { tmps := T.toArray, defers := ds } w)
    (hend : ∀ (w : World) (b1 b2 : Nat), Below W0.heap.size W0 w → W0.heap.size ≤ b1 → W0.heap.size ≤ b2 → w.heap[b1]? = some (.cells zc t (0, 0)) → w.heap[b2]? = some (.cells zc t (0, 0)) → b1 ≠ b2 →
      wpAnyH P md ops Q (fun V => Below W0.heap.size W0 V) r0 (L n true true) { tmps := (((TC cd V l n).set d1 (.pointer (some ⟨b1, 0, none⟩))).set d2 (.pointer (some ⟨b2, 0, none⟩))).toArray, defers := ds } w) :
    wpAnyH P md ops Q (fun V => Below W0.heap.size W0 V) (r0 + 2 + n) listed { tmps := l.toArray, defers := ds } w := by
  refine wpAnyH_stageE (Φ := fun k listed a w => ∃ i p q, St2v zc t d1 d2 cd V L l ds W0 n (r0 + 2 + n) k listed a w i p q) ?_ (r0 + 2 + n) listed _ w ⟨0, none, none, ⟨by omega, by simp [one?], hlisted, rfl, hw, FreshZ.none, FreshZ.none, Apart2.none1⟩⟩
  rintro k listed a w ⟨i, p, q, I⟩
  obtain ⟨hi2, hk, hli, ha, hb, fp, fq, pq⟩ := I
  subst hli ha
  have hbb : ∀ b : Bool, b ∈ [false, true] := fun b => by cases b <;> simp
  have g := List.all_eq_true.1 (List.all_eq_true.1 (List.all_eq_true.1 hchk i (List.mem_range.2 (by omega))) p.isSome (hbb _)) q.isSome (hbb _)
  have o1 : one? p ≤ 1 := by unfold one?; split <;> omega
  have o2 : one? q ≤ 1 := by unfold one?; split <;> omega
  by_cases hdone : i = n ∧ p.isSome = true ∧ q.isSome = true
  · obtain ⟨rfl, hp, hq⟩ := hdone
    obtain ⟨b1, rfl⟩ := Option.isSome_iff_exists.1 hp
    obtain ⟨b2, rfl⟩ := Option.isSome_iff_exists.1 hq
    have e : k = r0 := by simp [one?] at hk; omega
    subst e
    exact Or.inl (hend w b1 b2 hb (fp b1 rfl).1 (fq b2 rfl).1 (fp b1 rfl).2 (fq b2 rfl).2 (pq b1 b2 rfl rfl))
  · have hnd : (decide (i = n) && p.isSome && q.isSome) = false := by
      rw [Bool.eq_false_iff]
      intro h
      simp only [Bool.and_eq_true, decide_eq_true_eq] at h
      exact hdone ⟨h.1.1, h.1.2, h.2⟩
    rw [hnd, Bool.false_or] at g
    simp only [Bool.and_eq_true] at g
    obtain ⟨⟨⟨⟨g1, g2⟩, gc⟩, gp⟩, gq⟩ := g
    have hk0 : 0 < k := by
      apply Nat.pos_of_ne_zero
      intro e
      subst e
      have h1' : i = n := by omega
      have h2' : one? p = 1 := by omega
      have h3' : one? q = 1 := by omega
      unfold one? at h2' h3'
      exact hdone ⟨h1', by split at h2' <;> simp_all, by split at h3' <;> simp_all⟩
    obtain ⟨k', rfl⟩ : ∃ k', k = k' + 1 := ⟨k - 1, by omega⟩
    refine Or.inr ⟨k', rfl, not_isEmpty g1, fun j hj => ?_⟩
    have g6 := List.all_eq_true.1 g2 j hj
    simp only [Bool.or_eq_true, Bool.and_eq_true, beq_iff_eq, Bool.not_eq_true', decide_eq_true_eq] at g6
    rcases g6 with (⟨rfl, hlt⟩ | ⟨rfl, hn⟩) | ⟨rfl, hn⟩
    · have hg3 : (L i p.isSome q.isSome).setIfInBounds (ci i) true = L (i + 1) p.isSome q.isSome := by
        rcases Bool.or_eq_true .. ▸ gc with h | h
        · have := of_decide_eq_true h
          omega
        · exact of_decide_eq_true h
      obtain ⟨e1, e2⟩ := hcd i hlt
      refine hc i hlt _ w _ hb (fun x x1 x2 => TF2_get x1 x2) (fun w' hb' => ⟨hb.trans (hb'.mono hb.size), i + 1, p, q, ⟨hlt, by omega, hg3, by rw [TF2_set e1 e2]; rfl, hb.trans (hb'.mono hb.size), fp.call hb', fq.call hb', pq⟩⟩)
    · have e : p = none := by cases p with | none => rfl | some _ => cases hn
      subst e
      rw [show (none : Option Nat).isSome = false from rfl, Bool.false_or] at gp
      refine h1 _ w _ ⟨hb.alloc hb.size _, i, some w.heap.size, q, ⟨hi2, by simp [one?] at hk ⊢; omega, of_decide_eq_true gp, by rw [TF2_p hd], hb.alloc hb.size _, FreshZ.new hb.size, fq.alloc _, fq.apart2⟩⟩
    · have e : q = none := by cases q with | none => rfl | some _ => cases hn
      subst e
      rw [show (none : Option Nat).isSome = false from rfl, Bool.false_or] at gq
      refine h2 _ w _ ⟨hb.alloc hb.size _, i, p, some w.heap.size, ⟨hi2, by simp [one?] at hk ⊢; omega, of_decide_eq_true gq, by rw [TF2_q], hb.alloc hb.size _, fp.alloc _, FreshZ.new hb.size, fp.apart2.symm⟩⟩

end Go.Proofs.Ytiekipkmfopdoaa
