/-
  Any number of calls in a row beside three variables that are made, in whatever order.
-/
import Derived.Test.YtiekipkmfopdoaaMeth34
namespace Go.Proofs.Ytiekipkmfopdoaa
open Go.RowKit Go.Shelf

/-- The slots of three variables. -/
def TF3 (d1 d2 d3 : Nat) (l : List Value) (p q r : Option Nat) : List Value := setO d3 r (setO d2 q (setO d1 p l))

section
variable {d1 d2 d3 : Nat} {l : List Value} {p q r : Option Nat}
theorem TF3_get {x : Nat} (h1 : x ≠ d1) (h2 : x ≠ d2) (h3 : x ≠ d3) : (TF3 d1 d2 d3 l p q r)[x]? = l[x]? := by
  unfold TF3
  rw [setO_get (Ne.symm h3), setO_get (Ne.symm h2), setO_get (Ne.symm h1)]
theorem TF3_set {d : Nat} {v : Value} (h1 : d1 ≠ d) (h2 : d2 ≠ d) (h3 : d3 ≠ d) : (TF3 d1 d2 d3 l p q r).set d v = TF3 d1 d2 d3 (l.set d v) p q r := by
  unfold TF3
  rw [setO_set h3, setO_set h2, setO_set h1]
theorem TF3_p (h12 : d1 ≠ d2) (h13 : d1 ≠ d3) (b : Nat) : (TF3 d1 d2 d3 l none q r).set d1 (.pointer (some ⟨b, 0, none⟩)) = TF3 d1 d2 d3 l (some b) q r := by
  unfold TF3
  rw [setO_set (Ne.symm h13), setO_set (Ne.symm h12)]
  rfl
theorem TF3_q (h23 : d2 ≠ d3) (b : Nat) : (TF3 d1 d2 d3 l p none r).set d2 (.pointer (some ⟨b, 0, none⟩)) = TF3 d1 d2 d3 l p (some b) r := by
  unfold TF3
  rw [setO_set (Ne.symm h23)]
  rfl
theorem TF3_r (b : Nat) : (TF3 d1 d2 d3 l p q none).set d3 (.pointer (some ⟨b, 0, none⟩)) = TF3 d1 d2 d3 l p q (some b) := rfl
end

/-- Two variables that are made are two. -/
def Apart3 (p q : Option Nat) : Prop := ∀ b c, p = some b → q = some c → b ≠ c
theorem Apart3.none1 {q : Option Nat} : Apart3 none q := fun _ _ h => by cases h
theorem Apart3.none2 {q : Option Nat} : Apart3 q none := fun _ _ _ h => by cases h

/-- Which operations may come up, state by state. -/
def chk3 (md : Region.Mode) (ops : Array Oper) (n : Nat) (ci : Nat → Nat) (a1 a2 a3 : Nat) (L : Nat → Bool → Bool → Bool → Array Bool) : Bool :=
  (List.range (n + 1)).all fun i => [false, true].all fun p => [false, true].all fun q => [false, true].all fun r =>
    (decide (i = n) && p && q && r) ||
    (!(Region.ready md ops (L i p q r)).isEmpty && ((Region.ready md ops (L i p q r)).all fun j => (j == ci i && decide (i < n)) || (j == a1 && !p) || (j == a2 && !q) || (j == a3 && !r)) &&
      (decide (i = n) || decide ((L i p q r).setIfInBounds (ci i) true = L (i + 1) p q r)) &&
      (p || decide ((L i p q r).setIfInBounds a1 true = L i true q r)) && (q || decide ((L i p q r).setIfInBounds a2 true = L i p true r)) && (r || decide ((L i p q r).setIfInBounds a3 true = L i p q true)))

/-- A state of the calls. -/
structure St3 (zc : Array Value) (t d1 d2 d3 : Nat) (cd : Nat → Nat) (V : Nat → Value) (L : Nat → Bool → Bool → Bool → Array Bool) (l : List Value) (ds : List Deferred) (W0 : World) (n m k : Nat) (listed : Array Bool) (a : Act) (w : World) (i : Nat) (p q r : Option Nat) : Prop where
  i2 : i ≤ n
  k : k + i + one? p + one? q + one? r = m
  listed : listed = L i p.isSome q.isSome r.isSome
  a : a = { tmps := (TF3 d1 d2 d3 (TC cd V l i) p q r).toArray, defers := ds }
  b : Below W0.heap.size W0 w
  fp : FreshZ zc t W0.heap.size w p
  fq : FreshZ zc t W0.heap.size w q
  fr : FreshZ zc t W0.heap.size w r
  pq : Apart3 p q
  pr : Apart3 p r
  qr : Apart3 q r

theorem FreshZ.apart3 {zc : Array Value} {t N : Nat} {w : World} {p : Option Nat} (h : FreshZ zc t N w p) : Apart3 (some w.heap.size) p := fun b c e1 e2 => by
  cases e1
  have := lt_of_block (h c e2).2
  omega
theorem Apart3.symm {p q : Option Nat} (h : Apart3 p q) : Apart3 q p := fun b c e1 e2 => (h c b e2 e1).symm

theorem region3 {P : Program} {md : Region.Mode} {ops : Array Oper} {Q : Exit → Act → World → Prop} {W0 w : World} {l : List Value} {ds : List Deferred} {r0 : Nat} {listed : Array Bool} (n : Nat) (ci cd : Nat → Nat) (V : Nat → Value) (L : Nat → Bool → Bool → Bool → Array Bool) (zc : Array Value) (t a1 a2 a3 d1 d2 d3 : Nat)
    (hchk : chk3 md ops n ci a1 a2 a3 L = true) (hd : d1 ≠ d2 ∧ d1 ≠ d3 ∧ d2 ≠ d3) (hcd : ∀ i, i < n → d1 ≠ cd i ∧ d2 ≠ cd i ∧ d3 ≠ cd i) (hlisted : listed = L 0 false false false) (hw : Below W0.heap.size W0 w)
    (hc : ∀ i, i < n → ∀ (T : List Value) (w : World) (K : Act → World → Prop), Below W0.heap.size W0 w → (∀ x, x ≠ d1 → x ≠ d2 → x ≠ d3 → T[x]? = (TC cd V l i)[x]?) → (∀ w', Below w.heap.size w w' → K { tmps := (T.set (cd i) (V i)).toArray, defers := ds } w') → wpOp P ops Q (ci i) K { tmps := T.toArray, defers := ds } w)
    (h1 : ∀ (T : List Value) (w : World) (K : Act → World → Prop), K { tmps := (T.set d1 (.pointer (some ⟨w.heap.size, 0, none⟩))).toArray, defers := ds } (w.alloc (.cells zc t (0, 0))) → wpOp P ops Q a1 K { tmps := T.toArray, defers := ds } w)
    (h2 : ∀ (T : List Value) (w : World) (K : Act → World → Prop), K { tmps := (T.set d2 (.pointer (some ⟨w.heap.size, 0, none⟩))).toArray, defers := ds } (w.alloc (.cells zc t (0, 0))) → wpOp P ops Q a2 K { tmps := T.toArray, defers := ds } w)
    (h3 : ∀ (T : List Value) (w : World) (K : Act → World → Prop), K { tmps := (T.set d3 (.pointer (some ⟨w.heap.size, 0, none⟩))).toArray, defers := ds } (w.alloc (.cells zc t (0, 0))) → wpOp P ops Q a3 K { tmps := T.toArray, defers := ds } w)
    (hend : ∀ (w : World) (b1 b2 b3 : Nat), Below W0.heap.size W0 w → W0.heap.size ≤ b1 → W0.heap.size ≤ b2 → W0.heap.size ≤ b3 → w.heap[b1]? = some (.cells zc t (0, 0)) → w.heap[b2]? = some (.cells zc t (0, 0)) → w.heap[b3]? = some (.cells zc t (0, 0)) → b1 ≠ b2 → b1 ≠ b3 → b2 ≠ b3 →
      wpAnyH P md ops Q (fun V => Below W0.heap.size W0 V) r0 (L n true true true) { tmps := ((((TC cd V l n).set d1 (.pointer (some ⟨b1, 0, none⟩))).set d2 (.pointer (some ⟨b2, 0, none⟩))).set d3 (.pointer (some ⟨b3, 0, none⟩))).toArray, defers := ds } w) :
    wpAnyH P md ops Q (fun V => Below W0.heap.size W0 V) (r0 + 3 + n) listed { tmps := l.toArray, defers := ds } w := by
  refine wpAnyH_stageE (Φ := fun k listed a w => ∃ i p q r, St3 zc t d1 d2 d3 cd V L l ds W0 n (r0 + 3 + n) k listed a w i p q r) ?_ (r0 + 3 + n) listed _ w ⟨0, none, none, none, ⟨by omega, by simp [one?], hlisted, rfl, hw, FreshZ.none, FreshZ.none, FreshZ.none, Apart3.none1, Apart3.none1, Apart3.none1⟩⟩
  rintro k listed a w ⟨i, p, q, r, I⟩
  obtain ⟨hi2, hk, hli, ha, hb, fp, fq, fr, pq, pr, qr⟩ := I
  subst hli ha
  have hbb : ∀ b : Bool, b ∈ [false, true] := fun b => by cases b <;> simp
  have g := List.all_eq_true.1 (List.all_eq_true.1 (List.all_eq_true.1 (List.all_eq_true.1 hchk i (List.mem_range.2 (by omega))) p.isSome (hbb _)) q.isSome (hbb _)) r.isSome (hbb _)
  have o1 : one? p ≤ 1 := by unfold one?; split <;> omega
  have o2 : one? q ≤ 1 := by unfold one?; split <;> omega
  have o3 : one? r ≤ 1 := by unfold one?; split <;> omega
  by_cases hdone : i = n ∧ p.isSome = true ∧ q.isSome = true ∧ r.isSome = true
  · obtain ⟨rfl, hp, hq, hr⟩ := hdone
    obtain ⟨b1, rfl⟩ := Option.isSome_iff_exists.1 hp
    obtain ⟨b2, rfl⟩ := Option.isSome_iff_exists.1 hq
    obtain ⟨b3, rfl⟩ := Option.isSome_iff_exists.1 hr
    have e : k = r0 := by simp [one?] at hk; omega
    subst e
    exact Or.inl (hend w b1 b2 b3 hb (fp b1 rfl).1 (fq b2 rfl).1 (fr b3 rfl).1 (fp b1 rfl).2 (fq b2 rfl).2 (fr b3 rfl).2 (pq b1 b2 rfl rfl) (pr b1 b3 rfl rfl) (qr b2 b3 rfl rfl))
  · have hnd : (decide (i = n) && p.isSome && q.isSome && r.isSome) = false := by
      rw [Bool.eq_false_iff]
      intro h
      simp only [Bool.and_eq_true, decide_eq_true_eq] at h
      exact hdone ⟨h.1.1.1, h.1.1.2, h.1.2, h.2⟩
    rw [hnd, Bool.false_or] at g
    simp only [Bool.and_eq_true] at g
    obtain ⟨⟨⟨⟨⟨g1, g2⟩, gc⟩, gp⟩, gq⟩, gr⟩ := g
    have hk0 : 0 < k := by
      apply Nat.pos_of_ne_zero
      intro e
      subst e
      have h1' : i = n := by omega
      have h2' : one? p = 1 := by omega
      have h3' : one? q = 1 := by omega
      have h4' : one? r = 1 := by omega
      unfold one? at h2' h3' h4'
      exact hdone ⟨h1', by split at h2' <;> simp_all, by split at h3' <;> simp_all, by split at h4' <;> simp_all⟩
    obtain ⟨k', rfl⟩ : ∃ k', k = k' + 1 := ⟨k - 1, by omega⟩
    refine Or.inr ⟨k', rfl, not_isEmpty g1, fun j hj => ?_⟩
    have g6 := List.all_eq_true.1 g2 j hj
    simp only [Bool.or_eq_true, Bool.and_eq_true, beq_iff_eq, Bool.not_eq_true', decide_eq_true_eq] at g6
    rcases g6 with ((⟨rfl, hlt⟩ | ⟨rfl, hn⟩) | ⟨rfl, hn⟩) | ⟨rfl, hn⟩
    · have hg3 : (L i p.isSome q.isSome r.isSome).setIfInBounds (ci i) true = L (i + 1) p.isSome q.isSome r.isSome := by
        rcases Bool.or_eq_true .. ▸ gc with h | h
        · have := of_decide_eq_true h
          omega
        · exact of_decide_eq_true h
      obtain ⟨e1, e2, e3⟩ := hcd i hlt
      refine hc i hlt _ w _ hb (fun x x1 x2 x3 => TF3_get x1 x2 x3) (fun w' hb' => ⟨hb.trans (hb'.mono hb.size), i + 1, p, q, r, ⟨hlt, by omega, hg3, by rw [TF3_set e1 e2 e3]; rfl, hb.trans (hb'.mono hb.size), fp.call hb', fq.call hb', fr.call hb', pq, pr, qr⟩⟩)
    · have e : p = none := by cases p with | none => rfl | some _ => cases hn
      subst e
      rw [show (none : Option Nat).isSome = false from rfl, Bool.false_or] at gp
      refine h1 _ w _ ⟨hb.alloc hb.size _, i, some w.heap.size, q, r, ⟨hi2, by simp [one?] at hk ⊢; omega, of_decide_eq_true gp, by rw [TF3_p hd.1 hd.2.1], hb.alloc hb.size _, FreshZ.new hb.size, fq.alloc _, fr.alloc _, fq.apart3, fr.apart3, qr⟩⟩
    · have e : q = none := by cases q with | none => rfl | some _ => cases hn
      subst e
      rw [show (none : Option Nat).isSome = false from rfl, Bool.false_or] at gq
      refine h2 _ w _ ⟨hb.alloc hb.size _, i, p, some w.heap.size, r, ⟨hi2, by simp [one?] at hk ⊢; omega, of_decide_eq_true gq, by rw [TF3_q hd.2.2], hb.alloc hb.size _, fp.alloc _, FreshZ.new hb.size, fr.alloc _, fp.apart3.symm, pr, fr.apart3⟩⟩
    · have e : r = none := by cases r with | none => rfl | some _ => cases hn
      subst e
      rw [show (none : Option Nat).isSome = false from rfl, Bool.false_or] at gr
      refine h3 _ w _ ⟨hb.alloc hb.size _, i, p, q, some w.heap.size, ⟨hi2, by simp [one?] at hk ⊢; omega, of_decide_eq_true gr, by rw [TF3_r], hb.alloc hb.size _, fp.alloc _, fq.alloc _, FreshZ.new hb.size, pq, fp.apart3.symm, fq.apart3.symm⟩⟩

end Go.Proofs.Ytiekipkmfopdoaa
