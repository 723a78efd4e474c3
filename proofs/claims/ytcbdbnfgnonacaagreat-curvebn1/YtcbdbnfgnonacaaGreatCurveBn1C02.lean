/-
 A region whose operations make new memory alone, whether it draws its order or not: each operation is told by what its value is like; the last one may do whatever it likes.
-/
import Derived.MapKept
import Derived.Test.YtcbdbnfgnonacaaGreatCurveBn1C01
namespace Go.Proofs.YtcbdbnfgnonacaaGreat
open Go.RowKit Go.Shelf
abbrev VP := Value → World → Prop
def dOf (ops : Array Oper) (i : Nat) : Nat := match ops[i]? with
 | some o => o.dst.getD 0
 | none => 0
def FP (Ps : List VP) (i : Nat) : VP := Ps.getD i (fun _ _ => False)
def Stab (p : VP) : Prop := ∀ v w w', p v w → Below w.heap.size w w' → p v w'
def AllS : List VP → Prop
 | [] => True
 | p :: Ps => Stab p ∧ AllS Ps
theorem Zik : ∀ (Ps : List VP), AllS Ps → ∀ i, Stab (FP Ps i)
 | [], _, _ => fun _ _ _ h _ => h.elim
 | p :: Ps, h, 0 => h.1
 | p :: Ps, h, i + 1 => by
  have := Zik Ps h.2 i
  exact this
theorem Zmm (x : Value) : Stab (fun v _ => x = v) := fun _ _ _ h _ => h
def waitsT (md : Region.Mode) (ops : Array Oper) : Nat → Nat → Nat → Bool
 | 0, i, j => waits md ops i j
 | f + 1, i, j => waits md ops i j || (List.range i).any fun k => waits md ops i k && waitsT md ops f k j
def outB (md : Region.Mode) (ops : Array Oper) (n i s : Nat) : Bool := (List.range n).all fun j => dOf ops j != s || waits md ops j i
def isAlO (o : Oper) : Bool := match o.op with
 | .alloc _ => true
 | .box _ _ => true
 | _ => false
def isAl (ops : Array Oper) (i : Nat) : Bool := match ops[i]? with
 | some o => isAlO o
 | none => false
def Fr (v : Value) (w w' : World) : Prop := ∃ b, v = .pointer (some ⟨b, 0, none⟩) ∧ w.heap.size ≤ b ∧ b < w'.heap.size
theorem Zcs {P : Program} {ρ : Operand → Value} {o : Oper} {v : Value} {w w' : World} (ha : isAlO o = true) (h : (execOp ρ o).run P w = .ok (.value v) w') : Fr v w w' := by
 unfold isAlO at ha
 unfold execOp at h
 have hbox : ∀ t x, (Instr.box t x).run P w = .ok (.pointer (some ⟨w.heap.size, 0, none⟩)) (w.alloc (.cells x.cells t (0, 0))) := fun _ _ => rfl
 have hnew : ∀ t x, (newVar t x).run P w = .ok ⟨w.heap.size, 0, none⟩ (w.alloc (.cells x.cells t (0, 0))) := fun _ _ => rfl
 cases hop : o.op <;> rw [hop] at ha h <;> simp only [Bool.false_eq_true] at ha
 case alloc t =>
  simp only at h
  unfold Instr.alloc at h
  rw [Sem.run_bind, Sem.run_bind] at h
  cases hz : (zeroValue t).run P w with
  | halt x w1 => rw [hz] at h; simp [Result.andThen] at h
  | ok z w1 =>
   have e := Go.MapKept.run_zeroValue_world hz
   subst e
   rw [hz] at h
   simp only [Result.andThen, Sem.run_bind, hnew, Sem.run_pure] at h
   injection h with h1 h2
   injection h1 with h1
   subst h1 h2
   exact ⟨_, rfl, Nat.le_refl _, by simp⟩
 case box t x =>
  simp only [Sem.run_bind, hbox, Result.andThen, Sem.run_pure] at h
  injection h with h1 h2
  injection h1 with h1
  subst h1 h2
  exact ⟨_, rfl, Nat.le_refl _, by simp⟩
def chkD (md : Region.Mode) (ops : Array Oper) (n m : Nat) : Bool :=
 ((List.range ops.size).all fun i => match ops[i]? with
  | some o => o.after.all fun e => !Region.binds md e || decide (e.on < i)
  | none => false) &&
 ((List.range n).all fun i => decide (dOf ops i < m) && (List.range i).all fun j => dOf ops j != dOf ops i) &&
 (decide (n = ops.size) || (decide (n + 1 = ops.size) && (List.range n).all fun i => waitsT md ops 6 n i) || (decide (n + 2 = ops.size) && (List.range n).all fun i => waitsT md ops 6 n i && waits md ops (n + 1) i))
def OpOK (P : Program) (md : Region.Mode) (ops : Array Oper) (Q : Exit → Act → World → Prop) (I : World → Prop) (Ps : List VP) (l : List Value) (ds : List Deferred) (i : Nat) : Prop :=
 ∀ (T : List Value) (w : World) (K : Act → World → Prop), I w → (∀ s, outB md ops Ps.length i s = true → T[s]? = l[s]?) →
  (∀ j, decide (j < Ps.length) && waits md ops i j = true → ∃ v, T[dOf ops j]? = some v ∧ FP Ps j v w) →
  (∀ v w', Below w.heap.size w w' → FP Ps i v w' → (isAl ops i = true → Fr v w w') → K { tmps := (T.set (dOf ops i) v).toArray, defers := ds } w') → wpOp P ops Q i K { tmps := T.toArray, defers := ds } w
def AllOK (p : Nat → Prop) : List VP → Nat → Prop
 | [], _ => True
 | _ :: Ps, i => p i ∧ AllOK p Ps (i + 1)
theorem AllOK.get {p : Nat → Prop} : ∀ {Ps : List VP} {k : Nat}, AllOK p Ps k → ∀ i, i < Ps.length → p (k + i)
 | _ :: _, _, h, 0, _ => h.1
 | _ :: Ps, k, h, i + 1, hi => by
  have := h.2.get i (by simpa using hi)
  rwa [show k + 1 + i = k + (i + 1) by omega] at this
def AllP (vs : Nat → Value) (w : World) : List VP → Nat → Prop
 | [], _ => True
 | p :: Ps, i => p (vs i) w ∧ AllP vs w Ps (i + 1)
theorem AllP.of {vs : Nat → Value} {w : World} : ∀ (Ps : List VP) (k : Nat), (∀ i, i < Ps.length → FP Ps i (vs (k + i)) w) → AllP vs w Ps k
 | [], _, _ => trivial
 | p :: Ps, k, h => ⟨h 0 (by simp), AllP.of Ps (k + 1) fun i hi => by
   have := h (i + 1) (by simpa using hi)
   rw [show k + 1 + i = k + (i + 1) by omega]
   exact this⟩
structure StD (md : Region.Mode) (ops : Array Oper) (I : World → Prop) (Ps : List VP) (l : List Value) (ds : List Deferred) (r k : Nat) (listed : Array Bool) (a : Act) (w : World) (dn : Nat → Bool) (T : List Value) : Prop where
 listed : listed = LF (Array.replicate ops.size false) (List.range Ps.length) dn
 a : a = { tmps := T.toArray, defers := ds }
 len : T.length = l.length
 b : I w
 cl : ∀ j, j < Ps.length → dn j = true → ∀ k, k < Ps.length → waits md ops j k = true → dn k = true
 other : ∀ s, (∀ j, j < Ps.length → dOf ops j = s → dn j = false) → T[s]? = l[s]?
 vals : ∀ j, j < Ps.length → dn j = true → ∃ v, T[dOf ops j]? = some v ∧ FP Ps j v w
 al : ∀ j, j < Ps.length → dn j = true → isAl ops j = true → ∃ b, T[dOf ops j]? = some (.pointer (some ⟨b, 0, none⟩)) ∧ b < w.heap.size
 ap : ∀ i j, i < Ps.length → j < Ps.length → dn i = true → dn j = true → isAl ops i = true → isAl ops j = true → i ≠ j → T[dOf ops i]? ≠ T[dOf ops j]?
 k : k = r + ((List.range Ps.length).filter (fun x => !dn x)).length
theorem Zc6 {P : Program} {md : Region.Mode} {ops : Array Oper} {Q : Exit → Act → World → Prop} {I : World → Prop} {w : World} {l : List Value} {ds : List Deferred} {r : Nat} (Ps : List VP)
  (hchk : chkD md ops Ps.length l.length = true) (hI : ∀ w w', I w → Below w.heap.size w w' → I w') (hst : AllS Ps) (hw : I w) (hop : AllOK (OpOK P md ops Q I Ps l ds) Ps 0)
  (hend : ∀ (vs : Nat → Value) (w : World), I w → (∀ i, i < Ps.length → FP Ps i (vs i) w) → (∀ i j, i < Ps.length → j < Ps.length → isAl ops i = true → isAl ops j = true → i ≠ j → vs i ≠ vs j) → wpAnyH P md ops Q (fun _ => True) r (LF (Array.replicate ops.size false) (List.range Ps.length) (fun _ => true)) { tmps := (TE (dOf ops) vs (List.range Ps.length) l).toArray, defers := ds } w) :
  wpAnyH P md ops Q (fun _ => True) (r + Ps.length) (Array.replicate ops.size false) { tmps := l.toArray, defers := ds } w := by
 unfold chkD at hchk
 simp only [Bool.and_eq_true, Bool.or_eq_true, decide_eq_true_eq] at hchk
 obtain ⟨⟨hA, hB⟩, hZ⟩ := hchk
 have hn : Ps.length ≤ ops.size := by rcases hZ with (h | ⟨h, _⟩) | ⟨h, _⟩ <;> omega
 have hA' : ∀ i, i < ops.size → ∃ o, ops[i]? = some o ∧ ∀ e ∈ o.after, Region.binds md e = true → e.on < i := by
  intro i hi
  have h := List.all_eq_true.1 hA i (List.mem_range.2 hi)
  cases ho : ops[i]? with
  | none => rw [ho] at h; cases h
  | some o =>
   rw [ho] at h
   refine ⟨o, rfl, fun e he hb => ?_⟩
   have h2 := Array.all_eq_true'.1 h e he
   simpa [hb] using h2
 have hdl : ∀ i, i < Ps.length → dOf ops i < l.length := fun i hi => by
  have h := List.all_eq_true.1 hB i (List.mem_range.2 hi)
  simp only [Bool.and_eq_true, decide_eq_true_eq] at h
  exact h.1
 have hne : ∀ i j, i < Ps.length → j < i → dOf ops j ≠ dOf ops i := fun i j hi hj => by
  have h := List.all_eq_true.1 hB i (List.mem_range.2 hi)
  simp only [Bool.and_eq_true] at h
  have h2 := List.all_eq_true.1 h.2 j (List.mem_range.2 hj)
  simpa using h2
 have hinj : ∀ i j, i < Ps.length → j < Ps.length → dOf ops j = dOf ops i → j = i := fun i j hi hj e => by
  rcases Nat.lt_trichotomy j i with h | h | h
  ·
   exact absurd e (hne i j hi h)
  ·
   exact h
  ·
   exact absurd e.symm (hne j i hj h)
 have hsz : (Array.replicate ops.size false).size = ops.size := by simp
 have hgf : ∀ j, (Array.replicate ops.size false).getD j false = false := fun j => by
  rw [Array.getD_eq_getD_getElem?, Array.getElem?_replicate]
  split <;> rfl
 have wt : ∀ i j, waits md ops i j = true → ∃ o, ops[i]? = some o ∧ ∃ e ∈ o.after, Region.binds md e = true ∧ e.on = j := fun i j h => by
  unfold waits at h
  cases ho : ops[i]? with
  | none => rw [ho] at h; cases h
  | some o =>
   rw [ho] at h
   simp only [Array.any_eq_true, Bool.and_eq_true, beq_iff_eq] at h
   obtain ⟨x, hx, hb, he⟩ := h
   exact ⟨o, rfl, _, Array.getElem_mem hx, hb, he⟩
 have wtT : ∀ (dn : Nat → Bool), (∀ j, j < Ps.length → dn j = true → ∀ k, k < Ps.length → waits md ops j k = true → dn k = true) → ∀ f i j, i ≤ Ps.length → j < Ps.length → (∀ k, k < Ps.length → waits md ops i k = true → dn k = true) → waitsT md ops f i j = true → dn j = true := by
  intro dn hcl f
  induction f with
  | zero => intro i j _ hj hd h; exact hd j hj h
  | succ f ih =>
   intro i j hi hj hd h
   simp only [waitsT, Bool.or_eq_true, List.any_eq_true, List.mem_range, Bool.and_eq_true] at h
   rcases h with h | ⟨k, hk, h1, h2⟩
   ·
    exact hd j hj h
   ·
    exact ih k j (by omega) hj (hcl k (by omega) (hd k (by omega) h1)) h2
 refine ZeN (Φ := fun k listed a w => ∃ dn T, StD md ops I Ps l ds r k listed a w dn T) ?_ (r + Ps.length) _ _ w ⟨fun _ => false, l, ⟨?_, rfl, rfl, hw, fun _ _ h => (by cases h), fun _ _ => rfl, fun _ _ h => (by cases h), fun _ _ h => (by cases h), fun _ _ _ _ h => (by cases h), ?_⟩⟩
 ·
  rintro k listed a w ⟨dn, T, J⟩
  obtain ⟨hl, ha, hlen, hb, hcl, hoth, hval, hal, hap, hk⟩ := J
  subst hl ha
  have hin : ∀ j, j < Ps.length → (LF (Array.replicate ops.size false) (List.range Ps.length) dn).getD j false = dn j := fun j hj => by
   rw [ZfC (by omega), hgf, Bool.false_or, List.contains_iff_mem.2 (List.mem_range.2 hj), Bool.true_and]
  have hgt : ∀ j, j < ops.size → (LF (Array.replicate ops.size false) (List.range Ps.length) dn).getD j true = (LF (Array.replicate ops.size false) (List.range Ps.length) dn).getD j false := fun j hj => by
   rw [Array.getD_eq_getD_getElem?, Array.getD_eq_getD_getElem?, Array.getElem?_eq_getElem (by rw [Zbz]; omega)]
   rfl
  by_cases hall : ∀ j, j < Ps.length → dn j = true
  ·
   refine Or.inl ?_
   have hf : (List.range Ps.length).filter (fun x => !dn x) = [] := List.filter_eq_nil_iff.2 fun j hj => by simp [hall j (List.mem_range.1 hj)]
   rw [hf] at hk
   obtain rfl : k = r := by simpa using hk
   have hL : LF (Array.replicate ops.size false) (List.range Ps.length) dn = LF (Array.replicate ops.size false) (List.range Ps.length) (fun _ => true) := by
    unfold LF
    congr 1
    refine List.map_congr_left fun j _ => ?_
    by_cases hj : j < Ps.length
    ·
     rw [hall j hj]
    ·
     have : (List.range Ps.length).contains j = false := by simpa using Nat.le_of_not_lt hj
     rw [this, Bool.false_and, Bool.false_and]
   have hex : ∀ j, ∃ v : Value, j < Ps.length → T[dOf ops j]? = some v ∧ FP Ps j v w := fun j => by
    by_cases hj : j < Ps.length
    ·
     obtain ⟨v, hv⟩ := hval j hj (hall j hj)
     exact ⟨v, fun _ => hv⟩
    ·
     exact ⟨undef, fun h => absurd h hj⟩
   obtain ⟨vs, hvs⟩ := Classical.axiomOfChoice hex
   have hT : T = TE (dOf ops) vs (List.range Ps.length) l := by
    refine List.ext_getElem? fun s => ?_
    by_cases hs : ∃ j, j < Ps.length ∧ dOf ops j = s
    ·
     obtain ⟨j, hj, rfl⟩ := hs
     rw [(hvs j hj).1, TE_at (dOf ops) vs j (List.range Ps.length) l (List.mem_range.2 hj) (fun j' hj' => hinj j j' hj (List.mem_range.1 hj')) (hdl j hj)]
    ·
     rw [hoth s (fun j hj e => absurd ⟨j, hj, e⟩ hs), ZeO (dOf ops) vs s (List.range Ps.length) l (fun j hj e => hs ⟨j, List.mem_range.1 hj, e⟩)]
   rw [hL, hT]
   refine hend vs w hb (fun j hj => (hvs j hj).2) (fun i j hi hj h1 h2 hij e => hap i j hi hj (hall i hi) (hall j hj) h1 h2 hij ?_)
   rw [(hvs i hi).1, (hvs j hj).1, e]
  ·
   obtain ⟨j0, hj0, hd0⟩ : ∃ j, j < Ps.length ∧ dn j = false := by
    refine Classical.byContradiction fun h => hall fun j hj => ?_
    cases hd : dn j with
    | true => rfl
    | false => exact absurd ⟨j, hj, hd⟩ h
   have hpos := Zd4 List.nodup_range (List.mem_range.2 hj0) hd0
   obtain ⟨k', rfl⟩ : ∃ k', k = k' + 1 := ⟨k - 1, by omega⟩
   refine Or.inr ⟨k', rfl, ?_, fun i hi => ?_⟩
   ·
    obtain ⟨m, hm, hmd, hmin⟩ : ∃ m, m < Ps.length ∧ dn m = false ∧ ∀ j, j < Ps.length → j < m → dn j = true := by
     have : ∀ n, (∃ j, j < Ps.length ∧ dn j = false ∧ j ≤ n) → ∃ m, m < Ps.length ∧ dn m = false ∧ ∀ j, j < Ps.length → j < m → dn j = true := by
      intro n
      induction n using Nat.strongRecOn with
      | _ n ih =>
       rintro ⟨j, hj, hd, hle⟩
       by_cases h : ∃ i, i < Ps.length ∧ dn i = false ∧ i < j
       ·
        obtain ⟨i, h1, h2, h3⟩ := h
        exact ih i (by omega) ⟨i, h1, h2, Nat.le_refl _⟩
       ·
        refine ⟨j, hj, hd, fun i hi hlt => ?_⟩
        cases hdi : dn i with
        | true => rfl
        | false => exact absurd ⟨i, hi, hdi, hlt⟩ h
     exact this j0 ⟨j0, hj0, hd0, Nat.le_refl _⟩
    obtain ⟨o, ho, he⟩ := hA' m (by omega)
    refine List.ne_nil_of_mem (mem_ready.2 ⟨by rw [hgt m (by omega), hin m hm, hmd], o, ho, fun e hee hb => ?_⟩)
    have h3 := he e hee hb
    rw [hin _ (by omega)]
    exact hmin _ (by omega) h3
   ·
    obtain ⟨hun, o, ho, hed⟩ := mem_ready.1 hi
    have hlt : i < ops.size := (Array.getElem?_eq_some_iff.1 ho).1
    have hiD : i < Ps.length := by
     have hwk' : ∀ k, k < Ps.length → waits md ops i k = true → dn k = true := fun k hk hwk => by
      obtain ⟨o', ho', e, hee, hbe, hon⟩ := wt _ _ hwk
      rw [ho] at ho'
      cases ho'
      have h3 := hed e hee hbe
      rwa [hon, hin k hk] at h3
     rcases hZ with (h | ⟨h, hw⟩) | ⟨h, hw⟩
     ·
      omega
     ·
      rcases Nat.lt_or_ge i Ps.length with h' | h'
      ·
       exact h'
      ·
       obtain rfl : i = Ps.length := by omega
       have h2 := List.all_eq_true.1 hw j0 (List.mem_range.2 hj0)
       have h4 := wtT dn hcl 6 _ j0 (Nat.le_refl _) hj0 hwk' h2
       rw [hd0] at h4
       cases h4
     ·
      rcases Nat.lt_or_ge i Ps.length with h' | h'
      ·
       exact h'
      ·
       have h2 := List.all_eq_true.1 hw j0 (List.mem_range.2 hj0)
       simp only [Bool.and_eq_true] at h2
       have h4 : dn j0 = true := by
        rcases (show i = Ps.length ∨ i = Ps.length + 1 by omega) with rfl | rfl
        ·
         exact wtT dn hcl 6 _ j0 (Nat.le_refl _) hj0 hwk' h2.1
        ·
         exact hwk' j0 hj0 h2.2
       rw [hd0] at h4
       cases h4
    have hdi : dn i = false := by rw [← hin i hiD, ← hgt i hlt]; exact hun
    have hdone : ∀ j, j < Ps.length → waits md ops i j = true → dn j = true := fun j hj hwt => by
     obtain ⟨o', ho', e, hee, hbe, hon⟩ := wt _ _ hwt
     rw [ho] at ho'
     cases ho'
     have h3 := hed e hee hbe
     rwa [hon, hin j hj] at h3
    have hOK := hop.get i hiD
    rw [Nat.zero_add] at hOK
    refine hOK T w _ hb (fun s hs => hoth s fun j hj e => ?_) (fun j hwt => ?_) (fun v w' hb' hp hfr => ⟨trivial, fun x => x == i || dn x, T.set (dOf ops i) v, ⟨LF_set (List.mem_range.2 hiD), rfl, by simpa using hlen, hI _ _ hb hb', fun j hj hdj k hk hwk => ?_, fun s hs => ?_, fun j hj hdj => ?_, fun j hj hdj haj => ?_, fun a c ha hc hda hdc h1 h2 hac => ?_, ?_⟩⟩)
    ·
     unfold outB at hs
     have h4 := List.all_eq_true.1 hs j (List.mem_range.2 hj)
     simp only [Bool.or_eq_true, bne_iff_ne, ne_eq] at h4
     rcases h4 with h4 | h4
     ·
      exact absurd e h4
     ·
      cases hdj : dn j with
      | false => rfl
      | true =>
       have := hcl j hj hdj i hiD h4
       rw [hdi] at this
       cases this
    ·
     simp only [Bool.and_eq_true, decide_eq_true_eq] at hwt
     exact hval j hwt.1 (hdone j hwt.1 hwt.2)
    ·
     simp only [Bool.or_eq_true, beq_iff_eq] at hdj ⊢
     rcases hdj with rfl | hdj
     ·
      exact Or.inr (hdone k hk hwk)
     ·
      exact Or.inr (hcl j hj hdj k hk hwk)
    ·
     have hsi : dOf ops i ≠ s := fun e => by
      have := hs i hiD e
      simp at this
     rw [List.getElem?_set_ne hsi]
     refine hoth s fun j hj e => ?_
     have := hs j hj e
     simp only [Bool.or_eq_false_iff] at this
     exact this.2
    ·
     by_cases hji : j = i
     ·
      subst hji
      exact ⟨v, by rw [List.getElem?_set_self (by rw [hlen]; exact hdl j hj)], hp⟩
     ·
      have hdj' : dn j = true := by simpa [hji] using hdj
      obtain ⟨u, hu, hpu⟩ := hval j hj hdj'
      exact ⟨u, by rw [List.getElem?_set_ne (fun e => hji (hinj i j hiD hj e.symm))]; exact hu, Zik Ps hst _ _ _ _ hpu hb'⟩
    ·
     by_cases hji : j = i
     ·
      subst hji
      obtain ⟨b, e, _, hlt'⟩ := hfr haj
      exact ⟨b, by rw [List.getElem?_set_self (by rw [hlen]; exact hdl j hj), e], hlt'⟩
     ·
      have hdj' : dn j = true := by simpa [hji] using hdj
      obtain ⟨b, e, hlt'⟩ := hal j hj hdj' haj
      exact ⟨b, by rw [List.getElem?_set_ne (fun e => hji (hinj i j hiD hj e.symm))]; exact e, Nat.lt_of_lt_of_le hlt' hb'.size⟩
    ·
     have key : ∀ j, j < Ps.length → j ≠ i → (j == i || dn j) = true → isAl ops j = true → isAl ops i = true → (T.set (dOf ops i) v)[dOf ops i]? ≠ (T.set (dOf ops i) v)[dOf ops j]? := fun j hj hji hdj haj hai e => by
      have hdj' : dn j = true := by simpa [hji] using hdj
      obtain ⟨b, e1, hlt'⟩ := hal j hj hdj' haj
      obtain ⟨b', e2, hge, _⟩ := hfr hai
      rw [List.getElem?_set_self (by rw [hlen]; exact hdl i hiD), List.getElem?_set_ne (fun e => hji (hinj i j hiD hj e.symm)), e1, e2] at e
      injection e with e
      injection e with e
      injection e with e
      injection e with e
      omega
     by_cases hai : a = i
     ·
      subst hai
      exact key c hc (Ne.symm hac) hdc h2 h1
     ·
      by_cases hci : c = i
      ·
       subst hci
       exact Ne.symm (key a ha hac hda h1 h2)
      ·
       have hda' : dn a = true := by simpa [hai] using hda
       have hdc' : dn c = true := by simpa [hci] using hdc
       rw [List.getElem?_set_ne (fun e => hai (hinj i a hiD ha e.symm)), List.getElem?_set_ne (fun e => hci (hinj i c hiD hc e.symm))]
       exact hap a c ha hc hda' hdc' h1 h2 hac
    ·
     have := Zd4 List.nodup_range (List.mem_range.2 hiD) hdi
     omega
 ·
  refine Array.ext_getElem? fun j => ?_
  by_cases hj : j < ops.size
  ·
   unfold LF
   rw [List.getElem?_toArray]
   simp [hj]
  ·
   rw [Array.getElem?_eq_none (by simp; omega), Array.getElem?_eq_none (by rw [Zbz]; simp; omega)]
 ·
  have e : (List.range Ps.length).filter (fun x => !(fun _ : Nat => false) x) = List.range Ps.length := List.filter_eq_self.2 (fun _ _ => rfl)
  rw [e, List.length_range]
theorem Zd5 {P : Program} {md : Region.Mode} {ops : Array Oper} {Q : Exit → Act → World → Prop} (hA : ((List.range ops.size).all fun i => match ops[i]? with
  | some o => o.after.all fun e => !Region.binds md e || decide (e.on < i)
  | none => false) = true) : ∀ (k s : Nat) (listed : Array Bool) (a : Act) (w : World), s + k = ops.size → listed.size = ops.size → (∀ j, j < ops.size → listed.getD j true = decide (j < s)) → wpAnyH P md ops Q (fun _ => True) k listed a w → wpOps P ops Q (List.range' s k) a w
 | 0, s, listed, a, w, _, _, _, h => h.2
 | k + 1, s, listed, a, w, hs, hz, hl, h => by
  rw [List.range'_succ, wpOps_cons]
  have hlt : s < ops.size := by omega
  have hA1 := List.all_eq_true.1 hA s (List.mem_range.2 hlt)
  cases ho : ops[s]? with
  | none => rw [ho] at hA1; cases hA1
  | some o =>
   rw [ho] at hA1
   have hm : s ∈ Region.ready md ops listed := mem_ready.2 ⟨by rw [hl s hlt]; simp, o, ho, fun e he hb => by
    have h2 := Array.all_eq_true'.1 hA1 e he
    simp only [hb, Bool.not_true, Bool.false_or, decide_eq_true_eq] at h2
    have h3 := hl e.on (by omega)
    have h4 : listed.getD e.on false = listed.getD e.on true := by
     rw [Array.getD_eq_getD_getElem?, Array.getD_eq_getD_getElem?, Array.getElem?_eq_getElem (by omega)]
     rfl
    rw [h4, h3]
    simpa using h2⟩
   refine wpOp_mono (fun a' w' h' => Zd5 hA k (s + 1) _ a' w' (by omega) (by simpa using hz) (fun j hj => ?_) h'.2) (h.2 s hm)
   by_cases hj2 : s = j
   ·
    subst hj2
    simp [hz, hj]
   ·
    rw [getD_set_ne true hj2, hl j hj]
    congr 1
    simp only [eq_iff_iff]
    omega
theorem ZaY {P : Program} {id : Nat} {ops : Array Oper} {b : Bool} {Q : Exit → Act → World → Prop} {a : Act} {w : World} (hm : P.follows .mixedOrders = true) (hA : ((List.range ops.size).all fun i => match ops[i]? with
  | some o => o.after.all fun e => !Region.binds .any e || decide (e.on < i)
  | none => false) = true)
  (h : ∀ w', w' = w ∨ w' = w.drew → wpAnyH P .any ops Q (fun _ => True) ops.size (Array.replicate ops.size false) a w') : (Code.region id ops b).wp P Q a w := by
 cases b with
 | true => exact wp_region_any hm (wpAny_of_held _ _ _ _ (h _ (Or.inr rfl)))
 | false =>
  refine wp_region ?_
  rw [List.range_eq_range']
  refine Zd5 hA ops.size 0 _ a w (by omega) (by simp) (fun j hj => ?_) (h _ (Or.inl rfl))
  rw [Array.getD_eq_getD_getElem?, Array.getElem?_replicate, if_pos hj]
  simp
theorem Zil {P : Program} {ops : Array Oper} {Q : Exit → Act → World → Prop} {I : World → Prop} {w : World} {l : List Value} {ds : List Deferred} (Ps : List VP)
  (hchk : (chkD .any ops Ps.length l.length && decide (Ps.length = ops.size)) = true) (hI : ∀ w w', I w → Below w.heap.size w w' → I w') (hst : AllS Ps) (hw : I w) (hwd : I w.drew) (hop : AllOK (OpOK P .any ops Q I Ps l ds) Ps 0)
  (hend : ∀ (vs : Nat → Value) (w : World), I w → AllP vs w Ps 0 → (∀ i j, i < Ps.length → j < Ps.length → isAl ops i = true → isAl ops j = true → i ≠ j → vs i ≠ vs j) → Q .normal { tmps := (TE (dOf ops) vs (List.range Ps.length) l).toArray, defers := ds } w) (w' : World) (hw' : w' = w ∨ w' = w.drew) :
  wpAnyH P .any ops Q (fun _ => True) ops.size (Array.replicate ops.size false) { tmps := l.toArray, defers := ds } w' := by
 simp only [Bool.and_eq_true, decide_eq_true_eq] at hchk
 obtain ⟨hchk, hsz⟩ := hchk
 have hA := hchk
 unfold chkD at hA
 simp only [Bool.and_eq_true] at hA
 have h0 := Zc6 (r := 0) (w := w') Ps hchk hI hst (by rcases hw' with rfl | rfl <;> assumption) hop (fun vs w1 h1 h2 hap => ⟨?_, hend vs w1 h1 (AllP.of Ps 0 (fun i hi => by rw [Nat.zero_add]; exact h2 i hi)) hap⟩)
 ·
  rwa [Nat.zero_add, hsz] at h0
 ·
  refine List.eq_nil_iff_forall_not_mem.2 fun i hi => ?_
  obtain ⟨hun, o, ho, -⟩ := mem_ready.1 hi
  have hlt : i < ops.size := (Array.getElem?_eq_some_iff.1 ho).1
  have h3 := ZfC (L0 := Array.replicate ops.size false) (D := List.range Ps.length) (dn := fun _ => true) (j := i) (by simpa using hlt)
  rw [List.contains_iff_mem.2 (List.mem_range.2 (by omega)), Bool.true_and, Bool.or_true] at h3
  rw [Array.getD_eq_getD_getElem?, Array.getElem?_eq_getElem (by rw [Zbz]; simpa using hlt)] at h3 hun
  rw [show (some ((LF (Array.replicate ops.size false) (List.range Ps.length) (fun _ => true))[i]'(by rw [Zbz]; simpa using hlt))).getD true = (some ((LF (Array.replicate ops.size false) (List.range Ps.length) (fun _ => true))[i]'(by rw [Zbz]; simpa using hlt))).getD false from rfl, h3] at hun
  cases hun
theorem ZhC {P : Program} {id : Nat} {ops : Array Oper} {b : Bool} {Q : Exit → Act → World → Prop} {I : World → Prop} {w : World} {l : List Value} {ds : List Deferred} (Ps : List VP) (hm : P.follows .mixedOrders = true)
  (hchk : (chkD .any ops Ps.length l.length && decide (Ps.length = ops.size)) = true) (hI : ∀ w w', I w → Below w.heap.size w w' → I w') (hst : AllS Ps) (hw : I w) (hwd : I w.drew) (hop : AllOK (OpOK P .any ops Q I Ps l ds) Ps 0)
  (hend : ∀ (vs : Nat → Value) (w : World), I w → AllP vs w Ps 0 → (∀ i j, i < Ps.length → j < Ps.length → isAl ops i = true → isAl ops j = true → i ≠ j → vs i ≠ vs j) → Q .normal { tmps := (TE (dOf ops) vs (List.range Ps.length) l).toArray, defers := ds } w) :
  (Code.region id ops b).wp P Q { tmps := l.toArray, defers := ds } w := by
 have hA := hchk
 unfold chkD at hA
 simp only [Bool.and_eq_true] at hA
 exact ZaY hm hA.1.1.1 (Zil Ps hchk hI hst hw hwd hop hend)
theorem Zhl {P : Program} {ops : Array Oper} {Q : Exit → Act → World → Prop} {I : World → Prop} {w : World} {l : List Value} {ds : List Deferred} (Ps : List VP)
  (hchk : (chkD .any ops Ps.length l.length && decide (Ps.length + 1 = ops.size)) = true) (hI : ∀ w w', I w → Below w.heap.size w w' → I w') (hst : AllS Ps) (hw : I w) (hwd : I w.drew) (hop : AllOK (OpOK P .any ops Q I Ps l ds) Ps 0)
  (hend : ∀ (vs : Nat → Value) (w : World), I w → AllP vs w Ps 0 → (∀ i j, i < Ps.length → j < Ps.length → isAl ops i = true → isAl ops j = true → i ≠ j → vs i ≠ vs j) → wpOp P ops Q Ps.length (fun a w => Q .normal a w) { tmps := (TE (dOf ops) vs (List.range Ps.length) l).toArray, defers := ds } w) (w' : World) (hw' : w' = w ∨ w' = w.drew) :
  wpAnyH P .any ops Q (fun _ => True) ops.size (Array.replicate ops.size false) { tmps := l.toArray, defers := ds } w' := by
 simp only [Bool.and_eq_true, decide_eq_true_eq] at hchk
 obtain ⟨hchk, hsz⟩ := hchk
 have hA := hchk
 unfold chkD at hA
 simp only [Bool.and_eq_true] at hA
 have hLz : ∀ i, i < Ps.length → (LF (Array.replicate ops.size false) (List.range Ps.length) (fun _ => true)).getD i true = true := fun i hi => by
  have h3 := ZfC (L0 := Array.replicate ops.size false) (D := List.range Ps.length) (dn := fun _ => true) (j := i) (by simp; omega)
  rw [List.contains_iff_mem.2 (List.mem_range.2 hi), Bool.true_and, Bool.or_true] at h3
  rw [Array.getD_eq_getD_getElem?, Array.getElem?_eq_getElem (by rw [Zbz]; simp; omega)] at h3 ⊢
  exact h3
 have h0 := Zc6 (r := 1) (w := w') Ps hchk hI hst (by rcases hw' with rfl | rfl <;> assumption) hop (fun vs w1 h1 h2 hap => ?_)
 ·
  rwa [Nat.add_comm, hsz] at h0
 ·
  have h3 := hend vs w1 h1 (AllP.of Ps 0 (fun i hi => by rw [Nat.zero_add]; exact h2 i hi)) hap
  have hone : ∀ i, i ∈ Region.ready .any ops (LF (Array.replicate ops.size false) (List.range Ps.length) (fun _ => true)) → i = Ps.length := fun i hi => by
   obtain ⟨hun, o, ho, -⟩ := mem_ready.1 hi
   have hlt : i < ops.size := (Array.getElem?_eq_some_iff.1 ho).1
   rcases Nat.lt_or_ge i Ps.length with h | h
   ·
    rw [hLz i h] at hun; cases hun
   ·
    omega
  have hrd : Ps.length ∈ Region.ready .any ops (LF (Array.replicate ops.size false) (List.range Ps.length) (fun _ => true)) := by
   have hA1 := List.all_eq_true.1 hA.1.1 Ps.length (List.mem_range.2 (by omega))
   cases ho : ops[Ps.length]? with
   | none => rw [ho] at hA1; cases hA1
   | some o =>
    rw [ho] at hA1
    refine mem_ready.2 ⟨?_, o, ho, fun e he hb => ?_⟩
    ·
     have h4 := ZfC (L0 := Array.replicate ops.size false) (D := List.range Ps.length) (dn := fun _ => true) (j := Ps.length) (by simp; omega)
     rw [Array.getD_eq_getD_getElem?, Array.getElem?_eq_getElem (by rw [Zbz]; simp; omega)] at h4 ⊢
     rw [show ∀ x : Bool, (some x).getD true = (some x).getD false from fun _ => rfl, h4]
     have : (Array.replicate ops.size false).getD Ps.length false = false := by
      rw [Array.getD_eq_getD_getElem?, Array.getElem?_replicate]
      split <;> rfl
     rw [this]
     simp
    ·
     have h5 := Array.all_eq_true'.1 hA1 e he
     simp only [hb, Bool.not_true, Bool.false_or, decide_eq_true_eq] at h5
     have h6 := hLz e.on h5
     rw [Array.getD_eq_getD_getElem?, Array.getElem?_eq_getElem (by rw [Zbz]; simp; omega)] at h6 ⊢
     exact h6
  refine ⟨fun h => absurd hrd (by rw [h]; simp), fun i hi => ?_⟩
  obtain rfl := hone i hi
  refine wpOp_mono (fun a' w2 hq => ⟨trivial, ?_, hq⟩) h3
  refine List.eq_nil_iff_forall_not_mem.2 fun i hi => ?_
  obtain ⟨hun, o, ho, -⟩ := mem_ready.1 hi
  have hlt : i < ops.size := (Array.getElem?_eq_some_iff.1 ho).1
  by_cases hiz : Ps.length = i
  ·
   subst hiz
   simp [Zbz, hlt] at hun
  ·
   rw [getD_set_ne true hiz, hLz i (by omega)] at hun
   cases hun
theorem Zgt {P : Program} {id : Nat} {ops : Array Oper} {b : Bool} {Q : Exit → Act → World → Prop} {I : World → Prop} {w : World} {l : List Value} {ds : List Deferred} (Ps : List VP) (hm : P.follows .mixedOrders = true)
  (hchk : (chkD .any ops Ps.length l.length && decide (Ps.length + 1 = ops.size)) = true) (hI : ∀ w w', I w → Below w.heap.size w w' → I w') (hst : AllS Ps) (hw : I w) (hwd : I w.drew) (hop : AllOK (OpOK P .any ops Q I Ps l ds) Ps 0)
  (hend : ∀ (vs : Nat → Value) (w : World), I w → AllP vs w Ps 0 → (∀ i j, i < Ps.length → j < Ps.length → isAl ops i = true → isAl ops j = true → i ≠ j → vs i ≠ vs j) → wpOp P ops Q Ps.length (fun a w => Q .normal a w) { tmps := (TE (dOf ops) vs (List.range Ps.length) l).toArray, defers := ds } w) :
  (Code.region id ops b).wp P Q { tmps := l.toArray, defers := ds } w := by
 have hA := hchk
 unfold chkD at hA
 simp only [Bool.and_eq_true] at hA
 exact ZaY hm hA.1.1.1 (Zhl Ps hchk hI hst hw hwd hop hend)
theorem Zhm {P : Program} {ops : Array Oper} {Q : Exit → Act → World → Prop} {I : World → Prop} {w : World} {l : List Value} {ds : List Deferred} (Ps : List VP)
  (hchk : (chkD .any ops Ps.length l.length && (decide (Ps.length + 2 = ops.size) && waits .any ops (Ps.length + 1) Ps.length)) = true) (hI : ∀ w w', I w → Below w.heap.size w w' → I w') (hst : AllS Ps) (hw : I w) (hwd : I w.drew) (hop : AllOK (OpOK P .any ops Q I Ps l ds) Ps 0)
  (hend : ∀ (vs : Nat → Value) (w : World), I w → AllP vs w Ps 0 → (∀ i j, i < Ps.length → j < Ps.length → isAl ops i = true → isAl ops j = true → i ≠ j → vs i ≠ vs j) → wpOp P ops Q Ps.length (fun a w => wpOp P ops Q (Ps.length + 1) (fun a w => Q .normal a w) a w) { tmps := (TE (dOf ops) vs (List.range Ps.length) l).toArray, defers := ds } w) (w' : World) (hw' : w' = w ∨ w' = w.drew) :
  wpAnyH P .any ops Q (fun _ => True) ops.size (Array.replicate ops.size false) { tmps := l.toArray, defers := ds } w' := by
 simp only [Bool.and_eq_true, decide_eq_true_eq] at hchk
 obtain ⟨hchk, hsz, hwt⟩ := hchk
 have hA := hchk
 unfold chkD at hA
 simp only [Bool.and_eq_true] at hA
 have hLs : (LF (Array.replicate ops.size false) (List.range Ps.length) (fun _ => true)).size = ops.size := by rw [Zbz]; simp
 have hgt : ∀ (L : Array Bool) i, L.size = ops.size → i < ops.size → L.getD i true = L.getD i false := fun L i hL hi => by
  rw [Array.getD_eq_getD_getElem?, Array.getD_eq_getD_getElem?, Array.getElem?_eq_getElem (by omega)]
  rfl
 have hLf : ∀ i, i < ops.size → (LF (Array.replicate ops.size false) (List.range Ps.length) (fun _ => true)).getD i false = decide (i < Ps.length) := fun i hi => by
  rw [ZfC (by simpa using hi)]
  have : (Array.replicate ops.size false).getD i false = false := by
   rw [Array.getD_eq_getD_getElem?, Array.getElem?_replicate]
   split <;> rfl
  rw [this, Bool.false_or, Bool.and_true]
  by_cases h : i < Ps.length
  ·
   rw [decide_eq_true h]; exact List.contains_iff_mem.2 (List.mem_range.2 h)
  ·
   rw [decide_eq_false h, ← Bool.not_eq_true, List.contains_iff_mem, List.mem_range]; exact h
 have hop1 : ∀ k, k < ops.size → ∃ o, ops[k]? = some o ∧ ∀ e ∈ o.after, Region.binds .any e = true → e.on < k := fun k hk => by
  have hA1 := List.all_eq_true.1 hA.1.1 k (List.mem_range.2 hk)
  cases ho : ops[k]? with
  | none => rw [ho] at hA1; cases hA1
  | some o =>
   rw [ho] at hA1
   refine ⟨o, rfl, fun e he hb => ?_⟩
   have h5 := Array.all_eq_true'.1 hA1 e he
   simpa [hb] using h5
 have hwt' : ∃ o, ops[Ps.length + 1]? = some o ∧ ∃ e ∈ o.after, Region.binds .any e = true ∧ e.on = Ps.length := by
  unfold waits at hwt
  cases ho : ops[Ps.length + 1]? with
  | none => rw [ho] at hwt; cases hwt
  | some o =>
   rw [ho] at hwt
   simp only [Array.any_eq_true, Bool.and_eq_true, beq_iff_eq] at hwt
   obtain ⟨x, hx, hb, he⟩ := hwt
   exact ⟨o, rfl, _, Array.getElem_mem hx, hb, he⟩
 have h0 := Zc6 (r := 2) (w := w') Ps hchk hI hst (by rcases hw' with rfl | rfl <;> assumption) hop (fun vs w1 h1 h2 hap => ?_)
 ·
  rwa [Nat.add_comm, hsz] at h0
 ·
  have h3 := hend vs w1 h1 (AllP.of Ps 0 (fun i hi => by rw [Nat.zero_add]; exact h2 i hi)) hap
  refine ⟨fun h => ?_, fun i hi => ?_⟩
  ·
   obtain ⟨o, ho, hb⟩ := hop1 Ps.length (by omega)
   refine absurd (mem_ready.2 ⟨?_, o, ho, fun e he hbe => ?_⟩ : Ps.length ∈ Region.ready .any ops (LF (Array.replicate ops.size false) (List.range Ps.length) (fun _ => true))) (by rw [h]; simp)
   ·
    rw [hgt _ _ hLs (by omega), hLf _ (by omega)]; simp
   ·
    rw [hLf _ (by have := hb e he hbe; omega)]; simpa using hb e he hbe
  ·
   obtain ⟨hun, o, ho, hed⟩ := mem_ready.1 hi
   have hlt : i < ops.size := (Array.getElem?_eq_some_iff.1 ho).1
   have hge : ¬ i < Ps.length := fun h => by
    rw [hgt _ _ hLs hlt, hLf i hlt, decide_eq_true h] at hun
    cases hun
   have hin : i = Ps.length := by
    rcases (show i = Ps.length ∨ i = Ps.length + 1 by omega) with h | h
    ·
     exact h
    ·
     subst h
     obtain ⟨o', ho', e, he, hb, hon⟩ := hwt'
     rw [ho] at ho'
     cases ho'
     have h6 := hed e he hb
     rw [hon, hLf _ (by omega)] at h6
     simp at h6
   subst hin
   refine wpOp_mono (fun a2 w2 hq => ⟨trivial, fun h => ?_, fun i hi => ?_⟩) h3
   ·
    obtain ⟨o, ho, hb⟩ := hop1 (Ps.length + 1) (by omega)
    refine absurd (mem_ready.2 ⟨?_, o, ho, fun e he hbe => ?_⟩ : Ps.length + 1 ∈ Region.ready .any ops _) (by rw [h]; simp)
    ·
     rw [getD_set_ne true (by omega), hgt _ _ hLs (by omega), hLf _ (by omega)]; simp
    ·
     by_cases hon : Ps.length = e.on
     ·
      rw [← hon]; simp [hLs]; omega
     ·
      rw [getD_set_ne false hon, hLf _ (by have := hb e he hbe; omega)]
      have := hb e he hbe
      simp; omega
   ·
    obtain ⟨hun, o, ho, hed⟩ := mem_ready.1 hi
    have hlt : i < ops.size := (Array.getElem?_eq_some_iff.1 ho).1
    have hin : i = Ps.length + 1 := by
     by_cases hiz : Ps.length = i
     ·
      subst hiz
      simp [hLs, hlt] at hun
     ·
      rw [getD_set_ne true hiz, hgt _ _ hLs hlt, hLf i hlt] at hun
      simp at hun
      omega
    subst hin
    refine wpOp_mono (fun a3 w3 hq => ⟨trivial, ?_, hq⟩) hq
    refine List.eq_nil_iff_forall_not_mem.2 fun i hi => ?_
    obtain ⟨hun, o, ho, -⟩ := mem_ready.1 hi
    have hlt : i < ops.size := (Array.getElem?_eq_some_iff.1 ho).1
    by_cases hiz : Ps.length + 1 = i
    ·
     subst hiz
     simp [hLs, hlt] at hun
    ·
     rw [getD_set_ne true hiz] at hun
     by_cases hiz : Ps.length = i
     ·
      subst hiz
      simp [hLs, hlt] at hun
     ·
      rw [getD_set_ne true hiz, hgt _ _ hLs hlt, hLf i hlt] at hun
      simp at hun
      omega
theorem Zgu {P : Program} {id : Nat} {ops : Array Oper} {b : Bool} {Q : Exit → Act → World → Prop} {I : World → Prop} {w : World} {l : List Value} {ds : List Deferred} (Ps : List VP) (hm : P.follows .mixedOrders = true)
  (hchk : (chkD .any ops Ps.length l.length && (decide (Ps.length + 2 = ops.size) && waits .any ops (Ps.length + 1) Ps.length)) = true) (hI : ∀ w w', I w → Below w.heap.size w w' → I w') (hst : AllS Ps) (hw : I w) (hwd : I w.drew) (hop : AllOK (OpOK P .any ops Q I Ps l ds) Ps 0)
  (hend : ∀ (vs : Nat → Value) (w : World), I w → AllP vs w Ps 0 → (∀ i j, i < Ps.length → j < Ps.length → isAl ops i = true → isAl ops j = true → i ≠ j → vs i ≠ vs j) → wpOp P ops Q Ps.length (fun a w => wpOp P ops Q (Ps.length + 1) (fun a w => Q .normal a w) a w) { tmps := (TE (dOf ops) vs (List.range Ps.length) l).toArray, defers := ds } w) :
  (Code.region id ops b).wp P Q { tmps := l.toArray, defers := ds } w := by
 have hA := hchk
 unfold chkD at hA
 simp only [Bool.and_eq_true] at hA
 exact ZaY hm hA.1.1.1 (Zhm Ps hchk hI hst hw hwd hop hend)
def TV : List Nat → List Value → List Value → List Value
 | d :: ds, v :: vs, l => TV ds vs (l.set d v)
 | _, _, l => l
theorem Zgv (dst : Nat → Nat) (vs : Nat → Value) : ∀ (D : List Nat) (l : List Value), TE dst vs D l = TV (D.map dst) (D.map vs) l
 | [], _ => rfl
 | i :: D, l => Zgv dst vs D (l.set (dst i) (vs i))
def EndP (w : World) : List VP → (List Value → Prop) → Prop
 | [], k => k []
 | p :: Ps, k => ∀ v, p v w → EndP w Ps (fun vs => k (v :: vs))
theorem EndP.get {vs : Nat → Value} {w : World} : ∀ (Ps : List VP) (i : Nat) (k : List Value → Prop), EndP w Ps k → AllP vs w Ps i → k ((List.range' i Ps.length).map vs)
 | [], _, _, h, _ => h
 | p :: Ps, i, k, h, hp => by
  have := EndP.get Ps (i + 1) _ (h _ hp.1) hp.2
  rw [List.length_cons, List.range'_succ, List.map_cons]
  exact this
def Apt (ops : Array Oper) (n : Nat) (vl : List Value) : Prop := ∀ i j, (decide (i < n) && decide (j < n) && isAl ops i && isAl ops j && i != j) = true → vl[i]? ≠ vl[j]?
theorem Apt.of {ops : Array Oper} {n : Nat} {vs : Nat → Value} (hap : ∀ i j, i < n → j < n → isAl ops i = true → isAl ops j = true → i ≠ j → vs i ≠ vs j) : Apt ops n ((List.range' 0 n).map vs) := by
 intro i j hij
 simp only [Bool.and_eq_true, decide_eq_true_eq, bne_iff_ne] at hij
 obtain ⟨⟨⟨⟨h1, h2⟩, h3⟩, h4⟩, h5⟩ := hij
 rw [List.getElem?_map, List.getElem?_map, List.getElem?_range' h1, List.getElem?_range' h2]
 simp only [Option.map_some, ne_eq, Option.some.injEq, Nat.zero_add, Nat.one_mul]
 exact hap i j h1 h2 h3 h4 h5
theorem EndP.mono' {w : World} : ∀ {Ps : List VP} {k k' : List Value → Prop}, EndP w Ps k → (∀ vs, k vs → k' vs) → EndP w Ps k'
 | [], _, _, h, hm => hm _ h
 | _ :: Ps, _, _, h, hm => fun u hu => EndP.mono' (Ps := Ps) (h u hu) (fun vs => hm (u :: vs))
theorem ZfD {P : Program} {ops : Array Oper} {Q : Exit → Act → World → Prop} {I : World → Prop} {w : World} {l : List Value} {ds : List Deferred} (Ps : List VP)
  (hchk : (chkD .any ops Ps.length l.length && decide (Ps.length = ops.size)) = true) (hI : ∀ w w', I w → Below w.heap.size w w' → I w') (hst : AllS Ps) (hw : I w) (hwd : I w.drew) (hop : AllOK (OpOK P .any ops Q I Ps l ds) Ps 0)
  (hend : ∀ (w : World), I w → EndP w Ps (fun vl => Apt ops Ps.length vl → ∀ l', l' = TV ((List.range Ps.length).map (dOf ops)) vl l → Q .normal { tmps := l'.toArray, defers := ds } w)) (w' : World) (hw' : w' = w ∨ w' = w.drew) :
  wpAnyH P .any ops Q (fun _ => True) ops.size (Array.replicate ops.size false) { tmps := l.toArray, defers := ds } w' :=
 Zil Ps hchk hI hst hw hwd hop (fun vs w h hp hap => by
  have := (hend w h).get Ps 0 _ hp
  rw [Zgv, List.range_eq_range'] at *
  exact this (Apt.of hap) _ rfl) w' hw'
theorem ZfE {P : Program} {id : Nat} {ops : Array Oper} {b : Bool} {Q : Exit → Act → World → Prop} {I : World → Prop} {w : World} {l : List Value} {ds : List Deferred} (Ps : List VP) (hm : P.follows .mixedOrders = true)
  (hchk : (chkD .any ops Ps.length l.length && decide (Ps.length = ops.size)) = true) (hI : ∀ w w', I w → Below w.heap.size w w' → I w') (hst : AllS Ps) (hw : I w) (hwd : I w.drew) (hop : AllOK (OpOK P .any ops Q I Ps l ds) Ps 0)
  (hend : ∀ (w : World), I w → EndP w Ps (fun vl => Apt ops Ps.length vl → ∀ l', l' = TV ((List.range Ps.length).map (dOf ops)) vl l → Q .normal { tmps := l'.toArray, defers := ds } w)) :
  (Code.region id ops b).wp P Q { tmps := l.toArray, defers := ds } w :=
 ZhC Ps hm hchk hI hst hw hwd hop (fun vs w h hp hap => by
  have := (hend w h).get Ps 0 _ hp
  rw [Zgv, List.range_eq_range'] at *
  exact this (Apt.of hap) _ rfl)
theorem Ze0 {P : Program} {ops : Array Oper} {Q : Exit → Act → World → Prop} {I : World → Prop} {w : World} {l : List Value} {ds : List Deferred} (Ps : List VP)
  (hchk : (chkD .any ops Ps.length l.length && decide (Ps.length + 1 = ops.size)) = true) (hI : ∀ w w', I w → Below w.heap.size w w' → I w') (hst : AllS Ps) (hw : I w) (hwd : I w.drew) (hop : AllOK (OpOK P .any ops Q I Ps l ds) Ps 0)
  (hend : ∀ (w : World), I w → EndP w Ps (fun vl => Apt ops Ps.length vl → ∀ l', l' = TV ((List.range Ps.length).map (dOf ops)) vl l → wpOp P ops Q Ps.length (fun a w => Q .normal a w) { tmps := l'.toArray, defers := ds } w)) (w' : World) (hw' : w' = w ∨ w' = w.drew) :
  wpAnyH P .any ops Q (fun _ => True) ops.size (Array.replicate ops.size false) { tmps := l.toArray, defers := ds } w' :=
 Zhl Ps hchk hI hst hw hwd hop (fun vs w h hp hap => by
  have := (hend w h).get Ps 0 _ hp
  rw [Zgv, List.range_eq_range'] at *
  exact this (Apt.of hap) _ rfl) w' hw'
theorem ZeP {P : Program} {id : Nat} {ops : Array Oper} {b : Bool} {Q : Exit → Act → World → Prop} {I : World → Prop} {w : World} {l : List Value} {ds : List Deferred} (Ps : List VP) (hm : P.follows .mixedOrders = true)
  (hchk : (chkD .any ops Ps.length l.length && decide (Ps.length + 1 = ops.size)) = true) (hI : ∀ w w', I w → Below w.heap.size w w' → I w') (hst : AllS Ps) (hw : I w) (hwd : I w.drew) (hop : AllOK (OpOK P .any ops Q I Ps l ds) Ps 0)
  (hend : ∀ (w : World), I w → EndP w Ps (fun vl => Apt ops Ps.length vl → ∀ l', l' = TV ((List.range Ps.length).map (dOf ops)) vl l → wpOp P ops Q Ps.length (fun a w => Q .normal a w) { tmps := l'.toArray, defers := ds } w)) :
  (Code.region id ops b).wp P Q { tmps := l.toArray, defers := ds } w :=
 Zgt Ps hm hchk hI hst hw hwd hop (fun vs w h hp hap => by
  have := (hend w h).get Ps 0 _ hp
  rw [Zgv, List.range_eq_range'] at *
  exact this (Apt.of hap) _ rfl)
theorem ZcU {P : Program} {ops : Array Oper} {Q : Exit → Act → World → Prop} {I : World → Prop} {w : World} {l : List Value} {ds : List Deferred} (Ps : List VP)
  (hchk : (chkD .any ops Ps.length l.length && (decide (Ps.length + 2 = ops.size) && waits .any ops (Ps.length + 1) Ps.length)) = true) (hI : ∀ w w', I w → Below w.heap.size w w' → I w') (hst : AllS Ps) (hw : I w) (hwd : I w.drew) (hop : AllOK (OpOK P .any ops Q I Ps l ds) Ps 0)
  (hend : ∀ (w : World), I w → EndP w Ps (fun vl => Apt ops Ps.length vl → ∀ l', l' = TV ((List.range Ps.length).map (dOf ops)) vl l → wpOp P ops Q Ps.length (fun a w => wpOp P ops Q (Ps.length + 1) (fun a w => Q .normal a w) a w) { tmps := l'.toArray, defers := ds } w)) (w' : World) (hw' : w' = w ∨ w' = w.drew) :
  wpAnyH P .any ops Q (fun _ => True) ops.size (Array.replicate ops.size false) { tmps := l.toArray, defers := ds } w' :=
 Zhm Ps hchk hI hst hw hwd hop (fun vs w h hp hap => by
  have := (hend w h).get Ps 0 _ hp
  rw [Zgv, List.range_eq_range'] at *
  exact this (Apt.of hap) _ rfl) w' hw'
theorem ZeQ {P : Program} {id : Nat} {ops : Array Oper} {b : Bool} {Q : Exit → Act → World → Prop} {I : World → Prop} {w : World} {l : List Value} {ds : List Deferred} (Ps : List VP) (hm : P.follows .mixedOrders = true)
  (hchk : (chkD .any ops Ps.length l.length && (decide (Ps.length + 2 = ops.size) && waits .any ops (Ps.length + 1) Ps.length)) = true) (hI : ∀ w w', I w → Below w.heap.size w w' → I w') (hst : AllS Ps) (hw : I w) (hwd : I w.drew) (hop : AllOK (OpOK P .any ops Q I Ps l ds) Ps 0)
  (hend : ∀ (w : World), I w → EndP w Ps (fun vl => Apt ops Ps.length vl → ∀ l', l' = TV ((List.range Ps.length).map (dOf ops)) vl l → wpOp P ops Q Ps.length (fun a w => wpOp P ops Q (Ps.length + 1) (fun a w => Q .normal a w) a w) { tmps := l'.toArray, defers := ds } w)) :
  (Code.region id ops b).wp P Q { tmps := l.toArray, defers := ds } w :=
 Zgu Ps hm hchk hI hst hw hwd hop (fun vs w h hp hap => by
  have := (hend w h).get Ps 0 _ hp
  rw [Zgv, List.range_eq_range'] at *
  exact this (Apt.of hap) _ rfl)
theorem Zgw {P : Program} {id : Nat} {ops : Array Oper} {b : Bool} {Q : Exit → Act → World → Prop} {I : World → Prop} {w : World} {l : List Value} {ds : List Deferred} (Ps : List VP) (hm : P.follows .mixedOrders = true)
  (hchk : (chkD .any ops Ps.length l.length && decide (Ps.length = ops.size)) = true) (hI : ∀ w w', I w → Below w.heap.size w w' → I w') (hst : AllS Ps) (hw : I w) (hwd : I w.drew) (hop : AllOK (OpOK P .any ops Q I Ps l ds) Ps 0)
  (hend : ∀ (w : World), I w → EndP w Ps (fun vl => ∀ l', l' = TV ((List.range Ps.length).map (dOf ops)) vl l → Q .normal { tmps := l'.toArray, defers := ds } w)) :
  (Code.region id ops b).wp P Q { tmps := l.toArray, defers := ds } w :=
 ZfE Ps hm hchk hI hst hw hwd hop (fun w h => (hend w h).mono' fun _ h _ => h)
theorem ZfF {P : Program} {id : Nat} {ops : Array Oper} {b : Bool} {Q : Exit → Act → World → Prop} {I : World → Prop} {w : World} {l : List Value} {ds : List Deferred} (Ps : List VP) (hm : P.follows .mixedOrders = true)
  (hchk : (chkD .any ops Ps.length l.length && decide (Ps.length + 1 = ops.size)) = true) (hI : ∀ w w', I w → Below w.heap.size w w' → I w') (hst : AllS Ps) (hw : I w) (hwd : I w.drew) (hop : AllOK (OpOK P .any ops Q I Ps l ds) Ps 0)
  (hend : ∀ (w : World), I w → EndP w Ps (fun vl => ∀ l', l' = TV ((List.range Ps.length).map (dOf ops)) vl l → wpOp P ops Q Ps.length (fun a w => Q .normal a w) { tmps := l'.toArray, defers := ds } w)) :
  (Code.region id ops b).wp P Q { tmps := l.toArray, defers := ds } w :=
 ZeP Ps hm hchk hI hst hw hwd hop (fun w h => (hend w h).mono' fun _ h _ => h)
theorem Zmn {P : Program} {fn : Func} {R : Ending → World → Prop} {l : List Value} {w : World} (j : Nat) (v : Value) (hf : fn.results = #[.tmp j]) (hl : l[j]? = some v) (h : R (.returned v) w) : bodyPost P fn R .ret { tmps := l.toArray, defers := [] } w := by
 refine bodyPost_ret_by (v := v) ?_ rfl h
 unfold results
 rw [hf]
 simp [Array.getD_eq_getD_getElem?, hl]
end Go.Proofs.YtcbdbnfgnonacaaGreat
