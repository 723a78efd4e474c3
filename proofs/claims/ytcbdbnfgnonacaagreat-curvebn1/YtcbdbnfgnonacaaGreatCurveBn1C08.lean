/-
 Whole functions of exact values, reckoned: regions, code, functions.
-/
import Derived.Test.YtcbdbnfgnonacaaGreatCurveBn1C07
namespace Go.Proofs.YtcbdbnfgnonacaaGreat
open Go.RowKit Go.Shelf
section
variable {P : Program} {sz : Nat → Nat} {A : Al sz} {E : Env} {N : Nat} {w W : World} {L : List Value} {st st' : SSt} {β : Nat → Nat}
theorem ZlB {s s' : SSt} (h : wfS s = some s') : s = s' ∧ s'.wf = true := by
 unfold wfS at h
 split at h
 ·
  rename_i hw
  cases h
  exact ⟨rfl, hw⟩
 ·
  cases h
theorem ZlC {os : List Oper} {n : Nat} (h : regN P sz E N st os n = some st') (hE : EnvOK P A E w) (S : SS A β w W L N st) {Q : Exit → Act → World → Prop} (hQ : ∀ V L' β', SS A β' w V L' N st' → Q .normal (Tm L') V) (w' : World) (hw' : w' = W ∨ w' = W.drew) : wpAnyH P .any os.toArray Q (fun _ => True) os.toArray.size (Array.replicate os.toArray.size false) (Tm L) w' := by
 unfold regN at h
 simp only at h
 split at h
 ·
  rename_i hchk
  split at h
  ·
   rename_i Gs hgo
   split at h
   ·
    rename_i hc
    rw [Bool.and_eq_true] at hc
    split at h
    ·
     rename_i st1 hst1
     obtain ⟨e1, hw1⟩ := ZlB hst1
     obtain ⟨r, er, hlr, hstep⟩ := Zl7 hgo
     have hlen : Gs.length = n := by rw [er]; simpa using hlr
     subst hlen
     have hst0 := S.wf
     unfold SSt.wf at hst0
     rw [Bool.and_eq_true] at hst0
     have hop : ∀ Q, AllOK (OpOK P .any os.toArray Q (Up W) (PDs (GDs W.heap.size (Gs.map (SR.gd A β)))) L []) (PDs (GDs W.heap.size (Gs.map (SR.gd A β)))) 0 := fun Q => AllOK.all _ _ fun i hi => by
      rw [Zbg, ZdM, List.length_map] at hi
      rw [Nat.zero_add]
      have h1 := hstep i (by simp) hi
      have h2 : Gs[i]? = some Gs[i] := List.getElem?_eq_getElem hi
      exact Zk7 hE S.gs.up S.gs.bx S.gs.ks (h1.trans h2) h2
     have hnk : ∀ (β' : Nat → Nat), (∀ j, j < st.bl.length → β' j = β j) → ∀ vals live, nkOf os.toArray Gs.length (knD A β st.kn) (vals.map (A.sv β')) live = knD A β' (nextS ((List.range Gs.length).map (dOf os.toArray)) vals st.kn live) := fun β' hβ vals live => by
      unfold nkOf
      rw [Zg1 (fun j hj => (hβ j hj).symm) hst0.1, Zmx]
     have key : ∀ (V : World) (R : List Value → Prop), Up W V → (∀ L' β', SS A β' w V L' N st1 → R L') → EndP V (PDs (GDs W.heap.size (Gs.map (SR.gd A β)))) (fun vl => Apt os.toArray Gs.length vl → ∀ l', l' = TV ((List.range Gs.length).map (dOf os.toArray)) vl L → R l') := fun V R hV hR => by
      have := S.gs.last (R := R) (Gs := Gs.map (SR.gd A β)) (ops := os.toArray) hV (by rw [ZiD]; exact hc.1) (by rw [List.length_map]; exact hchk)
       (ZiF (n0 := st.bl.length) Gs st.bl [] β (Nat.le_refl _) hc.2 (fun _ h => by cases h) hst0.2 (fun β' hβ L' hL' => hR L' β' ⟨?_, hw1⟩))
      ·
       rw [List.length_map] at this
       exact this
      ·
       rw [List.length_map] at hL'
       rw [← e1]
       refine ⟨hL'.up, hL'.len, ?_, hL'.bx, hL'.nw⟩
       have := hL'.ks (((List.range Gs.length).map (dOf os.toArray)) ++ (st.kn.map (·.1)).filter (!((List.range Gs.length).map (dOf os.toArray)).contains ·))
       rw [hnk β' hβ] at this
       exact this
     have hpl : (PDs (GDs W.heap.size (Gs.map (SR.gd A β)))).length = Gs.length := by rw [Zbg, ZdM, List.length_map]
     split at h
     ·
      rename_i hz
      cases h
      refine ZfD (I := Up W) _ (by rw [hpl, S.gs.len, hchk]; simpa using hz) ZbI (ZcJ _ _).all (Below.refl _ _) (Below.refl _ _).drew (hop _) (fun V hV => ?_) w' hw'
      rw [hpl]
      exact key V _ hV fun L' β' hS => hQ V L' β' hS
     ·
      split at h
      ·
       rename_i hz
       split at h
       ·
        rename_i o ho
        refine Ze0 (I := Up W) _ (by rw [hpl, S.gs.len, hchk]; simpa using hz) ZbI (ZcJ _ _).all (Below.refl _ _) (Below.refl _ _).drew (hop _) (fun V hV => ?_) w' hw'
        rw [hpl]
        exact key V _ hV fun L' β' hS => Zhu h hS (fun U L2 hU => hQ U L2 β' hU) ho
       ·
        cases h
      ·
       split at h
       ·
        rename_i hz
        rw [Bool.and_eq_true] at hz
        split at h
        ·
         rename_i o o2 ho ho2
         cases hs2 : (stS P sz st1 o).bind wfS with
         | none => rw [hs2] at h; cases h
         | some st2 =>
          rw [hs2] at h
          have h : (lateS P sz N st2 o2).bind wfS = some st' := h
          refine ZcU (I := Up W) _ (by rw [hpl, S.gs.len, hchk]; simpa using hz) ZbI (ZcJ _ _).all (Below.refl _ _) (Below.refl _ _).drew (hop _) (fun V hV => ?_) w' hw'
          rw [hpl]
          exact key V _ hV fun L' β' hS => ZlA hs2 hS (fun U hU => Zhu h hU (fun U' L2 hU' => hQ U' L2 β' hU') ho2) ho
        ·
         cases h
       ·
        cases h
    ·
     cases h
   ·
    cases h
  ·
   cases h
 ·
  cases h
theorem ZiI {os : List Oper} (h : regS P sz E N st os = some st') (hE : EnvOK P A E w) (S : SS A β w W L N st) {Q : Exit → Act → World → Prop} (hQ : ∀ V L' β', SS A β' w V L' N st' → Q .normal (Tm L') V) (w' : World) (hw' : w' = W ∨ w' = W.drew) : wpAnyH P .any os.toArray Q (fun _ => True) os.toArray.size (Array.replicate os.toArray.size false) (Tm L) w' := by
 unfold regS at h
 simp only at h
 split at h
 ·
  rename_i s1 h1
  cases h
  exact ZlC h1 hE S hQ w' hw'
 ·
  exact ZlC h hE S hQ w' hw'
theorem ZlD {os : List Oper} {n : Nat} (h : regN P sz E N st os n = some st') : ((List.range os.toArray.size).all fun i => match os.toArray[i]? with
  | some o => o.after.all fun e => !Region.binds .any e || decide (e.on < i)
  | none => false) = true := by
 unfold regN at h
 split at h
 ·
  rename_i hchk
  unfold chkD at hchk
  simp only [Bool.and_eq_true] at hchk
  exact hchk.1.1
 ·
  cases h
theorem regS_A {os : List Oper} (h : regS P sz E N st os = some st') : ((List.range os.toArray.size).all fun i => match os.toArray[i]? with
  | some o => o.after.all fun e => !Region.binds .any e || decide (e.on < i)
  | none => false) = true := by
 unfold regS at h
 simp only at h
 split at h
 ·
  rename_i s1 h1
  exact ZlD h1
 ·
  exact ZlD h
theorem Zm3 (hm : P.follows .mixedOrders = true) {os : List Oper} (h : regS P sz E N st os = some st') (hE : EnvOK P A E w) (S : SS A β w W L N st) {Q : Exit → Act → World → Prop} {id : Nat} {b : Bool} (hQ : ∀ V L' β', SS A β' w V L' N st' → Q .normal (Tm L') V) : (Code.region id os.toArray b).wp P Q (Tm L) W :=
 ZaY hm (regS_A h) (ZiI h hE S hQ)
def xqS (os : List Oper) (n : Nat) : Nat := ((List.range n).find? fun i => (match os[i]? with
 | some o => (match o.op with
  | .extract _ _ => true
  | _ => false)
 | none => false) && !waits .any os.toArray n i).getD 0
def regX (P : Program) (sz : Nat → Nat) (E : Env) (N : Nat) (st : SSt) (os : List Oper) : Option SSt :=
 let n := (os.takeWhile fun o => o.dst.isSome).length
 let q := xqS os n
 if xchk os.toArray n q && ((List.range os.toArray.size).all fun i => match os.toArray[i]? with
  | some o => o.after.all fun e => !Region.binds .any e || decide (e.on < i)
  | none => false) then regS P sz E N st (waitE os.toArray n q).toList else none
theorem Zm4 (hm : P.follows .mixedOrders = true) {os : List Oper} (h : regX P sz E N st os = some st') (hE : EnvOK P A E w) (S : SS A β w W L N st) {Q : Exit → Act → World → Prop} {id : Nat} {b : Bool} (hQ : ∀ V L' β', SS A β' w V L' N st' → Q .normal (Tm L') V) : (Code.region id os.toArray b).wp P Q (Tm L) W := by
 unfold regX at h
 simp only at h
 split at h
 ·
  rename_i hc
  rw [Bool.and_eq_true] at hc
  refine ZaY hm hc.2 fun w' hw' => ?_
  refine Zff hc.1 _ _ _ _ (by simp) ?_
  have := ZiI h hE S (Q := Qn Q) (fun V L' β' hS => ⟨rfl, hQ V L' β' hS⟩) w' hw'
  rw [Array.toArray_toList, Zcv] at this
  exact this
 ·
  cases h
end
def allK (kn : List (Nat × SV)) : List Operand → Option (List SV)
 | [] => some []
 | x :: r => match opK kn x, allK kn r with
  | some v, some vs => some (v :: vs)
  | _, _ => none
def seqV (P : Program) (sz : Nat → Nat) (E : Env) (st : SSt) (d : Nat) (op : Op) : Option SSt := match op with
 | .alloc t => (zeQ P E t).map fun l => ⟨setK st.kn d (.one (.bp st.bl.length 0)), (l, t) :: st.bl⟩
 | .call c => match c.callee with
  | .value (.func f) => match allK st.kn c.args.toList with
   | some xs => (E.T f xs).map fun y => ⟨setK st.kn d y, st.bl⟩
   | none => none
  | _ => none
 | op => match Zbm op with
  | some rs => match allK st.kn rs with
   | some xs => (opQ P sz E st.bl op xs).map fun y => ⟨setK st.kn d y, st.bl⟩
   | none => none
  | none => none
def seqO (P : Program) (sz : Nat → Nat) (E : Env) (N : Nat) (st : SSt) (o : Oper) : Option SSt := match o.guard, o.dst with
 | none, none => (stS P sz st o).bind wfS
 | none, some d => if d < N then (seqV P sz E st d o.op).bind wfS else none
 | _, _ => none
def seqS (P : Program) (sz : Nat → Nat) (E : Env) (N : Nat) : List Oper → SSt → Option SSt
 | [], st => some st
 | o :: r, st => match seqO P sz E N st o with
  | some st' => seqS P sz E N r st'
  | none => none
section
variable {P : Program} {sz : Nat → Nat} {A : Al sz} {E : Env} {N : Nat} {w W : World} {L : List Value} {st st' : SSt} {β : Nat → Nat}
theorem Zg7 {n : Nat} (S : GS w W L n (knD A β st.kn) (blD A β st.bl)) : ∀ {rs : List Operand} {xs : List SV}, allK st.kn rs = some xs → rs.map (Act.eval (Tm L)) = xs.map (A.sv β)
 | [], xs, h => by cases h; rfl
 | x :: r, xs, h => by
  unfold allK at h
  split at h
  ·
   rename_i v vs h1 h2
   cases h
   rw [List.map_cons, List.map_cons, Zht S h1, Zg7 S h2]
  ·
   cases h
theorem Zm5 (hE : EnvOK P A E w) {ops : Array Oper} {r : List Oper} {o : Oper} (h : seqO P sz E N st o = some st') (S : SS A β w W L N st) {Q : Exit → Act → World → Prop} (hQ : ∀ V L' β', SS A β' w V L' N st' → wpList P ops Q r (Tm L') V) : wpList P ops Q (o :: r) (Tm L) W := by
 unfold seqO at h
 split at h
 ·
  rename_i hg hd
  refine wpList_plain hg fun K hK => ?_
  exact (Zl9 h S (fun V hS => hK _ _ (hQ V L β hS))).2
 ·
  rename_i d hg hd
  split at h
  ·
   rename_i hdN
   cases hv : seqV P sz E st d o.op with
   | none => rw [hv] at h; cases h
   | some s1 =>
    rw [hv] at h
    obtain ⟨e1, hw⟩ := ZlB h
    subst e1
    have hdl : d < L.length := by rw [S.gs.len]; exact hdN
    have hV := S.gs.up
    refine wpList_plain hg fun K hK => ?_
    have val : ∀ (y : SV), s1 = ⟨setK st.kn d y, st.bl⟩ → ∀ V, Below W.heap.size W V → K (Act.put (Tm L) o.dst (A.sv β y)) V := fun y e V hb => by
     rw [hd, Zaa]
     refine hK _ _ (hQ V _ β ⟨⟨S.gs.up.trans (hb.mono S.gs.up.size), by rw [List.length_set]; exact S.gs.len, ?_, ?_, ?_⟩, hw⟩)
     ·
      rw [e]
      exact ZiH S.gs.ks hdl
     ·
      rw [e]
      exact S.gs.bx.moved hb
     ·
      rw [e]
      exact S.gs.nw
    unfold seqV at hv
    split at hv
    ·
     rename_i t hop
     obtain ⟨l, hl, e⟩ := Option.map_eq_some_iff.1 hv
     have hst := S.wf
     unfold SSt.wf at hst
     rw [Bool.and_eq_true] at hst
     let β1 : Nat → Nat := fun j => if j = st.bl.length then W.heap.size else β j
     have e1 : ∀ j, j < st.bl.length → β j = β1 j := fun j hj => by show β j = if j = st.bl.length then W.heap.size else β j; rw [if_neg (by omega)]
     have hB : β1 st.bl.length = W.heap.size := if_pos rfl
     have hv1 : A.sv β1 (.one (.bp st.bl.length 0)) = .pointer (some ⟨W.heap.size, 0, none⟩) := by simp only [Al.sv, Al.sc, hB]
     have e2 := ZaJ (ρ := Act.eval (Tm L)) hop (ZfO hE hl β1 W)
     unfold Oper.wp
     rw [e2]
     show K _ _
     rw [hd, Zaa, ← hv1]
     have kb : blD A β1 s1.bl = (W.heap.size, (A.rw β1 l).toArray, t) :: blD A β st.bl := by
      rw [← e, Zg2 e1 (Nat.le_refl _) hst.2]
      show (β1 st.bl.length, _, _) :: _ = _
      rw [hB]
     refine hK _ _ (hQ (W.alloc _) _ β1 ⟨⟨S.gs.up.trans ((Zaq W _).mono S.gs.up.size), by rw [List.length_set]; exact S.gs.len, ?_, ?_, ?_⟩, hw⟩)
     ·
      rw [← e]
      have := S.gs.ks
      rw [Zg1 e1 hst.1] at this
      exact ZiH this hdl
     ·
      rw [kb]
      exact S.gs.bx.cons (S.gs.bx.moved (Zaq _ _)) (Nat.le_refl _) ⟨Zaf _ _⟩
     ·
      rw [kb]
      intro x hx
      rcases List.mem_cons.1 hx with rfl | hx
      ·
       exact S.gs.up.size
      ·
       exact S.gs.nw x hx
    ·
     rename_i c hop
     split at hv
     ·
      rename_i f hc
      split at hv
      ·
       rename_i xs hxs
       obtain ⟨y, hy, e⟩ := Option.map_eq_some_iff.1 hv
       obtain ⟨hm, hcl⟩ := hE.T f xs y β W hy hV
       have h1 := Zg7 S.gs hxs
       obtain ⟨cal, args, tys⟩ := c
       simp only at hc h1
       subst hc
       refine ZaN args tys d hop hd (av := (xs.map (A.sv β)).toArray) ?_ hm hcl ?_
       ·
        rw [← h1]
        apply Array.toList_inj.1
        simp
       ·
        rintro e' w' ⟨rfl, hb⟩
        have := val y e.symm w' hb
        rw [hd, Zaa] at this
        exact ⟨_, rfl, this⟩
      ·
       cases hv
     ·
      cases hv
    ·
     split at hv
     ·
      rename_i rs hrs
      split at hv
      ·
       rename_i xs hxs
       obtain ⟨y, hy, e⟩ := Option.map_eq_some_iff.1 hv
       have e2 := Zi9 (ρ := Act.eval (Tm L)) hE hV (fun j l t hb => by
        have h1 := S.gs.bx.get _ (ZcW (A := A) (β := β) hb).2.2
        have := Zag h1.heap
        simpa using this) hrs (Zg7 S.gs hxs) hy
       unfold Oper.wp
       rw [e2]
       exact val y e.symm W (Below.refl _ _)
      ·
       cases hv
     ·
      cases hv
  ·
   cases h
 ·
  cases h
theorem ZiJ (hE : EnvOK P A E w) {ops : Array Oper} {Q : Exit → Act → World → Prop} : ∀ {os : List Oper} {st st' : SSt} {W : World} {L : List Value} {β : Nat → Nat}, seqS P sz E N os st = some st' → SS A β w W L N st → (∀ V L' β', SS A β' w V L' N st' → Q .normal (Tm L') V) → wpList P ops Q os (Tm L) W
 | [], _, _, _, _, _, h, S, hQ => by cases h; exact hQ _ _ _ S
 | o :: r, st, st', W, L, β, h, S, hQ => by
  unfold seqS at h
  split at h
  ·
   rename_i s1 h1
   exact Zm5 hE h1 S fun V L' β' hS => ZiJ hE h hS hQ
  ·
   cases h
def evS (P : Program) (sz : Nat → Nat) (E : Env) (N : Nat) : Nat → Code → SSt → Option (Exit × SSt)
 | 0, _, _ => none
 | f + 1, c, st => match c with
  | .skip => some (.normal, st)
  | .ret => some (.ret, st)
  | .exit id => some (.exit id, st)
  | .region _ ops b => match regS P sz E N st ops.toList with
   | some st' => some (.normal, st')
   | none => if b then (regX P sz E N st ops.toList).map fun st' => (.normal, st') else (seqS P sz E N ops.toList st).map fun st' => (.normal, st')
  | .seq x y => match evS P sz E N f x st with
   | some (.normal, st') => evS P sz E N f y st'
   | some (.exit i, st') => some (.exit i, st')
   | some (.ret, st') => some (.ret, st')
   | _ => none
  | .cond (.tmp s) x y => match st.kn.lookup s with
   | some (.one (.cx (.lit true))) => evS P sz E N f x st
   | some (.one (.cx (.lit false))) => evS P sz E N f y st
   | _ => none
  | .block id x => match evS P sz E N f x st with
   | some (.exit i, st') => if i = id then some (.normal, st') else some (.exit i, st')
   | some (.normal, st') => some (.normal, st')
   | some (.ret, st') => some (.ret, st')
   | _ => none
  | _ => none
theorem Zce (hm : P.follows .mixedOrders = true) (hE : EnvOK P A E w) : ∀ (f : Nat) (c : Code) (st : SSt) (e : Exit) (st' : SSt), evS P sz E N f c st = some (e, st') → ∀ (Q : Exit → Act → World → Prop) (W : World) (L : List Value) (β : Nat → Nat), SS A β w W L N st → (∀ V L' β', SS A β' w V L' N st' → Q e (Tm L') V) → c.wp P Q (Tm L) W
 | 0, _, _, _, _, h, _, _, _, _, _, _ => by cases h
 | f + 1, c, st, e, st', h, Q, W, L, β, S, hq => by
  cases c with
  | skip => cases h; exact wp_skip (hq _ _ _ S)
  | ret => cases h; exact wp_ret (hq _ _ _ S)
  | exit id => cases h; exact wp_exit (hq _ _ _ S)
  | region id ops b =>
   simp only [evS] at h
   split at h
   ·
    rename_i s1 h1
    cases h
    have := Zm3 (id := id) (b := b) hm h1 hE S hq
    rwa [Array.toArray_toList] at this
   ·
    split at h
    ·
     obtain ⟨s1, h1, e1⟩ := Option.map_eq_some_iff.1 h
     cases e1
     have := Zm4 (id := id) (b := b) hm h1 hE S hq
     rwa [Array.toArray_toList] at this
    ·
     rename_i hb
     obtain ⟨s1, h1, e1⟩ := Option.map_eq_some_iff.1 h
     cases e1
     obtain rfl : b = false := by simpa using hb
     exact wp_region_list (ZiJ hE h1 S hq)
  | seq x y =>
   simp only [evS] at h
   refine wp_seq ?_
   split at h
   ·
    rename_i s1 h1
    exact Zce hm hE f x st _ _ h1 _ W L β S fun V L' β' hS => Zce hm hE f y s1 _ _ h Q V L' β' hS hq
   ·
    rename_i i s1 h1
    cases h
    exact Zce hm hE f x st _ _ h1 _ W L β S hq
   ·
    rename_i s1 h1
    cases h
    exact Zce hm hE f x st _ _ h1 _ W L β S hq
   ·
    cases h
  | cond s x y =>
   cases s with
   | tmp s =>
    simp only [evS] at h
    split at h
    ·
     rename_i h1
     exact Ze2 S.gs.ks (Zce hm hE f x st _ _ h Q W L β S hq) (by rw [Zbk, h1]; rfl)
    ·
     rename_i h1
     exact Zdj S.gs.ks (Zce hm hE f y st _ _ h Q W L β S hq) (by rw [Zbk, h1]; rfl)
    ·
     cases h
   | const v => cases h
   | global v => cases h
   | func v => cases h
  | block id x =>
   simp only [evS] at h
   refine wp_block ?_
   split at h
   ·
    rename_i i s1 h1
    split at h
    ·
     rename_i hi
     cases h
     exact Zce hm hE f x st _ _ h1 _ W L β S fun V L' β' hS => by simpa only [Exit.inBlock, hi, if_true] using hq V L' β' hS
    ·
     rename_i hi
     cases h
     exact Zce hm hE f x st _ _ h1 _ W L β S fun V L' β' hS => by simpa only [Exit.inBlock, hi, if_false] using hq V L' β' hS
   ·
    rename_i s1 h1
    cases h
    exact Zce hm hE f x st _ _ h1 _ W L β S hq
   ·
    rename_i s1 h1
    cases h
    exact Zce hm hE f x st _ _ h1 _ W L β S hq
   ·
    cases h
  | _ => cases h
def resV (P : Program) (sz : Nat → Nat) (st : SSt) : ResultVar → Option SV
 | .tmp j => st.kn.lookup j
 | .cell j t => match st.kn.lookup j with
  | some (.one (.bp k 0)) => match bxAt st.bl k with
   | some (l, _) => ldC P sz l 0 t
   | none => none
  | _ => none
def resS (P : Program) (sz : Nat → Nat) (st : SSt) : List ResultVar → Option SV
 | [r] => resV P sz st r
 | [r, s] => match resV P sz st r, resV P sz st s with
  | some x, some y => some (.tup x y)
  | _, _ => none
 | _ => none
theorem ZcK {n : Nat} (S : GS w W L n (knD A β st.kn) (blD A β st.bl)) {j : Nat} {y : SV} (h : resV P sz st (.tmp j) = some y) : L[j]? = some (A.sv β y) := by
 have h' : st.kn.lookup j = some y := h
 exact S.ks.get (by rw [Zbk, h']; rfl)
theorem ZcL {n : Nat} (S : GS w W L n (knD A β st.kn) (blD A β st.bl)) {j t : Nat} {y : SV} (h : resV P sz st (.cell j t) = some y) : ∃ a, L[j]? = some (.pointer (some a)) ∧ (loadVar t a).run P W = .ok (A.sv β y) W := by
 unfold resV at h
 simp only at h
 split at h
 ·
  rename_i k hk
  split at h
  ·
   rename_i l ty hb
   have hB := S.bx.get _ (ZcW (A := A) (β := β) hb).2.2
   have hr := Zag hB.heap
   exact ⟨⟨β k, 0, none⟩, S.ks.get (by rw [Zbk, hk]; rfl), Zi3 h (by simpa using hr)⟩
  ·
   cases h
 ·
  cases h
theorem ZiK {n : Nat} (S : GS w W L n (knD A β st.kn) (blD A β st.bl)) {fn : Func} {y : SV} (h : resS P sz st fn.results.toList = some y) : (results fn L.toArray).run P W = .ok (A.sv β y) W := by
 unfold results
 have hr : fn.results = fn.results.toList.toArray := by simp
 rw [hr]
 generalize fn.results.toList = rs at h
 unfold resS at h
 split at h
 ·
  rename_i r
  cases r with
  | tmp j => simp [ZcK S h]
  | cell j t =>
   obtain ⟨a, h1, h2⟩ := ZcL S h
   simp [h1, asAddr, h2]
 ·
  rename_i r s
  split at h
  ·
   rename_i x z hx hz
   cases h
   cases r with
   | tmp j =>
    cases s with
    | tmp j2 => simp [ZcK S hx, ZcK S hz, Al.sv]
    | cell j2 t2 =>
     obtain ⟨a, h1, h2⟩ := ZcL S hz
     simp [ZcK S hx, h1, asAddr, h2, Al.sv]
   | cell j t =>
    obtain ⟨a, h1, h2⟩ := ZcL S hx
    cases s with
    | tmp j2 => simp [h1, asAddr, h2, ZcK S hz, Al.sv]
    | cell j2 t2 =>
     obtain ⟨b, h3, h4⟩ := ZcL S hz
     simp [h1, h3, asAddr, h2, h4, Al.sv]
  ·
   cases h
 ·
  cases h
def entS (args : List SV) : SSt := ⟨(List.range args.length).zip args, []⟩
def runS (P : Program) (sz : Nat → Nat) (E : Env) (fn : Func) (fuel : Nat) (args : List SV) : Option SV := match fn.body with
 | some c => match evS P sz E fn.ntmps fuel c (entS args) with
  | some (.ret, st) => match resS P sz st fn.results.toList with
   | some y => if y.wf 0 && (args.all (SV.wf 0) && decide (args.length ≤ fn.ntmps)) then some y else none
   | none => none
  | _ => none
 | none => none
theorem ZiL : ∀ (vs pre rest : List Value) , KS (pre ++ (vs ++ rest)) ((List.range' pre.length vs.length).zip vs)
 | [], _, _ => trivial
 | v :: vs, pre, rest => by
  rw [List.length_cons, List.range'_succ, List.zip_cons_cons]
  refine ⟨by simp, ?_⟩
  have := ZiL vs (pre ++ [v]) rest
  simpa using this
theorem ent_S {fn : Func} {args : List SV} (h1 : args.all (SV.wf 0) = true) (h2 : args.length ≤ fn.ntmps) : (args.map (A.sv β)).toArray ++ Array.replicate (fn.ntmps - (args.map (A.sv β)).toArray.size) undef = (args.map (A.sv β) ++ List.replicate (fn.ntmps - args.length) undef).toArray ∧ SS A β w w (args.map (A.sv β) ++ List.replicate (fn.ntmps - args.length) undef) fn.ntmps (entS args) := by
 refine ⟨?_, ⟨Below.refl _ _, by simp; omega, ?_, BXs.nil w, fun _ h => by cases h⟩, ?_⟩
 ·
  apply Array.toList_inj.1
  simp
 ·
  have := ZiL (args.map (A.sv β)) [] (List.replicate (fn.ntmps - args.length) undef)
  unfold knD entS
  have e : ((List.range args.length).zip args).map (fun p => (p.1, A.sv β p.2)) = (List.range args.length).zip (args.map (A.sv β)) := by
   rw [List.zip_map_right]
   rfl
  rw [e, List.range_eq_range']
  simpa using this
 ·
  unfold SSt.wf entS
  simp only [List.all_nil, Bool.and_true, List.all_eq_true]
  intro p hp
  have := List.of_mem_zip hp
  exact List.all_eq_true.1 h1 _ this.2
theorem ZfQ (hm : P.follows .mixedOrders = true) (hE : EnvOK P A E w) {f fuel : Nat} {fn : Func} (hf : P.funcs[f]? = some fn) {args : List SV} {y : SV} (h : runS P sz E fn fuel args = some y) : Calls P f (args.map (A.sv β)).toArray w fun e w' => e = .returned (A.sv β y) ∧ Below w.heap.size w w' := by
 unfold runS at h
 split at h
 ·
  rename_i c hb
  split at h
  ·
   rename_i st hev
   split at h
   ·
    rename_i z hz
    split at h
    ·
     rename_i hw
     cases h
     simp only [Bool.and_eq_true, decide_eq_true_eq] at hw
     refine calls_of_wp hf hb ?_
     obtain ⟨hl, S0⟩ := ent_S (A := A) (β := β) (w := w) (fn := fn) hw.2.1 hw.2.2
     rw [hl]
     refine Zce hm hE _ _ _ _ _ hev _ _ _ β S0 fun V L' β' hS => ?_
     refine bodyPost_ret_by (v := A.sv β y) ?_ rfl ⟨rfl, hS.gs.up⟩
     rw [Ze5 (β' := β') (n := 0) (fun j hj => by omega) hw.1]
     exact ZiK hS.gs hz
    ·
     cases h
   ·
    cases h
  ·
   cases h
 ·
  cases h
end
def Tk (P : Program) (sz : Nat → Nat) (mk : (Nat → List SV → Option SV) → Env) (tab : Nat → Option Func) : Nat → Nat → List SV → Option SV
 | 0 => fun _ _ => none
 | k + 1 => fun f xs => match tab f with
  | some fn => runS P sz (mk (Tk P sz mk tab k)) fn 100 xs
  | none => none
def TOK (P : Program) {sz : Nat → Nat} (A : Al sz) (T : Nat → List SV → Option SV) (w : World) : Prop := ∀ f xs y β V, T f xs = some y → Below w.heap.size w V → (∀ av W, (callFunc f av).run P W = .ok (.enter f av) W) ∧ Calls P f (xs.map (A.sv β)).toArray V fun e w' => e = .returned (A.sv β y) ∧ Below V.heap.size V w'
theorem TOK.mono {P : Program} {sz : Nat → Nat} {A : Al sz} {T : Nat → List SV → Option SV} {w V : World} (h : TOK P A T w) (hV : Below w.heap.size w V) : TOK P A T V := fun f xs y β U e hU => h f xs y β U e (hV.trans (hU.mono hV.size))
def aheadT (X T : Nat → List SV → Option SV) (f : Nat) (xs : List SV) : Option SV := match X f xs with
 | some y => some y
 | none => T f xs
theorem Zdy {P : Program} {sz : Nat → Nat} {A : Al sz} {X T : Nat → List SV → Option SV} {w : World} (hX : TOK P A X w) (hT : TOK P A T w) : TOK P A (aheadT X T) w := fun f xs y β V h hV => by
 unfold aheadT at h
 split at h
 ·
  rename_i z hz
  cases h
  exact hX f xs y β V hz hV
 ·
  exact hT f xs y β V h hV
def TabOK (P : Program) (tab : Nat → Option Func) : Prop := ∀ f fn, tab f = some fn → P.funcs[f]? = some fn ∧ ∀ av W, (callFunc f av).run P W = .ok (.enter f av) W
theorem ZiM {P : Program} {sz : Nat → Nat} {A : Al sz} {mk : (Nat → List SV → Option SV) → Env} {tab : Nat → Option Func} {w : World} (hm : P.follows .mixedOrders = true) (ht : TabOK P tab) (hmk : ∀ T V, Below w.heap.size w V → TOK P A T V → EnvOK P A (mk T) V) : ∀ (k : Nat) (V : World), Below w.heap.size w V → TOK P A (Tk P sz mk tab k) V
 | 0, _, _ => fun _ _ _ _ _ h _ => by cases h
 | k + 1, V, hV => fun f xs y β U h hU => by
  have h' : (match tab f with | some fn => runS P sz (mk (Tk P sz mk tab k)) fn 100 xs | none => none) = some y := h
  split at h'
  ·
   rename_i fn hf
   obtain ⟨h1, h2⟩ := ht f fn hf
   have hwU := hV.trans (hU.mono hV.size)
   exact ⟨h2, ZfQ hm (hmk _ U hwU (ZiM hm ht hmk k U hwU)) h1 h'⟩
  ·
   cases h'
structure TEn (P : Program) where
 f : Nat
 fn : Func
 ok : P.funcs[f]? = some fn
 en : ∀ av W, (callFunc f av).run P W = .ok (.enter f av) W
def tabL {P : Program} : List (TEn P) → Nat → Option Func
 | [], _ => none
 | e :: r, f => if f = e.f then some e.fn else tabL r f
theorem Zg8 {P : Program} : ∀ (l : List (TEn P)), TabOK P (tabL l)
 | [], _, _, h => by cases h
 | e :: r, f, fn, h => by
  unfold tabL at h
  split at h
  ·
   rename_i he
   subst he
   cases h
   exact ⟨e.ok, e.en⟩
  ·
   exact Zg8 r f fn h
def noT : Nat → List SV → Option SV := fun _ _ => none
theorem ZdN {P : Program} {sz : Nat → Nat} {A : Al sz} (w : World) : TOK P A noT w := fun _ _ _ _ _ h => by cases h
def SC.eq : SC → SC → Bool
 | .v (.int k a), .v (.int l b) => decide (k = l) && decide (a = b)
 | .cx x, .cx y => CX.beq x y
 | .xp i o, .xp j q => decide (i = j) && decide (o = q)
 | .ov i, .ov j => decide (i = j)
 | _, _ => false
theorem SC.of_eq {x y : SC} (h : x.eq y = true) : x = y := by
 unfold SC.eq at h
 split at h
 ·
  simp only [Bool.and_eq_true, decide_eq_true_eq] at h
  rw [h.1, h.2]
 ·
  rw [CX.of_beq _ _ h]
 ·
  simp only [Bool.and_eq_true, decide_eq_true_eq] at h
  rw [h.1, h.2]
 ·
  rw [of_decide_eq_true h]
 ·
  cases h
def Ch.eq : Ch → Ch → Bool
 | .e k x, .e l y => decide (k = l) && EX.beq x y
 | .s x, .s y => x.eq y
 | _, _ => false
theorem Ch.of_eq {x y : Ch} (h : x.eq y = true) : x = y := by
 unfold Ch.eq at h
 split at h
 ·
  simp only [Bool.and_eq_true, decide_eq_true_eq] at h
  rw [h.1, EX.of_beq h.2]
 ·
  rw [SC.of_eq h]
 ·
  cases h
def chsEq : List Ch → List Ch → Bool
 | [], [] => true
 | x :: l, y :: m => x.eq y && chsEq l m
 | _, _ => false
theorem Zhv : ∀ {l m : List Ch}, chsEq l m = true → l = m
 | [], [], _ => rfl
 | x :: l, y :: m, h => by
  simp only [chsEq, Bool.and_eq_true] at h
  rw [Ch.of_eq h.1, Zhv h.2]
 | [], _ :: _, h => by cases h
 | _ :: _, [], h => by cases h
def svsEq : List SV → List SV → Bool
 | [], [] => true
 | .row x :: l, .row y :: m => chsEq x y && svsEq l m
 | .one x :: l, .one y :: m => x.eq y && svsEq l m
 | _, _ => false
theorem Zfg : ∀ {l m : List SV}, svsEq l m = true → l = m
 | l, m, h => by
  unfold svsEq at h
  split at h
  ·
   rfl
  ·
   rw [Bool.and_eq_true] at h
   rw [Zhv h.1, Zfg h.2]
  ·
   rw [Bool.and_eq_true] at h
   rw [SC.of_eq h.1, Zfg h.2]
  ·
   cases h
abbrev Fact := Nat × List SV × SV
def FactOK (P : Program) {sz : Nat → Nat} (A : Al sz) (w : World) (q : Fact) : Prop := (∀ av W, (callFunc q.1 av).run P W = .ok (.enter q.1 av) W) ∧ ∀ β V, Below w.heap.size w V → Calls P q.1 (q.2.1.map (A.sv β)).toArray V fun e w' => e = .returned (A.sv β q.2.2) ∧ Below V.heap.size V w'
def Zcm (P : Program) {sz : Nat → Nat} (A : Al sz) (w : World) : List Fact → Prop
 | [] => True
 | q :: r => FactOK P A w q ∧ Zcm P A w r
def factT : List Fact → Nat → List SV → Option SV
 | [], _, _ => none
 | q :: r, f, xs => if decide (q.1 = f) && svsEq q.2.1 xs then some q.2.2 else factT r f xs
theorem Zcy {P : Program} {sz : Nat → Nat} {A : Al sz} {w : World} : ∀ {l : List Fact}, Zcm P A w l → TOK P A (factT l) w
 | [], _, _, _, _, _, _, h, _ => by cases h
 | q :: r, hl, f, xs, y, β, V, h, hV => by
  unfold factT at h
  split at h
  ·
   rename_i hc
   rw [Bool.and_eq_true, decide_eq_true_eq] at hc
   obtain ⟨h1, h2⟩ := hc
   cases h
   subst h1
   rw [← Zfg h2]
   exact ⟨hl.1.1, hl.1.2 β V hV⟩
  ·
   exact Zcy hl.2 f xs y β V h hV
def GsOK {sz : Nat → Nat} (A : Al sz) : List (CX × Bool) → Prop
 | [] => True
 | q :: r => A.cx q.1 = q.2 ∧ GsOK A r
theorem GsOK.all {sz : Nat → Nat} {A : Al sz} : ∀ {l : List (CX × Bool)}, GsOK A l → ∀ q ∈ l, A.cx q.1 = q.2
 | [], _, _, h => by cases h
 | q :: r, hl, p, h => by
  rcases List.mem_cons.1 h with rfl | h
  ·
   exact hl.1
  ·
   exact hl.2.all p h
def runB (P : Program) (sz : Nat → Nat) (E : Env) (fn : Func) (fuel : Nat) (args : List SV) : Option (List Ch × TypeId) := match fn.body with
 | some c => match evS P sz E fn.ntmps fuel c (entS args) with
  | some (.ret, st) => match resS P sz st fn.results.toList with
   | some (.one (.bp j 0)) => match bxAt st.bl j with
    | some (l, t) => if l.all (Ch.wf 0) && (args.all (SV.wf 0) && decide (args.length ≤ fn.ntmps)) then some (l, t) else none
    | none => none
   | _ => none
  | _ => none
 | none => none
theorem Zk9 {P : Program} {sz : Nat → Nat} {A : Al sz} {E : Env} {w : World} {β : Nat → Nat} (hm : P.follows .mixedOrders = true) (hE : EnvOK P A E w) {f fuel : Nat} {fn : Func} (hf : P.funcs[f]? = some fn) {args : List SV} {l : List Ch} {t : TypeId} (h : runB P sz E fn fuel args = some (l, t)) : Calls P f (args.map (A.sv β)).toArray w fun e w' => ∃ b, e = .returned (.pointer (some ⟨b, 0, none⟩)) ∧ w.heap.size ≤ b ∧ w'.heap[b]? = some (.cells (A.rw β l).toArray t (0, 0)) ∧ Below w.heap.size w w' := by
 unfold runB at h
 split at h
 ·
  rename_i c hb
  split at h
  ·
   rename_i st hev
   split at h
   ·
    rename_i j hz
    split at h
    ·
     rename_i l' t' hbx
     split at h
     ·
      rename_i hw
      cases h
      simp only [Bool.and_eq_true, decide_eq_true_eq] at hw
      refine calls_of_wp hf hb ?_
      obtain ⟨hl, S0⟩ := ent_S (A := A) (β := β) (w := w) (fn := fn) hw.2.1 hw.2.2
      rw [hl]
      refine Zce hm hE _ _ _ _ _ hev _ _ _ β S0 fun V L' β' hS => ?_
      have hB := hS.gs.bx.get _ (ZcW (A := A) (β := β') hbx).2.2
      refine bodyPost_ret_by (v := A.sv β' (.one (.bp j 0))) (ZiK hS.gs hz) rfl ⟨β' j, rfl, hS.gs.nw _ (List.mem_of_getElem? (ZcW (A := A) (β := β') hbx).2.2), ?_, hS.gs.up⟩
      rw [Ze4 (β' := β') (n := 0) (fun j hj => by omega) hw.1]
      exact hB.heap
     ·
      cases h
    ·
     cases h
   ·
    cases h
  ·
   cases h
 ·
  cases h
def env0 (T : Nat → List SV → Option SV) : Env := ⟨T, fun _ _ => none, fun _ _ _ => none, fun _ => none, fun _ _ _ => none, [], fun _ _ => false⟩
theorem ZcY {P : Program} {sz : Nat → Nat} {A : Al sz} {w : World} {T : Nat → List SV → Option SV} (hT : TOK P A T w) : EnvOK P A (env0 T) w where
 G := fun _ h => by cases h
 F := fun _ _ h => by cases h
 T := hT
 I := fun _ _ _ _ _ h => by cases h
 X := fun _ _ _ _ _ _ h => by cases h
 Z := fun _ _ _ _ h => by cases h
 E := fun _ _ _ _ _ _ h => by cases h
end Go.Proofs.YtcbdbnfgnonacaaGreat
