/-
 The document's Exp and Inv.
-/
import Derived.Test.YtcbdbnfgnonacaaGreatCurveBn1C14
set_option maxHeartbeats 4000000
set_option maxRecDepth 100000
namespace Go.Proofs.YtcbdbnfgnonacaaGreat
open Go.RowKit Go.Shelf
def regY (P : Program) (E : Env2) (N : Nat) (st : YSt) (os : List Oper) : Option YSt :=
 let n := (os.takeWhile fun o => o.dst.isSome).length
 match regYN P E N st os n with
 | some s => some s
 | none => regYN P E N st os (n - 1)
def regYX (P : Program) (E : Env2) (N : Nat) (st : YSt) (os : List Oper) : Option YSt :=
 let n := (os.takeWhile fun o => o.dst.isSome).length
 let q := xqS os n
 if xchk os.toArray n q && ((List.range os.toArray.size).all fun i => match os.toArray[i]? with
  | some o => o.after.all fun e => !Region.binds .any e || decide (e.on < i)
  | none => false) then regY P E N st (waitE os.toArray n q).toList else none
def allKY (kn : List (Nat × YV)) : List Operand → Option (List YV)
 | [] => some []
 | x :: r => match opKY kn x, allKY kn r with
  | some v, some vs => some (v :: vs)
  | _, _ => none
def seqYV (P : Program) (E : Env2) (st : YSt) (d : Nat) (op : Op) : Option YSt := match op with
 | .alloc t => (zeY P t).map fun l => ⟨setY st.kn d (.one (.bp st.bl.length 0)), (l, t) :: st.bl⟩
 | .call ⟨.value (.func f), args, _⟩ => match allKY st.kn args.toList with
  | some xs => (E.T f xs).map fun y => ⟨setY st.kn d y, st.bl⟩
  | none => none
 | op => match Zbm op with
  | some rs => match allKY st.kn rs with
   | some xs => (opY P E st.bl op xs).map fun y => ⟨setY st.kn d y, st.bl⟩
   | none => none
  | none => none
def seqYO (P : Program) (E : Env2) (N : Nat) (st : YSt) (o : Oper) : Option YSt := match o.guard, o.dst with
 | none, none => (stY P E st o).bind wfY
 | none, some d => if d < N then (seqYV P E st d o.op).bind wfY else none
 | _, _ => none
def seqY (P : Program) (E : Env2) (N : Nat) : List Oper → YSt → Option YSt
 | [], st => some st
 | o :: r, st => match seqYO P E N st o with
  | some st' => seqY P E N r st'
  | none => none
def evY (P : Program) (E : Env2) (N : Nat) : Nat → Code → YSt → Option (Exit × YSt)
 | 0, _, _ => none
 | f + 1, c, st => match c with
  | .skip => some (.normal, st)
  | .ret => some (.ret, st)
  | .exit id => some (.exit id, st)
  | .region _ ops b => match regY P E N st ops.toList with
   | some st' => some (.normal, st')
   | none => if b then (regYX P E N st ops.toList).map fun st' => (.normal, st') else (seqY P E N ops.toList st).map fun st' => (.normal, st')
  | .seq x y => match evY P E N f x st with
   | some (.normal, st') => evY P E N f y st'
   | some (.exit i, st') => some (.exit i, st')
   | some (.ret, st') => some (.ret, st')
   | _ => none
  | .cond (.tmp s) x y => match st.kn.lookup s with
   | some (.one (.cx (.lit true))) => evY P E N f x st
   | some (.one (.cx (.lit false))) => evY P E N f y st
   | _ => none
  | .block id x => match evY P E N f x st with
   | some (.exit i, st') => if i = id then some (.normal, st') else some (.exit i, st')
   | some (.normal, st') => some (.normal, st')
   | some (.ret, st') => some (.ret, st')
   | _ => none
  | .loop x => match evY P E N f x st with
   | some (.normal, st') => evY P E N f (.loop x) st'
   | some (.exit i, st') => some (.exit i, st')
   | some (.ret, st') => some (.ret, st')
   | _ => none
  | _ => none
section
variable {P : Program} {B : Bl} {E : Env2} {β : Nat → Nat} {w W V : World} {L : List Value} {N : Nat} {st st' : YSt}
theorem Zjw {os : List Oper} {n : Nat} (h : regYN P E N st os n = some st') (hE : EnvOK2 P B E w) (S : SY B β w W L N st) {Q : Exit → Act → World → Prop} (hQ : ∀ V L' β', SY B β' w V L' N st' → Q .normal (Tm L') V) (w' : World) (hw' : w' = W ∨ w' = W.drew) : wpAnyH P .any os.toArray Q (fun _ => True) os.toArray.size (Array.replicate os.toArray.size false) (Tm L) w' := by
 unfold regYN at h
 simp only at h
 split at h
 ·
  rename_i hchk
  split at h
  ·
   rename_i Gs hgo
   split at h
   ·
    rename_i hc
    rw [Bool.and_eq_true] at hc
    split at h
    ·
     rename_i st1 hst1
     obtain ⟨e1, hw1⟩ := Zh3 hst1
     obtain ⟨r, er, hlr, hstep⟩ := ZlO hgo
     have hlen : Gs.length = n := by rw [er]; simpa using hlr
     subst hlen
     have hst0 := S.wf
     unfold YSt.wf at hst0
     rw [Bool.and_eq_true] at hst0
     obtain ⟨kv, bv, G, hkr, hbr⟩ := S.ex
     have hop : ∀ Q, AllOK (OpOK P .any os.toArray Q (Up W) (PDs (GEs W.heap.size (Gs.map (RY.ge B β)))) L []) (PDs (GEs W.heap.size (Gs.map (RY.ge B β)))) 0 := fun Q => AllOK.all _ _ fun i hi => by
      rw [Zbg, ZkR] at hi
      rw [Nat.zero_add]
      have h1 := hstep i (by simp) hi
      have h2 : Gs[i]? = some Gs[i] := List.getElem?_eq_getElem hi
      exact ZkS hE G.up (fun j l t h => hbr.bx G.bx h) G.ks hkr (h1.trans h2) h2
     have key : ∀ (V : World) (R : List Value → Prop), Up W V → (∀ L' β', SY B β' w V L' N st1 → R L') → EndP V (PDs (GEs W.heap.size (Gs.map (RY.ge B β)))) (fun vl => Apt os.toArray Gs.length vl → ∀ l', l' = TV ((List.range Gs.length).map (dOf os.toArray)) vl L → R l') := fun V R hV hR => by
      have := G.lastE (R := R) (Gs := Gs.map (RY.ge B β)) (ops := os.toArray) hV (by rw [Zjt]; exact hc.1) (by rw [List.length_map]; exact hchk)
       (Zju (n0 := st.bl.length) Gs st.bl [] bv [] β (fun _ _ => rfl) (Nat.le_refl _) hc.2 (fun _ h => by cases h) hst0.2 (hbr.mono (Bl.stab hV)) trivial (fun β' bv' av' hβ hb' hv' L' hL' => hR L' β' ⟨⟨nkOf os.toArray (Gs.map (RY.ge B β)).length kv av' (((List.range Gs.length).map (dOf os.toArray)) ++ (st.kn.map (·.1)).filter (!((List.range Gs.length).map (dOf os.toArray)).contains ·)), bv', ?_, ?_, ?_⟩, hw1⟩))
      ·
       rw [List.length_map] at this
       exact this
      ·
       exact ⟨hL'.up, hL'.len, hL'.ks _, hL'.bx, hL'.nw⟩
      ·
       rw [← e1]
       unfold nkOf
       rw [List.length_map]
       exact Zjv hv' (KR.ext (fun j hj => (hβ j hj).symm) hst0.1 (hkr.mono (Bl.stab hV))) _
      ·
       rw [← e1]
       exact hb'
     have hpl : (PDs (GEs W.heap.size (Gs.map (RY.ge B β)))).length = Gs.length := by rw [Zbg, ZkR]
     split at h
     ·
      rename_i hz
      cases h
      refine ZfD (I := Up W) _ (by rw [hpl, G.len, hchk]; simpa using hz) ZbI (ZcO (RY.stab B β Gs)).all (Below.refl _ _) (Below.refl _ _).drew (hop _) (fun V hV => ?_) w' hw'
      rw [hpl]
      exact key V _ hV fun L' β' hS => hQ V L' β' hS
     ·
      split at h
      ·
       rename_i hz
       split at h
       ·
        rename_i o ho
        refine Ze0 (I := Up W) _ (by rw [hpl, G.len, hchk]; simpa using hz) ZbI (ZcO (RY.stab B β Gs)).all (Below.refl _ _) (Below.refl _ _).drew (hop _) (fun V hV => ?_) w' hw'
        rw [hpl]
        exact key V _ hV fun L' β' hS => Zh4 hE h hS (fun U L2 hU => hQ U L2 β' hU) ho
       ·
        cases h
      ·
       split at h
       ·
        rename_i hz
        rw [Bool.and_eq_true] at hz
        split at h
        ·
         rename_i o o2 ho ho2
         cases hs2 : (stY P E st1 o).bind wfY with
         | none => rw [hs2] at h; cases h
         | some st2 =>
          rw [hs2] at h
          have h : (lateY P E N st2 o2).bind wfY = some st' := h
          refine ZcU (I := Up W) _ (by rw [hpl, G.len, hchk]; simpa using hz) ZbI (ZcO (RY.stab B β Gs)).all (Below.refl _ _) (Below.refl _ _).drew (hop _) (fun V hV => ?_) w' hw'
          rw [hpl]
          exact key V _ hV fun L' β' hS => ZlR hE hs2 hS (fun U hU => Zh4 hE h hU (fun U' L2 hU' => hQ U' L2 β' hU') ho2) ho
        ·
         cases h
       ·
        cases h
    ·
     cases h
   ·
    cases h
  ·
   cases h
 ·
  cases h
theorem Zjx {os : List Oper} {n : Nat} (h : regYN P E N st os n = some st') : ((List.range os.toArray.size).all fun i => match os.toArray[i]? with
  | some o => o.after.all fun e => !Region.binds .any e || decide (e.on < i)
  | none => false) = true := by
 unfold regYN at h
 split at h
 ·
  rename_i hchk
  unfold chkD at hchk
  simp only [Bool.and_eq_true] at hchk
  exact hchk.1.1
 ·
  cases h
theorem ZlS {os : List Oper} (h : regY P E N st os = some st') (hE : EnvOK2 P B E w) (S : SY B β w W L N st) {Q : Exit → Act → World → Prop} (hQ : ∀ V L' β', SY B β' w V L' N st' → Q .normal (Tm L') V) : ((List.range os.toArray.size).all fun i => match os.toArray[i]? with
  | some o => o.after.all fun e => !Region.binds .any e || decide (e.on < i)
  | none => false) = true ∧ ∀ (w' : World), w' = W ∨ w' = W.drew → wpAnyH P .any os.toArray Q (fun _ => True) os.toArray.size (Array.replicate os.toArray.size false) (Tm L) w' := by
 unfold regY at h
 simp only at h
 split at h
 ·
  rename_i s1 h1
  cases h
  exact ⟨Zjx h1, Zjw h1 hE S hQ⟩
 ·
  exact ⟨Zjx h, Zjw h hE S hQ⟩
theorem ZkT (hm : P.follows .mixedOrders = true) {os : List Oper} (h : regYX P E N st os = some st') (hE : EnvOK2 P B E w) (S : SY B β w W L N st) {Q : Exit → Act → World → Prop} {id : Nat} {b : Bool} (hQ : ∀ V L' β', SY B β' w V L' N st' → Q .normal (Tm L') V) : (Code.region id os.toArray b).wp P Q (Tm L) W := by
 unfold regYX at h
 simp only at h
 split at h
 ·
  rename_i hc
  rw [Bool.and_eq_true] at hc
  refine ZaY hm hc.2 fun w' hw' => ?_
  refine Zff hc.1 _ _ _ _ (by simp) ?_
  have := (ZlS h hE S (Q := Qn Q) (fun V L' β' hS => ⟨rfl, hQ V L' β' hS⟩)).2 w' hw'
  rw [Array.toArray_toList, Zcv] at this
  exact this
 ·
  cases h
theorem Zft {kv : List (Nat × Value)} (hk : KS L kv) (hr : KR B β W st.kn kv) : ∀ {rs : List Operand} {xs : List YV}, allKY st.kn rs = some xs → B.vds β W xs (rs.map (Act.eval (Tm L)))
 | [], xs, h => by cases h; trivial
 | x :: r, xs, h => by
  unfold allKY at h
  split at h
  ·
   rename_i v vs h1 h2
   cases h
   exact ⟨Zfs hk hr h1, Zft hk hr h2⟩
  ·
   cases h
theorem SY.moved (S : SY B β w W L N st) (hb : Below W.heap.size W V) : SY B β w V L N st := by
 obtain ⟨kv, bv, G, hk, hbr⟩ := S.ex
 exact ⟨⟨kv, bv, ⟨G.up.trans (hb.mono G.up.size), G.len, G.ks, G.bx.moved hb, G.nw⟩, hk.mono (Bl.stab hb), hbr.mono (Bl.stab hb)⟩, S.wf⟩
theorem ZkU (hE : EnvOK2 P B E w) {ops : Array Oper} {r : List Oper} {o : Oper} (h : seqYO P E N st o = some st') (S : SY B β w W L N st) {Q : Exit → Act → World → Prop} (hQ : ∀ V L' β', SY B β' w V L' N st' → wpList P ops Q r (Tm L') V) : wpList P ops Q (o :: r) (Tm L) W := by
 unfold seqYO at h
 split at h
 ·
  rename_i hg hd
  refine wpList_plain hg fun K hK => ?_
  exact (ZlQ hE h S (fun V hS => hK _ _ (hQ V L β hS))).2
 ·
  rename_i d hg hd
  split at h
  ·
   rename_i hdN
   cases hv : seqYV P E st d o.op with
   | none => rw [hv] at h; cases h
   | some s1 =>
    rw [hv] at h
    obtain ⟨e1, hw⟩ := Zh3 (show wfY s1 = some st' from h)
    subst e1
    have hV := S.up
    obtain ⟨kv, bv, G, hkr, hbr⟩ := S.ex
    refine wpList_plain hg fun K hK => ?_
    have val : ∀ (y : YV), s1 = ⟨setY st.kn d y, st.bl⟩ → ∀ V v, Below W.heap.size W V → B.vd β V y v → K (Act.put (Tm L) o.dst v) V := fun y e V v hb hy => by
     rw [hd, Zaa]
     refine hK _ _ (hQ V _ β ?_)
     subst e
     exact (S.moved hb).set hdN hy hw
    unfold seqYV at hv
    split at hv
    ·
     rename_i t hop
     obtain ⟨l, hl, e⟩ := Option.map_eq_some_iff.1 hv
     have hst := S.wf
     unfold YSt.wf at hst
     rw [Bool.and_eq_true] at hst
     let β1 : Nat → Nat := fun j => if j = st.bl.length then W.heap.size else β j
     have e1 : ∀ j, j < st.bl.length → β j = β1 j := fun j hj => by show β j = if j = st.bl.length then W.heap.size else β j; rw [if_neg (by omega)]
     have hB : β1 st.bl.length = W.heap.size := if_pos rfl
     obtain ⟨z, h1, h2⟩ := Zji (B := B) hl β1 W
     have e2 : (execOp (Act.eval (Tm L)) o).run P W = .ok (.value (.pointer (some ⟨W.heap.size, 0, none⟩))) (W.alloc (.cells z.cells t (0, 0))) := by
      refine ZaJ hop ?_
      unfold Instr.alloc
      rw [Sem.run_bind, h1]
      simp only [Result.andThen, newVar, newRow]
      rfl
     unfold Oper.wp
     rw [e2]
     show K _ _
     rw [hd, Zaa]
     have hb := Zaq W (.cells z.cells t (0, 0))
     refine hK _ _ (hQ _ _ β1 ?_)
     subst e
     refine ⟨⟨(d, .pointer (some ⟨W.heap.size, 0, none⟩)) :: kv.filter fun p => p.1 != d, (W.heap.size, z.cells, t) :: bv, ⟨G.up.trans (hb.mono G.up.size), by rw [List.length_set]; exact G.len, ⟨by simp [G.len, hdN], G.ks.filter⟩, G.bx.cons (G.bx.moved hb) (Nat.le_refl _) ⟨Zaf _ _⟩, ?_⟩, ⟨rfl, ?_, ?_⟩, ⟨hB.symm, rfl, ZbZ (Bl.stab hb) h2, ?_⟩⟩, hw⟩
     ·
      intro x hx
      rcases List.mem_cons.1 hx with rfl | hx
      ·
       exact G.up.size
      ·
       exact G.nw x hx
     ·
      show Value.pointer _ = .pointer (some ⟨β1 st.bl.length, 0, none⟩)
      rw [hB]
     ·
      exact (KR.ext e1 hst.1 (hkr.mono (Bl.stab hb))).filter
     ·
      exact BR.ext e1 (Nat.le_refl _) hst.2 (hbr.mono (Bl.stab hb))
    ·
     rename_i f args tys hop
     split at hv
     ·
      rename_i xs hxs
      obtain ⟨y, hy, e⟩ := Option.map_eq_some_iff.1 hv
      obtain ⟨hm, hcl⟩ := hE.T f xs y hy
      have h1 := Zft G.ks hkr hxs
      refine ZaN args tys d hop hd (av := (args.toList.map (Act.eval (Tm L))).toArray) ?_ hm (hcl β W _ hV h1) ?_
      ·
       apply Array.toList_inj.1
       simp
      ·
       rintro e' w' ⟨⟨v, rfl, hv'⟩, hb⟩
       have := val y e.symm w' v hb hv'
       rw [hd, Zaa] at this
       exact ⟨_, rfl, this⟩
     ·
      cases hv
    ·
     split at hv
     ·
      rename_i rs hrs
      split at hv
      ·
       rename_i xs hxs
       obtain ⟨y, hy, e⟩ := Option.map_eq_some_iff.1 hv
       obtain ⟨-, v, w', e2, hb, hv'⟩ := Zjl (ρ := Act.eval (Tm L)) hE hV (fun j l t h => by
        obtain ⟨C, h1, h2⟩ := hbr.bx G.bx h
        exact ⟨C.toList, Zag h1.heap, h2⟩) hrs (Zft G.ks hkr hxs) hy
       unfold Oper.wp
       rw [e2]
       exact val y e.symm w' v hb hv'
      ·
       cases hv
     ·
      cases hv
  ·
   cases h
 ·
  cases h
theorem Zjy (hE : EnvOK2 P B E w) {ops : Array Oper} {Q : Exit → Act → World → Prop} : ∀ {os : List Oper} {st st' : YSt} {W : World} {L : List Value} {β : Nat → Nat}, seqY P E N os st = some st' → SY B β w W L N st → (∀ V L' β', SY B β' w V L' N st' → Q .normal (Tm L') V) → wpList P ops Q os (Tm L) W
 | [], _, _, _, _, _, h, S, hQ => by cases h; exact hQ _ _ _ S
 | o :: r, st, st', W, L, β, h, S, hQ => by
  unfold seqY at h
  split at h
  ·
   rename_i s1 h1
   exact ZkU hE h1 S fun V L' β' hS => Zjy hE h hS hQ
  ·
   cases h
theorem SY.slot (S : SY B β w W L N st) {s : Nat} {y : YV} (h : st.kn.lookup s = some y) : ∃ v, L[s]? = some v ∧ B.vd β W y v := by
 obtain ⟨kv, bv, G, hk, -⟩ := S.ex
 obtain ⟨v, h1, h2⟩ := hk.get h
 exact ⟨v, G.ks.get h1, h2⟩
theorem ZkV (hm : P.follows .mixedOrders = true) (hE : EnvOK2 P B E w) : ∀ (f : Nat), (∀ (c : Code) (st : YSt) (e : Exit) (st' : YSt), evY P E N f c st = some (e, st') → ∀ (Q : Exit → Act → World → Prop) (W : World) (L : List Value) (β : Nat → Nat), SY B β w W L N st → (∀ V L' β', SY B β' w V L' N st' → Q e (Tm L') V) → c.wp P Q (Tm L) W) ∧
  ∀ (x : Code) (st : YSt) (e : Exit) (st' : YSt), evY P E N f (.loop x) st = some (e, st') → ∃ n, ∀ (Q : Exit → Act → World → Prop) (W : World) (L : List Value) (β : Nat → Nat), SY B β w W L N st → (∀ V L' β', SY B β' w V L' N st' → Q e (Tm L') V) → Code.rounds P x Q n (Tm L) W := by
 intro f
 induction f with
 | zero => exact ⟨fun _ _ _ _ h => (by cases h), fun _ _ _ _ h => (by cases h)⟩
 | succ f ih =>
  have loop : ∀ (x : Code) (st : YSt) (e : Exit) (st' : YSt), evY P E N (f + 1) (.loop x) st = some (e, st') → ∃ n, ∀ (Q : Exit → Act → World → Prop) (W : World) (L : List Value) (β : Nat → Nat), SY B β w W L N st → (∀ V L' β', SY B β' w V L' N st' → Q e (Tm L') V) → Code.rounds P x Q n (Tm L) W := by
   intro x st e st' h
   simp only [evY] at h
   split at h
   ·
    rename_i s1 h1
    obtain ⟨n, hn⟩ := ih.2 x s1 _ _ h
    exact ⟨n + 1, fun Q W L β S hq => ih.1 x st _ _ h1 _ W L β S fun V L' β' hS => hn Q V L' β' hS hq⟩
   ·
    rename_i i s1 h1
    cases h
    exact ⟨1, fun Q W L β S hq => ih.1 x st _ _ h1 _ W L β S hq⟩
   ·
    rename_i s1 h1
    cases h
    exact ⟨1, fun Q W L β S hq => ih.1 x st _ _ h1 _ W L β S hq⟩
   ·
    cases h
  refine ⟨?_, loop⟩
  intro c st e st' h Q W L β S hq
  cases c with
  | skip => cases h; exact wp_skip (hq _ _ _ S)
  | ret => cases h; exact wp_ret (hq _ _ _ S)
  | exit id => cases h; exact wp_exit (hq _ _ _ S)
  | region id ops b =>
   simp only [evY] at h
   split at h
   ·
    rename_i s1 h1
    cases h
    have h2 := ZlS h1 hE S (Q := Q) hq
    have := ZaY (id := id) (b := b) hm h2.1 h2.2
    rwa [Array.toArray_toList] at this
   ·
    split at h
    ·
     obtain ⟨s1, h1, e1⟩ := Option.map_eq_some_iff.1 h
     cases e1
     have := ZkT (id := id) (b := b) hm h1 hE S hq
     rwa [Array.toArray_toList] at this
    ·
     rename_i hb
     obtain ⟨s1, h1, e1⟩ := Option.map_eq_some_iff.1 h
     cases e1
     obtain rfl : b = false := by simpa using hb
     exact wp_region_list (Zjy hE h1 S hq)
  | seq x y =>
   simp only [evY] at h
   refine wp_seq ?_
   split at h
   ·
    rename_i s1 h1
    exact ih.1 x st _ _ h1 _ W L β S fun V L' β' hS => ih.1 y s1 _ _ h Q V L' β' hS hq
   ·
    rename_i i s1 h1
    cases h
    exact ih.1 x st _ _ h1 _ W L β S hq
   ·
    rename_i s1 h1
    cases h
    exact ih.1 x st _ _ h1 _ W L β S hq
   ·
    cases h
  | cond s x y =>
   cases s with
   | tmp s =>
    simp only [evY] at h
    split at h
    ·
     rename_i h1
     obtain ⟨v, h2, h3⟩ := S.slot h1
     refine wp_cond_true ?_ (ih.1 x st _ _ h Q W L β S hq)
     rw [Zam h2]
     exact h3
    ·
     rename_i h1
     obtain ⟨v, h2, h3⟩ := S.slot h1
     refine wp_cond_false ?_ (ih.1 y st _ _ h Q W L β S hq)
     rw [Zam h2]
     exact h3
    ·
     cases h
   | const v => cases h
   | global v => cases h
   | func v => cases h
  | block id x =>
   simp only [evY] at h
   refine wp_block ?_
   split at h
   ·
    rename_i i s1 h1
    split at h
    ·
     rename_i hi
     cases h
     exact ih.1 x st _ _ h1 _ W L β S fun V L' β' hS => by simpa only [Exit.inBlock, hi, if_true] using hq V L' β' hS
    ·
     rename_i hi
     cases h
     exact ih.1 x st _ _ h1 _ W L β S fun V L' β' hS => by simpa only [Exit.inBlock, hi, if_false] using hq V L' β' hS
   ·
    rename_i s1 h1
    cases h
    exact ih.1 x st _ _ h1 _ W L β S hq
   ·
    rename_i s1 h1
    cases h
    exact ih.1 x st _ _ h1 _ W L β S hq
   ·
    cases h
  | loop x =>
   obtain ⟨n, hn⟩ := loop x st e st' h
   exact wp_loop_rounds n (hn Q W L β S hq)
  | _ => cases h
theorem evY_ok (hm : P.follows .mixedOrders = true) (hE : EnvOK2 P B E w) {f : Nat} {c : Code} {st : YSt} {e : Exit} {st' : YSt} (h : evY P E N f c st = some (e, st')) {Q : Exit → Act → World → Prop} {W : World} {L : List Value} {β : Nat → Nat} (S : SY B β w W L N st) (hq : ∀ V L' β', SY B β' w V L' N st' → Q e (Tm L') V) : c.wp P Q (Tm L) W := (ZkV hm hE f).1 c st e st' h Q W L β S hq
end
def resYV (P : Program) (st : YSt) : ResultVar → Option YV
 | .tmp j => st.kn.lookup j
 | .cell j t => match st.kn.lookup j with
  | some (.one (.bp k 0)) => match bxY st.bl k with
   | some (l, _) => ldY P l 0 t
   | none => none
  | _ => none
def resY (P : Program) (st : YSt) : List ResultVar → Option YV
 | [r] => resYV P st r
 | [r, s] => match resYV P st r, resYV P st s with
  | some x, some y => some (.tup x y)
  | _, _ => none
 | _ => none
def entY (args : List YV) : YSt := ⟨(List.range args.length).zip args, []⟩
def runY (P : Program) (E : Env2) (fn : Func) (fuel : Nat) (args : List YV) : Option YV := match fn.body with
 | some c => match evY P E fn.ntmps fuel c (entY args) with
  | some (.ret, st) => match resY P st fn.results.toList with
   | some y => if y.wf 0 && (args.all (YV.wf 0) && decide (args.length ≤ fn.ntmps)) then some y else none
   | none => none
  | _ => none
 | none => none
section
variable {P : Program} {B : Bl} {E : Env2} {β : Nat → Nat} {w W : World} {L : List Value} {N : Nat} {st : YSt}
theorem Zfu (S : SY B β w W L N st) {r : ResultVar} {y : YV} (h : resYV P st r = some y) : ∃ v, B.vd β W y v ∧ (match r with
  | .tmp j => L[j]? = some v
  | .cell j t => ∃ a, L[j]? = some (.pointer (some a)) ∧ (loadVar t a).run P W = .ok v W) := by
 cases r with
 | tmp j =>
  obtain ⟨v, h1, h2⟩ := S.slot (show st.kn.lookup j = some y from h)
  exact ⟨v, h2, h1⟩
 | cell j t =>
  unfold resYV at h
  simp only at h
  split at h
  ·
   rename_i k hk
   split at h
   ·
    rename_i l ty hb
    obtain ⟨p, h1, h2⟩ := S.slot hk
    obtain ⟨kv, bv, G, -, hbr⟩ := S.ex
    obtain ⟨C, h3, h4⟩ := hbr.bx G.bx hb
    obtain ⟨v, h5, h6⟩ := Zjh h h4 (Zag h3.heap)
    exact ⟨v, h6, _, by rw [h1, show p = _ from h2], h5⟩
   ·
    cases h
  ·
   cases h
theorem ZmI (S : SY B β w W L N st) {fn : Func} {y : YV} (h : resY P st fn.results.toList = some y) : ∃ v, (results fn L.toArray).run P W = .ok v W ∧ B.vd β W y v := by
 unfold results
 have hr : fn.results = fn.results.toList.toArray := by simp
 rw [hr]
 generalize fn.results.toList = rs at h
 unfold resY at h
 split at h
 ·
  rename_i r
  obtain ⟨v, h1, h2⟩ := Zfu S h
  refine ⟨v, ?_, h1⟩
  cases r with
  | tmp j => simp [show L[j]? = some v from h2]
  | cell j t =>
   obtain ⟨a, h3, h4⟩ := h2
   simp [h3, asAddr, h4]
 ·
  rename_i r s
  split at h
  ·
   rename_i x z hx hz
   cases h
   obtain ⟨v, h1, h2⟩ := Zfu S hx
   obtain ⟨u, h3, h4⟩ := Zfu S hz
   refine ⟨.tuple #[v, u], ?_, v, u, rfl, h1, h3⟩
   cases r with
   | tmp j =>
    cases s with
    | tmp j2 => simp [show L[j]? = some v from h2, show L[j2]? = some u from h4]
    | cell j2 t2 =>
     obtain ⟨b, h5, h6⟩ := h4
     simp [show L[j]? = some v from h2, h5, asAddr, h6]
   | cell j t =>
    obtain ⟨a, h7, h8⟩ := h2
    cases s with
    | tmp j2 => simp [h7, asAddr, h8, show L[j2]? = some u from h4]
    | cell j2 t2 =>
     obtain ⟨b, h5, h6⟩ := h4
     simp [h7, h5, asAddr, h8, h6]
  ·
   cases h
 ·
  cases h
theorem ZlT : ∀ (xs : List YV) (vs : List Value) (k : Nat), B.vds β w xs vs → KR B β w ((List.range' k xs.length).zip xs) ((List.range' k vs.length).zip vs)
 | [], [], _, _ => trivial
 | _ :: xs, _ :: vs, k, h => by
  rw [List.length_cons, List.length_cons, List.range'_succ, List.range'_succ, List.zip_cons_cons, List.zip_cons_cons]
  exact ⟨rfl, h.1, ZlT xs vs (k + 1) h.2⟩
 | [], _ :: _, _, h => h.elim
 | _ :: _, [], _, h => h.elim
theorem Zjz : ∀ {l : List YV} {vs : List Value}, B.vds β w l vs → vs.length = l.length
 | [], [], _ => rfl
 | _ :: _, _ :: _, h => by simp [Zjz h.2]
 | [], _ :: _, h => h.elim
 | _ :: _, [], h => h.elim
theorem run_Y (hm : P.follows .mixedOrders = true) (hE : EnvOK2 P B E w) {f fuel : Nat} {fn : Func} (hf : P.funcs[f]? = some fn) {args : List YV} {y : YV} (h : runY P E fn fuel args = some y) {vs : List Value} (hv : B.vds β w args vs) : Calls P f vs.toArray w fun e w' => (∃ v, e = .returned v ∧ B.vd β w' y v) ∧ Below w.heap.size w w' := by
 unfold runY at h
 split at h
 ·
  rename_i c hb
  split at h
  ·
   rename_i st hev
   split at h
   ·
    rename_i z hz
    split at h
    ·
     rename_i hw
     cases h
     simp only [Bool.and_eq_true, decide_eq_true_eq] at hw
     refine calls_of_wp hf hb ?_
     have hl := Zjz hv
     have hL : vs.toArray ++ Array.replicate (fn.ntmps - vs.toArray.size) undef = (vs ++ List.replicate (fn.ntmps - args.length) undef).toArray := by
      apply Array.toList_inj.1
      simp [hl]
     rw [hL]
     have S0 : SY B β w w (vs ++ List.replicate (fn.ntmps - args.length) undef) fn.ntmps (entY args) := by
      refine ⟨⟨(List.range vs.length).zip vs, [], ⟨Below.refl _ _, by simp [hl]; omega, ?_, BXs.nil w, fun _ h => by cases h⟩, ?_, trivial⟩, ?_⟩
      ·
       have := ZiL vs [] (List.replicate (fn.ntmps - args.length) undef)
       rw [List.range_eq_range']
       simpa using this
      ·
       unfold entY
       rw [List.range_eq_range', List.range_eq_range']
       exact ZlT args vs 0 hv
      ·
       unfold YSt.wf entY
       simp only [List.all_nil, Bool.and_true, List.all_eq_true]
       intro p hp
       have := List.of_mem_zip hp
       exact List.all_eq_true.1 hw.2.1 _ this.2
     refine evY_ok hm hE hev S0 fun V L' β' hS => ?_
     obtain ⟨v, h1, h2⟩ := ZmI hS hz
     exact bodyPost_ret_by h1 rfl ⟨⟨v, rfl, Ze9 (n := 0) (fun j hj => by omega) hw.1 h2⟩, hS.up⟩
    ·
     cases h
   ·
    cases h
  ·
   cases h
 ·
  cases h
end
def TOK2 (P : Program) (B : Bl) (T : Nat → List YV → Option YV) (w : World) : Prop := ∀ f xs y, T f xs = some y → (∀ av W, (callFunc f av).run P W = .ok (.enter f av) W) ∧ ∀ β V vs, Below w.heap.size w V → B.vds β V xs vs → Calls P f vs.toArray V fun e w' => (∃ v, e = .returned v ∧ B.vd β w' y v) ∧ Below V.heap.size V w'
theorem TOK2.mono {P : Program} {B : Bl} {T : Nat → List YV → Option YV} {w V : World} (h : TOK2 P B T w) (hV : Below w.heap.size w V) : TOK2 P B T V := fun f xs y e => ⟨(h f xs y e).1, fun β U vs hU hv => (h f xs y e).2 β U vs (hV.trans (hU.mono hV.size)) hv⟩
def aheadY (X T : Nat → List YV → Option YV) (f : Nat) (xs : List YV) : Option YV := match X f xs with
 | some y => some y
 | none => T f xs
theorem ZbA {P : Program} {B : Bl} {X T : Nat → List YV → Option YV} {w : World} (hX : TOK2 P B X w) (hT : TOK2 P B T w) : TOK2 P B (aheadY X T) w := fun f xs y h => by
 unfold aheadY at h
 split at h
 ·
  rename_i z hz
  cases h
  exact hX f xs y hz
 ·
  exact hT f xs y h
def TkY (P : Program) (mk : (Nat → List YV → Option YV) → Env2) (tab : Nat → Option Func) : Nat → Nat → List YV → Option YV
 | 0 => fun _ _ => none
 | k + 1 => fun f xs => match tab f with
  | some fn => runY P (mk (TkY P mk tab k)) fn 200 xs
  | none => none
theorem ZlU {P : Program} {B : Bl} {mk : (Nat → List YV → Option YV) → Env2} {tab : Nat → Option Func} {w : World} (hm : P.follows .mixedOrders = true) (ht : TabOK P tab) (hmk : ∀ T V, Below w.heap.size w V → TOK2 P B T V → EnvOK2 P B (mk T) V) : ∀ (k : Nat) (V : World), Below w.heap.size w V → TOK2 P B (TkY P mk tab k) V
 | 0, _, _ => fun _ _ _ h => by cases h
 | k + 1, V, hV => fun f xs y h => by
  have h' : (match tab f with | some fn => runY P (mk (TkY P mk tab k)) fn 200 xs | none => none) = some y := h
  split at h'
  ·
   rename_i fn hf
   obtain ⟨h1, h2⟩ := ht f fn hf
   refine ⟨h2, fun β U vs hU hv => ?_⟩
   have hwU := hV.trans (hU.mono hV.size)
   exact run_Y hm (hmk _ U hwU (ZlU hm ht hmk k U hwU)) h1 h' hv
  ·
   cases h'
theorem ZkW {P : Program} (w : World) (T ty E : TypeId) (hu : P.underlying T = some (.slice E)) (hs : (P.info? E).map (·.size) = some 1) (dp sp : Option Addr) (dLen dCap sLen sCap : Nat)
  (g off : Nat) (cur : List Value) (t : TypeId) (hg : w.heap[g]? = some (.cells cur.toArray t (0, 0))) (cs : List Value) (hn : cs.length = Nat.min sLen dLen)
  (hpos : 0 < cs.length → dp = some ⟨g, off, none⟩ ∧ ∃ ad, sp = some ad ∧ ∀ j v, cs[j]? = some v → w.cell? (ad.add j) = some v)
  (hfit : off + cs.length ≤ cur.length) (h1 : ∀ v ∈ cs, v.oneCell' = true) :
  ∃ w', (Builtin.copy_ #[T, T] ty #[.slice dp dLen dCap, .slice sp sLen sCap]).run P w = .ok (goInt cs.length) w' ∧ w'.heap[g]? = some (.cells (splice cur off cs).toArray t (0, 0)) ∧ w.grownBy w' (some g) := by
 by_cases h0 : cs.length = 0
 ·
  obtain rfl : cs = [] := List.eq_nil_of_length_eq_zero h0
  refine ⟨w, ?_, by simpa [splice] using hg, World.grownBy.refl _ _⟩
  exact run_copy_none (P := P) w T T ty E dp sp dLen dCap sLen sCap hu hs (by simpa using hn.symm)
 ·
  obtain ⟨rfl, ad, rfl, hsrc⟩ := hpos (by omega)
  refine ⟨_, run_copy_row (P := P) w T T ty E g off dLen dCap ad sLen sCap cur.toArray t cs hu hs hg hn hsrc (by simpa using hfit) h1, ?_, ?_⟩
  ·
   simpa [splice] using setRow_heap w g cur.toArray _ t _ hg
  ·
   exact ⟨rfl, rfl, rfl, by simp [World.setRow], fun k hk hne => setRow_other w g k _ (fun e => hne (by rw [e]))⟩
theorem ZhN {w : World} {D N n ty : Nat} {z : Value} {f : Nat → Nat} (hD : w.heap[D]? = some (.cells (cw N (fun _ => 0)) 27 (0, 0))) (hz : LW w z n f) (hn : n ≤ N) :
  ∃ w', (Builtin.copy_ #[37, 37] ty #[.slice (some ⟨D, 0, none⟩) N N, z]).run Tryz.prog w = .ok (goInt n) w' ∧ w'.heap[D]? = some (.cells (cw N (fun j => if j < n then f j else 0)) 27 (0, 0)) ∧ w.grownBy w' (some D) := by
 obtain ⟨g, o, c, rfl, _, _, hg, hc⟩ := hz.ex
 have hsz : (Tryz.prog.info? 27).map (·.size) = some 1 := by kernel_rfl
 obtain ⟨w', hr, hh, hgr⟩ := ZkW (P := Tryz.prog) w 37 ty 27 Tryz.undL hsz (some ⟨D, 0, none⟩) (some ⟨g, o, none⟩) N N n c D 0 (wl N (fun _ => 0)) 27 hD (wl n f) (by rw [Zb3]; exact (Nat.min_eq_left hn).symm) (fun _ => ⟨rfl, _, rfl, fun j v hv => by
  have hj := (List.getElem?_eq_some_iff.1 hv).1
  rw [Zb3] at hj
  rw [ZdB hj] at hv
  rw [Addr.add_mid, hc j hj]
  exact hv⟩) (by rw [Zb3, Zb3]; omega) Ziq
 rw [Zb3] at hr
 refine ⟨w', hr, ?_, hgr⟩
 rw [hh]
 congr 2
 apply Array.ext_getElem?
 intro j
 rw [List.getElem?_toArray]
 unfold splice
 rw [List.take_zero, List.nil_append, Zb3, Nat.zero_add]
 by_cases h1 : j < n
 ·
  rw [List.getElem?_append_left (by rw [Zb3]; exact h1), ZdB h1, Zb2 _ (by omega), if_pos h1]
 ·
  rw [List.getElem?_append_right (by rw [Zb3]; omega), Zb3, List.getElem?_drop]
  by_cases h2 : j < N
  ·
   rw [show n + (j - n) = j by omega, ZdB h2, Zb2 _ h2, if_neg h1]
  ·
   rw [List.getElem?_eq_none (by rw [Zb3]; omega), Array.getElem?_eq_none (by rw [Zd8]; omega)]
structure EW (w : World) (v : Value) (ne : Nat) (f : Nat → Nat) : Prop where
 lt : ∀ j, f j < 18446744073709551616
 ex : ∃ ao c, v = .slice ao ne c ∧ ∀ j, j < ne → ∃ ad, ao = some ad ∧ ad.block < w.heap.size ∧ w.cell? (ad.add j) = some (.int .u64 (f j))
theorem LW.exp {w : World} {v : Value} {n X : Nat} (h : LW w v n (limb X)) : EW w v n (limb X) := by
 obtain ⟨g, o, c, e, h1, h2, hg, hc⟩ := h.ex
 exact ⟨Zaz X, _, c, e, fun j hj => ⟨_, rfl, hg, by rw [Addr.add_mid]; exact hc j hj⟩⟩
theorem ZmJ (X E p : Nat) : X ^ (E / 2 ^ p) = X ^ (E / 2 ^ (p + 1)) * X ^ (E / 2 ^ (p + 1)) * X ^ (E / 2 ^ p % 2) := by
 have e : E / 2 ^ p = E / 2 ^ (p + 1) + E / 2 ^ (p + 1) + E / 2 ^ p % 2 := by
  rw [Nat.pow_succ, ← Nat.div_div_eq_div_mul]
  omega
 conv => lhs; rw [e, Nat.pow_add, Nat.pow_add]
theorem ZkX {n M : Nat} (hM : FM n M) (X : Nat) (hX : X < M) (ne : Nat) (hne : ne ≤ 8) (f : Nat → Nat) (w : World) (fv u ev : Value) (hF : FF w fv n M) (hu : LW w u n (limb X)) (he : EW w ev ne f) :
  Calls Tryz.prog 215 #[fv, u, ev] w fun r w' => (∃ v', r = .returned v' ∧ LW w' v' n (limb (X ^ val f ne % M))) ∧ Below w.heap.size w w' := by
 have HU := hideP hu
 have HFF := hideP hF
 obtain ⟨eo, ec, rfl, hec⟩ := he.ex
 have HEC := hideP hec
 have HEL := hideP he.lt
 have HH : Hid (FM n M ∧ X < M ∧ ne ≤ 8) := ⟨hM, hX, hne⟩
 have ew2 : IntKind.i64.wrap ((ne : Int) - 1) = (ne : Int) - 1 := by rw [IntKind.wrap_i64]; omega
 clear hu hM hX he hec hne
 obtain ⟨mv, fo, tv, rfl, hm, ht, hfo⟩ := hF.ex
 have HMV := hideP hm
 have HTV := hideP ht
 have HFO := hideP hfo
 clear hF hm ht hfo
 go_enter Tryz.func215, Tryz.ntmps215
 refine Zae (fun K0 HK0 => ?_)
 go_wp2_with fail
 refine HK0.out _ _ ?_
 refine Zaj (fun W0 hW0 => ?_)
 have hB0 : W0.heap[w.heap.size]? = some (.cells #[mv, .int .u64 fo, tv] 39 (0, 0)) := by
  rw [hW0]
  exact Zaf _ _
 have HBW : Hid (Below w.heap.size w W0) := by
  show Below _ _ _
  rw [hW0]
  repeat first | exact Below.refl _ _ | (refine Below.alloc ?_ (by simp <;> omega) _)
 have HB0 := hideP hB0
 clear hW0 hB0
 have f0 : W0.cell? ⟨w.heap.size, 0, none⟩ = some mv := Zac HB0.out rfl
 have f1 : W0.cell? ⟨w.heap.size, 1, none⟩ = some (.int .u64 fo) := Zac HB0.out rfl
 have f2 : W0.cell? ⟨w.heap.size, 2, none⟩ = some tv := Zac HB0.out rfl
 obtain ⟨gt, ot, ct, hte, -, -, -, -⟩ := HTV.out.ex
 subst hte
 obtain ⟨gm, om, cm, hme, -, -, -, -⟩ := HMV.out.ex
 subst hme
 have C1 := hideP (ZdE HH.out.1 X HH.out.2.1 W0 _ u _ (HFF.out.moved HBW.out) (HU.out.moved HBW.out) (HTV.out.moved HBW.out))
 refine Zae (fun Ka HKa => ?_)
 go_wp2_with fail
 refine C1.out.mono ?_
 rintro r W1 ⟨⟨vx, rfl, hx⟩, hb⟩
 have HXL := hideP hx
 replace HB0 := hideP ((hb.block _ (Zab HB0.out)).trans HB0.out)
 replace HBW := hideP (HBW.out.trans (hb.mono HBW.out.size))
 clear hb hx C1 f0 f1 f2
 go_wp2_with fail
 refine HKa.out _ _ ?_
 refine Zae (fun K1 HK1 => ?_)
 refine Zai (S := fun V => Below W1.heap.size W1 V) (by kernel_rfl) ((Below.refl _ _).drew) (fun hS => ?_)
 refine tkI 0 ?_ hS ?_ ?_
 rotate_left
 ·
  intro V hV
  have k0 : V.cell? ⟨w.heap.size, 0, none⟩ = some (.slice (some ⟨gm, om, none⟩) n cm) := Zac ((hV.block _ (Zab HB0.out)).trans HB0.out) rfl
  have k1 : V.cell? ⟨w.heap.size, 1, none⟩ = some (.int .u64 fo) := Zac ((hV.block _ (Zab HB0.out)).trans HB0.out) rfl
  have k2 : V.cell? ⟨w.heap.size, 2, none⟩ = some (.slice (some ⟨gt, ot, none⟩) n ct) := Zac ((hV.block _ (Zab HB0.out)).trans HB0.out) rfl
  go_simp
  (try with_reducible rfl)
 simp only [Zaa, Zs, Zz]
 refine tkI 1 ?_ hS ?_ ?_
 rotate_left
 ·
  intro V hV
  have k0 : V.cell? ⟨w.heap.size, 0, none⟩ = some (.slice (some ⟨gm, om, none⟩) n cm) := Zac ((hV.block _ (Zab HB0.out)).trans HB0.out) rfl
  have k1 : V.cell? ⟨w.heap.size, 1, none⟩ = some (.int .u64 fo) := Zac ((hV.block _ (Zab HB0.out)).trans HB0.out) rfl
  have k2 : V.cell? ⟨w.heap.size, 2, none⟩ = some (.slice (some ⟨gt, ot, none⟩) n ct) := Zac ((hV.block _ (Zab HB0.out)).trans HB0.out) rfl
  go_simp
  (try with_reducible rfl)
 simp only [Zaa, Zs, Zz]
 refine tkG 3 hS ?_
 simp only [Zaa, Zs, Zz]
 refine tkI 4 ?_ hS ?_ ?_
 rotate_left
 ·
  intro V hV
  have k0 : V.cell? ⟨w.heap.size, 0, none⟩ = some (.slice (some ⟨gm, om, none⟩) n cm) := Zac ((hV.block _ (Zab HB0.out)).trans HB0.out) rfl
  have k1 : V.cell? ⟨w.heap.size, 1, none⟩ = some (.int .u64 fo) := Zac ((hV.block _ (Zab HB0.out)).trans HB0.out) rfl
  have k2 : V.cell? ⟨w.heap.size, 2, none⟩ = some (.slice (some ⟨gt, ot, none⟩) n ct) := Zac ((hV.block _ (Zab HB0.out)).trans HB0.out) rfl
  go_simp
  (try with_reducible rfl)
 simp only [Zaa, Zs, Zz]
 refine rd1 2 (fun K hK => ?_)
 go_simp
 refine (Zk3 HH.out.1 _ _ (HFF.out.moved (HBW.out.trans (hS.mono HBW.out.size)))).mono ?_
 rintro r y1 ⟨⟨v1, rfl, hL⟩, hb⟩
 refine hK.out _ _ (hS.trans (hb.mono hS.size)) (fun hS2 => ?_)
 clear hS
 have hS := hS2
 clear hS2
 have HL1 := hideP hL
 clear hL
 clear hb
 clear hK K
 refine rd1 5 (fun K hK => ?_)
 go_simp
 refine (ZdE HH.out.1 1 (by have := HH.out.1.ge; omega) _ _ v1 _ (HFF.out.moved (HBW.out.trans (hS.mono HBW.out.size))) HL1.out (HTV.out.moved (HBW.out.trans (hS.mono HBW.out.size)))).mono ?_
 rintro r y2 ⟨⟨v2, rfl, hL⟩, hb⟩
 refine hK.out _ _ (hS.trans (hb.mono hS.size)) (fun hS2 => ?_)
 clear hS
 have hS := hS2
 clear hS2
 have HL2 := hideP hL
 clear hL
 clear hb
 clear hK K
 refine rd1 6 (fun K hK => ?_)
 go_simp
 refine hK.out _ _ hS (fun hS => ?_)
 clear hK K
 refine wpAnyH_done (by kernel_rfl) ?_ _
 (try simp only [Zas])
 refine HK1.out _ _ ?_
 have HXL2 := hideP (HXL.out.moved hS)
 replace HB0 := hideP ((hS.block _ (Zab HB0.out)).trans HB0.out)
 replace HBW := hideP (HBW.out.trans (hS.mono HBW.out.size))
 clear hS HXL HL1
 obtain ⟨E, hE⟩ : ∃ E, E = val f ne := ⟨_, rfl⟩
 have HEV := hideP hE
 have HEf : Hid (∀ j, j < ne → f j = limb E j) := fun j hj => by rw [hE, Zcq ne (fun j _ => HEL.out j) hj]
 have HI0 : Hid (LW y2 v2 n (limb (elN n M (X ^ (E / 18446744073709551616 ^ ne))))) := by
  show LW _ _ _ _
  rw [Nat.div_eq_of_lt (by rw [hE]; exact ZbK ne (fun j _ => HEL.out j)), Nat.pow_zero]
  exact HL2.out
 rw [← hE]
 clear hE HL2
 refine Zae (fun K2 HK2 => ?_)
 go_wp2_with fail
 go_loopw [8, 9] (fun z i wr => ∃ k : Nat, k ≤ ne ∧ i = .int .i64 ((k : Int) - 1) ∧ LW wr z n (limb (elN n M (X ^ (E / 18446744073709551616 ^ k)))) ∧ LW wr vx n (limb (elN n M X)) ∧ Below w.heap.size w wr ∧ wr.heap[w.heap.size]? = some (.cells #[.slice (some ⟨gm, om, none⟩) n cm, .int .u64 (fo : Int), .slice (some ⟨gt, ot, none⟩) n ct] 39 (0, 0))) (fun _ i _ => (intOf i + 1).toNat)
 case atStart => exact ⟨ne, Nat.le_refl _, rfl, HI0.out, HXL2.out, HBW.out, HB0.out⟩
 case round =>
  obtain ⟨k, hk, rfl, hL, hX, hb, hf⟩ := hrel
  by_cases hz : 0 < k
  ·
   have e1 : (k : Int) - 1 = ((k - 1 : Nat) : Int) := by omega
   have hna := HH.out.2.2
   have e2 : IntKind.i64.wrap (((k - 1 : Nat) : Int) - 1) = ((k - 1 : Nat) : Int) - 1 := by rw [IntKind.wrap_i64]; omega
   have g3 : ((k - 1 : Nat) : Int) < ne := by omega
   have HKS : Hid (k - 1 ≤ ne ∧ 0 < k ∧ k ≤ ne) := ⟨by omega, hz, hk⟩
   have HL : Hid (LW wr u8 n (limb (elN n M (X ^ (E / 2 ^ (64 * (k - 1) + 64)))))) := by
    show LW _ _ _ _
    rw [show 64 * (k - 1) + 64 = 64 * k by omega, ← pow_two]
    exact hL
   have HB := hideP hb
   have HX := hideP hX
   have HF := hideP hf
   obtain ⟨ad, hao, _, _⟩ := HEC.out (k - 1) (by omega)
   subst hao
   rw [e1]
   clear hb hL hk hz e1 hna hX hf
   go_wp2_with fail
   rename World => wA
   go_loopw [8, 10] (fun z kk wr => ∃ j : Nat, j ≤ 64 ∧ kk = .int .i64 ((j : Int) - 1) ∧ LW wr z n (limb (elN n M (X ^ (E / 2 ^ (64 * (k - 1) + j))))) ∧ LW wr vx n (limb (elN n M X)) ∧ Below w.heap.size w wr ∧ wr.heap[w.heap.size]? = some (.cells #[.slice (some ⟨gm, om, none⟩) n cm, .int .u64 (fo : Int), .slice (some ⟨gt, ot, none⟩) n ct] 39 (0, 0))) (fun _ kk _ => (intOf kk + 1).toNat)
   case atStart => exact ⟨64, Nat.le_refl _, rfl, HL.out, HX.out, HB.out, HF.out⟩
   case round =>
    obtain ⟨j, hj, rfl, hL, hX, hb, hf⟩ := hrel
    by_cases hz : 0 < j
    ·
     have e1 : (j : Int) - 1 = ((j - 1 : Nat) : Int) := by omega
     have hk1 : k - 1 < ne := by have := HKS.out; omega
     obtain ⟨ad', hao, hab, hce⟩ := HEC.out (k - 1) hk1
     cases hao
     have hlim := HEf.out (k - 1) hk1
     rw [hlim] at hce
     have HCE := hideP hce
     have HAB := hideP (World.block_lt_of_cell? w _ hce)
     have hlx := Zaz E (k - 1)
     have hdl : limb E (k - 1) / 2 ^ (j - 1) < 18446744073709551616 := Nat.lt_of_le_of_lt (Nat.div_le_self _ _) hlx
     have hand : bits .and .u64 ((limb E (k - 1) : Int) / 2 ^ (j - 1)) 1 = ((limb E (k - 1) / 2 ^ (j - 1) % 2 : Nat) : Int) := by
      rw [← ZdA _ hdl]
      congr 1
     have HPB : Hid (X ^ (E / 2 ^ (64 * (k - 1) + (j - 1))) = X ^ (E / 2 ^ (64 * (k - 1) + j)) * X ^ (E / 2 ^ (64 * (k - 1) + j)) * X ^ (limb E (k - 1) / 2 ^ (j - 1) % 2)) := by
      show _ = _
      rw [Zip E (k - 1) (j - 1) (by omega), ZmJ X E (64 * (k - 1) + (j - 1)), show 64 * (k - 1) + (j - 1) + 1 = 64 * (k - 1) + j by omega]
     have C := hideP (ZfH HH.out.1 (X ^ (E / 2 ^ (64 * (k - 1) + j))) (X ^ (E / 2 ^ (64 * (k - 1) + j))) wr _ _ _ (HFF.out.moved hb) hL hL)
     have q0 : wr.cell? ⟨w.heap.size, 0, none⟩ = some (.slice (some ⟨gm, om, none⟩) n cm) := Zac hf rfl
     have q1 : wr.cell? ⟨w.heap.size, 1, none⟩ = some (.int .u64 fo) := Zac hf rfl
     have q2 : wr.cell? ⟨w.heap.size, 2, none⟩ = some (.slice (some ⟨gt, ot, none⟩) n ct) := Zac hf rfl
     have HJS : Hid (j - 1 ≤ 64 ∧ 0 < j) := ⟨by omega, hz⟩
     have g4 : ((j - 1 : Nat) : Int) < 64 := by omega
     have e3 : IntKind.i64.wrap (((j - 1 : Nat) : Int) - 1) = ((j - 1 : Nat) : Int) - 1 := by rw [IntKind.wrap_i64]; omega
     have e5 : IntKind.u64.wrap ((j - 1 : Nat) : Int) = ((j - 1 : Nat) : Int) := by rw [IntKind.wrap_u64]; omega
     have HB2 := hideP hb
     have HX2 := hideP hX
     have HF2 := hideP hf
     have hb01 : limb E (k - 1) / 2 ^ (j - 1) % 2 = 0 ∨ limb E (k - 1) / 2 ^ (j - 1) % 2 = 1 := by omega
     rw [e1]
     clear hb hL hj hz e1 hk1 hdl hX hf hab hlim hce hlx
     generalize limb E (k - 1) / 2 ^ (j - 1) % 2 = bt at *
     generalize limb E (k - 1) = lv at *
     generalize X ^ (E / 2 ^ (64 * (k - 1) + j)) = Y at *
     generalize hj1 : j - 1 = j1 at *
     generalize hkk : k - 1 = k1 at *
     go_wp2_with fail
     refine C.out.mono ?_
     rintro r w3 ⟨⟨v3, rfl, hL3⟩, hb3⟩
     have HL3 := hideP hL3
     have HX3 := hideP (HX2.out.moved hb3)
     have HF3 := hideP ((hb3.block _ (Zab HF2.out)).trans HF2.out)
     have HB3 := hideP (HB2.out.trans (hb3.mono HB2.out.size))
     have hce3 : w3.cell? (ad.add k1) = some (.int .u64 lv) := (HB3.out.cell (p := ad.add k1) HAB.out).trans HCE.out
     have p0 : w3.cell? ⟨w.heap.size, 0, none⟩ = some (.slice (some ⟨gm, om, none⟩) n cm) := Zac HF3.out rfl
     have p1 : w3.cell? ⟨w.heap.size, 1, none⟩ = some (.int .u64 fo) := Zac HF3.out rfl
     have p2 : w3.cell? ⟨w.heap.size, 2, none⟩ = some (.slice (some ⟨gt, ot, none⟩) n ct) := Zac HF3.out rfl
     clear hL3 hb3 C q0 q1 q2 HX2 HF2 HB2
     rcases hb01 with rfl | rfl
     ·
      have HPB2 := HPB.out
      rw [Nat.pow_zero, Nat.mul_one] at HPB2
      have HPB3 := hideP HPB2
      clear HPB2 HPB
      go_wp2_with fail
      refine ⟨⟨j1, HJS.out.1, by go_num, by rw [HPB3.out]; exact HL3.out, HX3.out, HB3.out, HF3.out⟩, ?_⟩
      have := HJS.out.2
      simp [intOf] <;> omega
     ·
      have HPB2 := HPB.out
      rw [Nat.pow_one] at HPB2
      have HPB3 := hideP HPB2
      have C2 := hideP (ZfH HH.out.1 (Y * Y) X w3 _ _ _ (HFF.out.moved HB3.out) HL3.out HX3.out)
      clear HPB2 HPB
      go_wp2_with fail
      refine C2.out.mono ?_
      rintro r w4 ⟨⟨v4, rfl, hL4⟩, hb4⟩
      have HL4 := hideP hL4
      have HX4 := hideP (HX3.out.moved hb4)
      have HF4 := hideP ((hb4.block _ (Zab HF3.out)).trans HF3.out)
      have HB4 := hideP (HB3.out.trans (hb4.mono HB3.out.size))
      clear hL4 hb4 C2
      go_wp2_with fail
      refine ⟨⟨j1, HJS.out.1, by go_num, by rw [HPB3.out]; exact HL4.out, HX4.out, HB4.out, HF4.out⟩, ?_⟩
      have := HJS.out.2
      simp [intOf] <;> omega
    ·
     have hj0 : j = 0 := by omega
     subst hj0
     have HL2 : Hid (LW wr u8 n (limb (elN n M (X ^ (E / 18446744073709551616 ^ (k - 1)))))) := by
      show LW _ _ _ _
      rw [Nat.add_zero, ← pow_two] at hL
      exact hL
     have HB2 := hideP hb
     have HX2 := hideP hX
     have HF2 := hideP hf
     clear hL hb hj hz hX hf
     simp only [Int.natCast_zero, Int.zero_sub]
     generalize hkk : k - 1 = k1 at *
     go_wp2_with fail
     refine ⟨⟨k1, HKS.out.1, by go_num, HL2.out, HX2.out, HB2.out, HF2.out⟩, ?_⟩
     have := HKS.out.2
     simp [intOf] <;> omega
  ·
   have hk0 : k = 0 := by omega
   subst hk0
   rw [Nat.pow_zero, Nat.div_one] at hL
   have HL := hideP hL
   have HB := hideP hb
   have HF := hideP hf
   clear hL hb hk hz hX hf
   simp only [Int.natCast_zero, Int.zero_sub]
   go_wp2_with fail
   refine HK2.out _ _ ?_
   obtain ⟨NN, hNN⟩ : ∃ NN, NN = n + n := ⟨_, rfl⟩
   have hn := HH.out.1.n8
   have hmk := ZaV wr NN (by omega)
   have en : IntKind.i64.wrap (2 * (n : Int)) = (NN : Int) := by rw [IntKind.wrap_i64]; omega
   have q0 : wr.cell? ⟨w.heap.size, 0, none⟩ = some (.slice (some ⟨gm, om, none⟩) n cm) := Zac HF.out rfl
   have HNN : Hid (NN = n + n ∧ n ≤ 8) := ⟨hNN, hn⟩
   clear hNN hn
   refine Zae (fun K3 HK3 => ?_)
   go_wp2_with fail
   refine HK3.out _ _ ?_
   refine Zaj (fun W2 hW2 => ?_)
   have hD : W2.heap[wr.heap.size]? = some (.cells (cw NN (fun _ => 0)) 27 (0, 0)) := by
    rw [hW2]
    exact Zaf _ _
   have hB2 : Below wr.heap.size wr W2 := by
    rw [hW2]
    exact (Below.refl _ _).alloc (Nat.le_refl _) _
   obtain ⟨W3, hcp, hD3, hg3⟩ := ZhN (ty := 3) hD (HL.out.moved hB2) (by have := HNN.out; omega)
   have hB3 : Below wr.heap.size W2 W3 := (Below.refl _ _).grown hg3 hB2.size (fun x hx => by cases hx; exact Nat.le_refl _)
   have hB23 := hB2.trans hB3
   have HF3 := hideP ((hB23.block _ (Zab HF.out)).trans HF.out)
   have HB3 := hideP (HB.out.trans (hB23.mono HB.out.size))
   have p0 : W3.cell? ⟨w.heap.size, 0, none⟩ = some (.slice (some ⟨gm, om, none⟩) n cm) := Zac HF3.out rfl
   have p1 : W3.cell? ⟨w.heap.size, 1, none⟩ = some (.int .u64 fo) := Zac HF3.out rfl
   have p2 : W3.cell? ⟨w.heap.size, 2, none⟩ = some (.slice (some ⟨gt, ot, none⟩) n ct) := Zac HF3.out rfl
   have hel := Ze1 HH.out.1 (X ^ E)
   have hlt := HH.out.1.lt
   have hLL : LW W3 (.slice (some ⟨wr.heap.size, 0, none⟩) (n + n) (n + n)) (n + n) (limb (elN n M (X ^ E))) := by
    have h1 := Zcd (by have := HNN.out; omega) hD3
    rw [HNN.out.1] at h1
    refine h1.congr (fun j hj => ?_)
    by_cases h2 : j < n
    ·
     rw [if_pos h2]
    ·
     rw [if_neg h2, ZcG (Nat.lt_trans hel hlt) (by omega)]
   have C := hideP (ZdD HH.out.1.n0 HH.out.1.n8 (elN n M (X ^ E)) M fo hlt HH.out.1.pos (Nat.lt_of_lt_of_le hel (Nat.le_mul_of_pos_right _ (Nat.pow_pos (by decide)))) HFO.out W3 _ _ (.slice (some ⟨gt, ot, none⟩) n ct) hLL (HMV.out.moved HB3.out))
   rw [← HNN.out.1] at C
   clear hW2 hmk hD hB2 hB3 hB23 hD3 hg3 hel hlt hLL q0 en
   obtain ⟨g8, o8, c8, hu8, -, -, -, -⟩ := HL.out.ex
   subst hu8
   go_wp2_with fail
   refine C.out.mono ?_
   rintro r W4 ⟨⟨v4, rfl, P, hP1, hP2, hP3⟩, hb⟩
   have HP : Hid (LW W4 v4 n (limb (X ^ E % M))) := by
    show LW _ _ _ _
    have : P = X ^ E % M := by
     refine HH.out.1.uniq hP2 (Nat.mod_lt _ HH.out.1.pos) ?_
     rw [hP3]
     unfold elN
     rw [Nat.mod_mod, Nat.mod_mul_mod]
    rw [← this]
    exact hP1
   have HB4 := hideP (HB3.out.trans (hb.mono HB3.out.size))
   clear hP1 hP2 hP3 hb C p0 p1 p2 hcp
   go_wp2
   go_ret
   exact ⟨⟨_, rfl, HP.out⟩, HB4.out⟩
end Go.Proofs.YtcbdbnfgnonacaaGreat
