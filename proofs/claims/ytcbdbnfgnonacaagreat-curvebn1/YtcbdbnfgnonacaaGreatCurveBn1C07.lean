/-
 A store that need not wait for an operation that looks at no memory.
-/
import Derived.Test.YtcbdbnfgnonacaaGreatCurveBn1C06
namespace Go.Proofs.YtcbdbnfgnonacaaGreat
open Go.RowKit Go.Shelf
inductive SR where
 | val (x : SV)
 | box (l : List Ch) (t : TypeId)
def SR.gd {sz : Nat → Nat} (A : Al sz) (β : Nat → Nat) : SR → GD
 | .val x => .ex (A.sv β x)
 | .box l t => .nb (A.rw β l).toArray t
def SR.wf (n : Nat) : SR → Bool
 | .val x => x.wf n
 | .box l _ => l.all (Ch.wf n)
def SR.sv : SR → Option SV
 | .val x => some x
 | .box _ _ => none
def rsS (ops : List Oper) (n : Nat) (kn : List (Nat × SV)) (get : Nat → Option SV) (i : Nat) : Operand → Option SV
 | .tmp s => match srcOf ops i s with
  | some j => get j
  | none => if outL ops n i s then kn.lookup s else none
 | .const (.bool b) => some (.one (.cx (.lit b)))
 | .const v => some (.one (.v v))
 | .func f => some (.one (.v (.func (.func f) #[] #[])))
 | .global _ => none
def allS (f : Operand → Option SV) : List Operand → Option (List SV)
 | [] => some []
 | x :: r => match f x, allS f r with
  | some v, some vs => some (v :: vs)
  | _, _ => none
def dstAt (ops : List Oper) (g : Nat) : Bool := match ops[g]? with
 | some og => og.dst.isSome
 | none => false
def gdS (ops : List Oper) (get : Nat → Option SV) (i : Nat) (o : Oper) : Option Bool := match o.guard with
 | none => some true
 | some (g, b) => if decide (g < i) && wts ops i g && dstAt ops g then (match get g with
  | some (.one (.cx (.lit c))) => some (c == b)
  | _ => none) else none
def stepS (P : Program) (sz : Nat → Nat) (E : Env) (bl : SB) (ops : List Oper) (n : Nat) (kn : List (Nat × SV)) (get : Nat → Option SV) (i : Nat) : Option SR := match ops[i]? with
 | none => none
 | some o => if o.dst.isSome then (match gdS ops get i o with
  | none => none
  | some false => if isAlO o then none else some (.val (.one (.v undef)))
  | some true => match o.op with
   | .alloc t => (zeQ P E t).map fun l => .box l t
   | .box t x => match rsS ops n kn get i x with
    | some v => match chOf v with
     | some m => if m.all okCh then some (.box m t) else none
     | none => none
    | none => none
   | .call c => match c.callee with
    | .value (.func f) => match allS (rsS ops n kn get i) c.args.toList with
     | some xs => (E.T f xs).map .val
     | none => none
    | .invoke r nm => match allS (rsS ops n kn get i) (r :: c.args.toList) with
     | some xs => (E.I nm xs).map .val
     | none => none
    | _ => none
   | op => match Zbm op with
    | some rs => match allS (rsS ops n kn get i) rs with
     | some xs => (opQ P sz E bl op xs).map .val
     | none => none
    | none => none) else none
def goS (P : Program) (sz : Nat → Nat) (E : Env) (bl : SB) (ops : List Oper) (n : Nat) (kn : List (Nat × SV)) : Nat → List SR → Option (List SR)
 | 0, acc => some acc
 | k + 1, acc => match stepS P sz E bl ops n kn (fun j => acc[j]?.bind SR.sv) acc.length with
  | some x => goS P sz E bl ops n kn k (acc ++ [x])
  | none => none
section
variable {P : Program} {sz : Nat → Nat} {A : Al sz} {E : Env} {bl : SB} {ops : List Oper} {n : Nat} {kn : List (Nat × SV)} {get get' : Nat → Option SV} {i : Nat} {β : Nat → Nat}
theorem Zhs {s j : Nat} (h : srcOf ops i s = some j) : j < i := by
 unfold srcOf at h
 have := List.mem_of_find?_eq_some h
 simpa using this
theorem ZiA (h : ∀ j, j < i → get j = get' j) (x : Operand) : rsS ops n kn get i x = rsS ops n kn get' i x := by
 unfold rsS
 split
 ·
  split
  ·
   rename_i hj
   exact h _ (Zhs hj)
  ·
   rfl
 all_goals rfl
theorem ZiB (h : ∀ j, j < i → get j = get' j) (o : Oper) : gdS ops get i o = gdS ops get' i o := by
 unfold gdS
 split
 ·
  rfl
 ·
  split
  ·
   rename_i hc
   simp only [Bool.and_eq_true, decide_eq_true_eq] at hc
   rw [h _ hc.1.1]
  ·
   rfl
theorem Zg5 (h : ∀ j, j < i → get j = get' j) : stepS P sz E bl ops n kn get i = stepS P sz E bl ops n kn get' i := by
 have e : rsS ops n kn get i = rsS ops n kn get' i := funext (ZiA h)
 unfold stepS
 simp only [ZiB h, e]
theorem Zl7 : ∀ {k : Nat} {acc Gs : List SR}, goS P sz E bl ops n kn k acc = some Gs → ∃ r, Gs = acc ++ r ∧ r.length = k ∧ ∀ j, acc.length ≤ j → j < Gs.length → stepS P sz E bl ops n kn (fun j => Gs[j]?.bind SR.sv) j = Gs[j]?
 | 0, acc, Gs, h => by
  cases h
  exact ⟨[], by simp, rfl, fun j h1 h2 => by omega⟩
 | k + 1, acc, Gs, h => by
  unfold goS at h
  split at h
  ·
   rename_i x hx
   obtain ⟨r, e, hl, hs⟩ := Zl7 h
   refine ⟨x :: r, by rw [e]; simp, by simp [hl], fun j h1 h2 => ?_⟩
   by_cases hj : j = acc.length
   ·
    subst hj
    have hg : Gs[acc.length]? = some x := by rw [e]; simp
    rw [hg, ← hx]
    refine Zg5 fun q hq => ?_
    rw [e, List.append_assoc, List.getElem?_append_left hq]
   ·
    exact hs j (by simp; omega) h2
  ·
   cases h
end
section
variable {P : Program} {sz : Nat → Nat} {A : Al sz} {E : Env} {bl : SB} {ops : List Oper} {kn : List (Nat × SV)} {Gs : List SR} {i N : Nat} {β : Nat → Nat}
theorem Zmw {j : Nat} {x : SV} (h : Gs[j]?.bind SR.sv = some x) : (GDs N (Gs.map (SR.gd A β)))[j]? = some (.ex (A.sv β x)) := by
 cases hj : Gs[j]? with
 | none => rw [hj] at h; cases h
 | some r =>
  rw [hj] at h
  cases r with
  | val y =>
   cases h
   unfold GDs
   rw [List.getElem?_map, List.getElem?_map, hj]
   rfl
  | box l t => cases h
theorem Zl8 {x : Operand} {y : SV} (h : rsS ops Gs.length kn (fun j => Gs[j]?.bind SR.sv) i x = some y) : rslv ops (GDs N (Gs.map (SR.gd A β))) (knD A β kn) i x = some (.ex (A.sv β y)) := by
 unfold rsS at h
 unfold rslv
 split at h
 ·
  split at h
  ·
   rename_i hj
   simp only [hj]
   exact Zmw h
  ·
   rename_i hj
   simp only [hj]
   split at h
   ·
    rename_i ho
    rw [show (GDs N (Gs.map (SR.gd A β))).length = Gs.length by rw [ZdM, List.length_map], if_pos ho, Zbk, h]
    rfl
   ·
    cases h
 ·
  cases h; rfl
 ·
  cases h; rfl
 ·
  cases h; rfl
 ·
  cases h
theorem Zg6 {rs : List Operand} : ∀ {xs : List SV}, allS (rsS ops Gs.length kn (fun j => Gs[j]?.bind SR.sv) i) rs = some xs → ∀ {ρ : Operand → Value}, (∀ x ∈ rs, ∀ v, rslv ops (GDs N (Gs.map (SR.gd A β))) (knD A β kn) i x = some (.ex v) → ρ x = v) → rs.map ρ = xs.map (A.sv β) ∧ okR ops (GDs N (Gs.map (SR.gd A β))) (knD A β kn) i rs = true := by
 induction rs with
 | nil => intro xs h ρ _; cases h; exact ⟨rfl, rfl⟩
 | cons x rs ih =>
  intro xs h ρ hρ
  unfold allS at h
  split at h
  ·
   rename_i v vs h1 h2
   cases h
   have h3 := Zl8 (A := A) (β := β) (N := N) h1
   obtain ⟨h4, h5⟩ := ih h2 (fun z hz => hρ z (List.mem_cons_of_mem _ hz))
   refine ⟨by rw [List.map_cons, List.map_cons, hρ x List.mem_cons_self _ h3, h4], ?_⟩
   unfold okR at h5 ⊢
   rw [List.all_cons, h3, h5]
   rfl
  ·
   cases h
end
section
variable {P : Program} {sz : Nat → Nat} {A : Al sz} {E : Env} {bl : SB} {ops : List Oper} {kn : List (Nat × SV)} {Gs : List SR} {i : Nat} {β : Nat → Nat} {Q : Exit → Act → World → Prop} {w W : World} {L : List Value}
theorem Zk6 {N : Nat} {o : Oper} (ho : ops[i]? = some o) (hi : i < Gs.length) (h : gdS ops (fun j => Gs[j]?.bind SR.sv) i o = some true) : gdB ops.toArray (GDs N (Gs.map (SR.gd A β))) i = true := by
 unfold gdS at h
 unfold gdB
 rw [List.getElem?_toArray, ho]
 simp only
 split at h
 ·
  rename_i hg; rw [hg]
 ·
  rename_i g b hg
  rw [hg]
  split at h
  ·
   rename_i hc
   simp only [Bool.and_eq_true, decide_eq_true_eq] at hc
   split at h
   ·
    rename_i c hgc
    have h2 := Zmw (A := A) (β := β) (N := N) hgc
    simp only [h2, ZdM, List.length_map, ZfI, List.getElem?_toArray, Al.sv, Al.sc, Al.cx]
    simp only [Option.some.injEq] at h
    simp only [h, hc.1.2, Bool.and_true, Bool.and_eq_true, decide_eq_true_eq]
    have h4 := hc.2
    unfold dstAt at h4
    exact ⟨by omega, h4⟩
   ·
    cases h
  ·
   cases h
theorem ZiC {N : Nat} {o : Oper} (ho : ops[i]? = some o) (hd : o.dst.isSome = true) (ha : isAlO o = false) (hi : i < Gs.length) (h : gdS ops (fun j => Gs[j]?.bind SR.sv) i o = some false) : offB ops (GDs N (Gs.map (SR.gd A β))) i = true := by
 unfold gdS at h
 unfold offB
 rw [ho]
 simp only [hd, ha]
 split at h
 ·
  cases h
 ·
  rename_i g b hg
  rw [hg]
  split at h
  ·
   rename_i hc
   simp only [Bool.and_eq_true, decide_eq_true_eq] at hc
   split at h
   ·
    rename_i c hgc
    have h2 := Zmw (A := A) (β := β) (N := N) hgc
    simp only [h2, ZdM, List.length_map, Al.sv, Al.sc, Al.cx]
    simp only [Option.some.injEq] at h
    have h3 : (c != b) = true := by simp [bne, h]
    simp only [h3, hc.1.2, Bool.and_true, Bool.true_and, Bool.not_false, Bool.and_eq_true, decide_eq_true_eq]
    have h4 := hc.2
    unfold dstAt at h4
    exact ⟨by omega, h4⟩
   ·
    cases h
  ·
   cases h
theorem Zk7 (hE : EnvOK P A E w) (hw : Below w.heap.size w W) (hbx : BXs W (blD A β bl)) (hk : KS L (knD A β kn)) {r : SR} (hs : stepS P sz E bl ops Gs.length kn (fun j => Gs[j]?.bind SR.sv) i = some r) (hr : Gs[i]? = some r) :
  OpOK P .any ops.toArray Q (Up W) (PDs (GDs W.heap.size (Gs.map (SR.gd A β)))) L [] i := by
 have hi : i < Gs.length := (List.getElem?_eq_some_iff.1 hr).1
 have hpd : (GDs W.heap.size (Gs.map (SR.gd A β)))[i]? = some ((r.gd A β).pd W.heap.size) := by
  unfold GDs
  rw [List.getElem?_map, List.getElem?_map, hr]
  rfl
 unfold stepS at hs
 cases ho : ops[i]? with
 | none => rw [ho] at hs; cases hs
 | some o =>
  rw [ho] at hs
  simp only at hs
  split at hs
  ·
   rename_i hds
   obtain ⟨d, hd⟩ := Option.isSome_iff_exists.1 hds
   have hdd : dOf ops.toArray i = d := by
    unfold dOf
    rw [List.getElem?_toArray, ho]
    simp [hd]
   split at hs
   ·
    cases hs
   ·
    rename_i hg
    split at hs
    ·
     cases hs
    ·
     rename_i ha
     cases hs
     exact Zdk (ZiC ho hds (by simpa using ha) hi hg) hpd
   ·
    rename_i hg
    intro T V K hI hO hW hK
    have hV : Below w.heap.size w V := hw.trans (hI.mono hw.size)
    have hb : ∀ j l t, bxAt bl j = some (l, t) → V.rangeAt (β j) 0 (A.rw β l) := fun j l t h => by
     have h1 := hbx.get _ (ZcW (A := A) (β := β) h).2.2
     have := Zag (h1.moved hI).heap
     simpa using this
    have hρ : ∀ x v, rslv ops (GDs W.heap.size (Gs.map (SR.gd A β))) (knD A β kn) i x = some (.ex v) → Act.eval { tmps := T.toArray, defers := [] } x = v := fun x v h => (ZeY hk hO hW h).symm
    refine ZaE ho (fun K' hK' => ?_)
    rw [if_pos (ZdI ho (Zk6 ho hi hg) hW)]
    have fin : ∀ v w', Below V.heap.size V w' → ((r.gd A β).pd W.heap.size).vp v w' → (isAlO o = true → Fr v V w') → K' { tmps := (T.set d v).toArray, defers := [] } w' := fun v w' h1 h2 h3 => by
     have := hK v w' h1 (by rw [ZcH hpd]; exact h2) (fun ha => h3 (by unfold isAl at ha; rw [List.getElem?_toArray, ho] at ha; exact ha))
     rw [hdd] at this
     exact hK' _ _ this
    split at hs
    ·
     rename_i t hop
     obtain ⟨l, hl, rfl⟩ := Option.map_eq_some_iff.1 hs
     have e := ZaJ (ρ := Act.eval { tmps := T.toArray, defers := [] }) hop (ZfO hE hl β V)
     unfold Oper.wp
     rw [e]
     show K' _ _
     rw [hd, Zaa]
     exact fin _ _ (Zaq _ _) ⟨_, rfl, hI.size, ⟨Zaf _ _⟩⟩ (fun ha => Zcs ha e)
    ·
     rename_i t x hop
     split at hs
     ·
      rename_i v hv
      split at hs
      ·
       rename_i m hch
       split at hs
       ·
        rename_i hok
        cases hs
        have hx := hρ x _ (Zl8 (A := A) (β := β) (N := W.heap.size) hv)
        have e := Zcl (P := P) (w := V) (ρ := Act.eval { tmps := T.toArray, defers := [] }) hop hx
        rw [Zg4 hch hok] at e
        unfold Oper.wp
        rw [e]
        show K' _ _
        rw [hd, Zaa]
        exact fin _ _ (Zaq _ _) ⟨_, rfl, hI.size, ⟨Zaf _ _⟩⟩ (fun ha => Zcs ha e)
       ·
        cases hs
      ·
       cases hs
     ·
      cases hs
    ·
     rename_i c hop
     have hna : isAlO o = false := by unfold isAlO; rw [hop]
     split at hs
     ·
      rename_i f hc
      split at hs
      ·
       rename_i xs hxs
       obtain ⟨y, hy, rfl⟩ := Option.map_eq_some_iff.1 hs
       obtain ⟨h1, _⟩ := Zg6 (A := A) (β := β) (N := W.heap.size) hxs (fun x _ v h => hρ x v h)
       obtain ⟨hm, hcl⟩ := hE.T f xs y β V hy hV
       obtain ⟨cal, args, tys⟩ := c
       simp only at hc h1
       subst hc
       refine ZaN args tys d hop hd (av := (xs.map (A.sv β)).toArray) ?_ hm hcl ?_
       ·
        rw [← h1]
        apply Array.toList_inj.1
        simp
       ·
        rintro e w' ⟨rfl, hb'⟩
        exact ⟨_, rfl, fin _ _ hb' rfl (fun ha => by rw [hna] at ha; cases ha)⟩
      ·
       cases hs
     ·
      rename_i rv nm hc
      split at hs
      ·
       rename_i xs hxs
       obtain ⟨y, hy, rfl⟩ := Option.map_eq_some_iff.1 hs
       obtain ⟨h1, _⟩ := Zg6 (A := A) (β := β) (N := W.heap.size) hxs (fun x _ v h => hρ x v h)
       obtain ⟨f, av, hcm, hcl⟩ := hE.I nm xs y β V hy hV
       rw [← h1] at hcm
       obtain ⟨cal, args, tys⟩ := c
       simp only at hc h1 hcm
       subst hc
       simp only [List.map_cons, List.headD_cons, List.tail_cons] at hcm
       unfold Oper.wp execOp
       have he : (do let d ← resolve (Act.eval { tmps := T.toArray, defers := [] }) { callee := .invoke rv nm, args := args, argTypes := tys } o.type; invoke d.target d.args).run P V = .ok (.enter f av) V := by
        have e : args.map (Act.eval { tmps := T.toArray, defers := [] }) = (args.toList.map (Act.eval { tmps := T.toArray, defers := [] })).toArray := by rw [← List.map_toArray]
        simp only [resolve, invoke, Sem.run_bind, Sem.run_pure, Result.andThen, e]
        simp
        rw [List.take_of_length_le (by simp)]
        exact hcm
       simp only [hop]
       rw [he]
       refine hcl.mono ?_
       rintro e w' ⟨rfl, hb'⟩
       show K' _ _
       rw [hd, Zaa]
       exact fin _ _ hb' rfl (fun ha => by rw [hna] at ha; cases ha)
      ·
       cases hs
     ·
      cases hs
    ·
     rename_i op h1 h2
     split at hs
     ·
      rename_i rs hrs
      split at hs
      ·
       rename_i xs hxs
       obtain ⟨y, hy, rfl⟩ := Option.map_eq_some_iff.1 hs
       obtain ⟨h3, _⟩ := Zg6 (A := A) (β := β) (N := W.heap.size) hxs (fun x _ v h => hρ x v h)
       have e := Zi9 (ρ := Act.eval { tmps := T.toArray, defers := [] }) hE hV hb hrs h3 hy
       unfold Oper.wp
       rw [e]
       show K' _ _
       rw [hd, Zaa]
       exact fin _ _ (Below.refl _ _) rfl (fun ha => Zcs ha e)
      ·
       cases hs
     ·
      cases hs
  ·
   cases hs
end
def outS : List SR → SB → List SV → SB × List SV
 | [], bl, acc => (bl, acc.reverse)
 | .val x :: r, bl, acc => outS r bl (x :: acc)
 | .box l t :: r, bl, acc => outS r ((l, t) :: bl) (.one (.bp bl.length 0) :: acc)
def nextS (dsts : List Nat) (vals : List SV) (kn : List (Nat × SV)) (live : List Nat) : List (Nat × SV) :=
 live.filterMap fun s => match (dsts.zip vals).lookup s with
  | some v => some (s, v)
  | none => (kn.lookup s).map fun v => (s, v)
def alS (ops : List Oper) : Nat → List SR → Bool
 | _, [] => true
 | i, .val _ :: r => alS ops (i + 1) r
 | i, .box _ _ :: r => isAl ops.toArray i && alS ops (i + 1) r
def opK (kn : List (Nat × SV)) : Operand → Option SV
 | .tmp s => kn.lookup s
 | .const (.bool b) => some (.one (.cx (.lit b)))
 | .const v => some (.one (.v v))
 | _ => none
def stS (P : Program) (sz : Nat → Nat) (st : SSt) (o : Oper) : Option SSt := match o.op, o.guard, o.dst with
 | .store t p x, none, none => match opK st.kn p, opK st.kn x with
  | some (.one (.bp j 0)), some v => match bxAt st.bl j, chOf v with
   | some (l, ty), some m => if (rwN sz l == rwN sz m && szT P t == some (rwN sz m) && m.all okCh) then some ⟨st.kn, st.bl.set (st.bl.length - 1 - j) (m, ty)⟩ else none
   | _, _ => none
  | _, _ => none
 | _, _, _ => none
def setK (kn : List (Nat × SV)) (d : Nat) (y : SV) : List (Nat × SV) := (d, y) :: kn.filter fun p => p.1 != d
def lateS (P : Program) (sz : Nat → Nat) (N : Nat) (st : SSt) (o : Oper) : Option SSt := match o.guard, o.op, o.dst with
 | none, .assign x, some d => if d < N then (match opK st.kn x with
  | some v => some ⟨setK st.kn d v, st.bl⟩
  | none => none) else none
 | _, _, _ => stS P sz st o
def wfS (st : SSt) : Option SSt := if st.wf then some st else none
def regN (P : Program) (sz : Nat → Nat) (E : Env) (N : Nat) (st : SSt) (os : List Oper) (n : Nat) : Option SSt :=
 if chkD .any os.toArray n N then
  match goS P sz E st.bl os n st.kn n [] with
  | some Gs => if alS os 0 Gs && Gs.all (SR.wf st.bl.length) then
    (let dsts := (List.range n).map (dOf os.toArray)
    match wfS ⟨nextS dsts (outS Gs st.bl []).2 st.kn (dsts ++ (st.kn.map (·.1)).filter (!dsts.contains ·)), (outS Gs st.bl []).1⟩ with
    | some st1 => if n == os.length then some st1
     else if n + 1 == os.length then (match os[n]? with | some o => (lateS P sz N st1 o).bind wfS | none => none)
     else if n + 2 == os.length && waits .any os.toArray (n + 1) n then (match os[n]?, os[n + 1]? with | some o, some o2 => ((stS P sz st1 o).bind wfS).bind fun st2 => (lateS P sz N st2 o2).bind wfS | _, _ => none)
     else none
    | none => none) else none
  | none => none
 else none
def regS (P : Program) (sz : Nat → Nat) (E : Env) (N : Nat) (st : SSt) (os : List Oper) : Option SSt :=
 let n := (os.takeWhile fun o => o.dst.isSome).length
 match regN P sz E N st os n with
 | some s => some s
 | none => regN P sz E N st os (n - 1)
section
variable {sz : Nat → Nat} {A : Al sz} {β : Nat → Nat}
theorem Ze6 {s : Nat} : ∀ {ds : List Nat} {vs : List SV}, (ds.zip (vs.map (A.sv β))).lookup s = ((ds.zip vs).lookup s).map (A.sv β)
 | [], _ => by simp
 | _ :: _, [] => by simp
 | d :: ds, v :: vs => by
  rw [List.map_cons, List.zip_cons_cons, List.zip_cons_cons, List.lookup_cons, List.lookup_cons]
  by_cases h : s == d
  ·
   rw [h]; rfl
  ·
   rw [Bool.not_eq_true] at h
   rw [h]
   exact Ze6
theorem Zmx {dsts : List Nat} {vals : List SV} {kn : List (Nat × SV)} {live : List Nat} : nextK dsts (vals.map (A.sv β)) (knD A β kn) live = knD A β (nextS dsts vals kn live) := by
 unfold nextK nextS knD
 rw [List.map_filterMap]
 congr 1
 funext s
 rw [Ze6]
 cases (dsts.zip vals).lookup s with
 | some v => rfl
 | none =>
  have := Zbk (A := A) (β := β) (s := s) (kn := kn)
  unfold knD at this
  simp only [Option.map_none, this]
  cases kn.lookup s <;> rfl
theorem ZiD {ops : List Oper} : ∀ (Gs : List SR) (i : Nat), alB ops.toArray i (Gs.map (SR.gd A β)) = alS ops i Gs
 | [], _ => rfl
 | .val _ :: r, i => ZiD r (i + 1)
 | .box _ _ :: r, i => by
  show (isAl ops.toArray i && alB ops.toArray (i + 1) (r.map (SR.gd A β))) = _
  rw [ZiD r (i + 1)]
  rfl
theorem ZiE {β' : Nat → Nat} {n : Nat} (e : ∀ j, j < n → β j = β' j) : ∀ {Gs : List SR}, Gs.all (SR.wf n) = true → Gs.map (SR.gd A β) = Gs.map (SR.gd A β')
 | [], _ => rfl
 | .val x :: r, h => by
  simp only [List.all_cons, Bool.and_eq_true] at h
  rw [List.map_cons, List.map_cons, ZiE e (Gs := r) h.2]
  show GD.ex _ :: _ = GD.ex _ :: _
  rw [Ze5 e (x := x) h.1]
 | .box l t :: r, h => by
  simp only [List.all_cons, Bool.and_eq_true] at h
  rw [List.map_cons, List.map_cons, ZiE e (Gs := r) h.2]
  show GD.nb _ _ :: _ = GD.nb _ _ :: _
  rw [Ze4 e (l := l) h.1]
theorem ZcX : ∀ {x : SV} {n m : Nat}, n ≤ m → x.wf n = true → x.wf m = true
 | .row l, n, m, hm, h => by
  simp only [SV.wf, List.all_eq_true] at h ⊢
  intro c hc
  have := h c hc
  cases c with
  | e k x => rfl
  | s x => cases x <;> simp_all [Ch.wf, SC.wf]; omega
 | .one x, n, m, hm, h => by cases x <;> simp_all [SV.wf, SC.wf]; omega
 | .tup x y, n, m, hm, h => by
  simp only [SV.wf, Bool.and_eq_true] at h ⊢
  exact ⟨ZcX hm h.1, ZcX hm h.2⟩
 | .mf _ _, _, _, _, _ => rfl
theorem Zmy {β' : Nat → Nat} {n : Nat} (e : ∀ j, j < n → β j = β' j) {vs : List SV} (h : ∀ x ∈ vs, x.wf n = true) : vs.map (A.sv β) = vs.map (A.sv β') := List.map_congr_left fun x hx => Ze5 e (h x hx)
theorem ZfP {bl : SB} {n m : Nat} (hm : n ≤ m) (h : (bl.all fun p => p.1.all (Ch.wf n)) = true) : (bl.all fun p => p.1.all (Ch.wf m)) = true := by
 simp only [List.all_eq_true] at h ⊢
 intro p hp c hc
 have := h p hp c hc
 cases c with
 | e k x => rfl
 | s x => cases x <;> simp_all [Ch.wf, SC.wf]; omega
theorem ZiF {w V : World} {N n0 : Nat} {nk : List Value → List Nat → List (Nat × Value)} {R : List Value → Prop} : ∀ (Gs : List SR) (bl : SB) (acc : List SV) (β : Nat → Nat), n0 ≤ bl.length → Gs.all (SR.wf n0) = true → (∀ x ∈ acc, x.wf bl.length = true) → (bl.all fun p => p.1.all (Ch.wf bl.length)) = true →
  (∀ β', (∀ j, j < bl.length → β' j = β j) → ∀ L, GT w V L N (nk ((outS Gs bl acc).2.map (A.sv β'))) (blD A β' (outS Gs bl acc).1) → R L) → EndG w V N nk R (Gs.map (SR.gd A β)) (acc.map (A.sv β)) (blD A β bl)
 | [], bl, acc, β, _, _, _, _, h => fun L hL => by
  refine h β (fun _ _ => rfl) L ?_
  simp only [outS]
  rw [List.map_reverse]
  exact hL
 | .val x :: r, bl, acc, β, h0, hG, ha, hb, h => by
  simp only [List.all_cons, Bool.and_eq_true] at hG
  have hx : x.wf bl.length = true := ZcX h0 hG.1
  exact ZiF r bl (x :: acc) β h0 hG.2 (fun y hy => by
   rcases List.mem_cons.1 hy with rfl | hy
   ·
    exact hx
   ·
    exact ha y hy) hb h
 | .box l t :: r, bl, acc, β, h0, hG, ha, hb, h => by
  simp only [List.all_cons, Bool.and_eq_true] at hG
  intro B
  let β1 : Nat → Nat := fun j => if j = bl.length then B else β j
  have e1 : ∀ j, j < bl.length → β j = β1 j := fun j hj => by show β j = if j = bl.length then B else β j; rw [if_neg (by omega)]
  have e0 : ∀ j, j < n0 → β j = β1 j := fun j hj => e1 j (by omega)
  have hB : β1 bl.length = B := if_pos rfl
  have hl : l.all (Ch.wf bl.length) = true := by
   have := ZcX (x := .row l) h0 hG.1
   exact this
  have hbl : (((l, t) :: bl).all fun p => p.1.all (Ch.wf ((l, t) :: bl).length)) = true := by
   rw [List.all_cons, Bool.and_eq_true]
   exact ⟨(ZcX (x := .row l) (Nat.le_succ _) hl : SV.wf _ _ = true), ZfP (Nat.le_succ _) hb⟩
  have := ZiF r ((l, t) :: bl) (.one (.bp bl.length 0) :: acc) β1 (by simp; omega) hG.2 (fun y hy => by
   rcases List.mem_cons.1 hy with rfl | hy
   ·
    simp [SV.wf, SC.wf]
   ·
    exact ZcX (by simp) (ha y hy)) hbl (fun β' hβ L hL => h β' (fun j hj => by rw [hβ j (by simp; omega), ← e1 j hj]) L hL)
  rw [← ZiE e0 hG.2, List.map_cons, ← Zmy e1 ha, blD, ← Ze4 e1 hl, ← Zg2 e1 (Nat.le_refl _) hb, hB] at this
  show EndG w V N nk R (r.map (SR.gd A β)) (pv B 0 :: acc.map (A.sv β)) ((B, (A.rw β l).toArray, t) :: blD A β bl)
  have e2 : A.sv β1 (.one (.bp bl.length 0)) = pv B 0 := by simp only [Al.sv, Al.sc, hB]; rfl
  rw [e2] at this
  exact this
end
theorem KS.filter {L : List Value} {d : Nat} {v : Value} : ∀ {kn : List (Nat × Value)}, KS L kn → KS (L.set d v) (kn.filter fun p => p.1 != d)
 | [], _ => trivial
 | p :: r, h => by
  have ih := KS.filter (d := d) (v := v) h.2
  rw [List.filter_cons]
  split
  ·
   rename_i hp
   refine ⟨?_, ih⟩
   rw [List.getElem?_set_ne (by have := bne_iff_ne.1 hp; omega)]
   exact h.1
  ·
   exact ih
structure SS {sz : Nat → Nat} (A : Al sz) (β : Nat → Nat) (w W : World) (L : List Value) (N : Nat) (st : SSt) : Prop where
 gs : GS w W L N (knD A β st.kn) (blD A β st.bl)
 wf : st.wf = true
theorem AllOK.all {p : Nat → Prop} : ∀ (Ps : List VP) (k : Nat), (∀ i, i < Ps.length → p (k + i)) → AllOK p Ps k
 | [], _, _ => trivial
 | _ :: Ps, k, h => ⟨h 0 (by simp), AllOK.all Ps (k + 1) fun i hi => by
  have := h (i + 1) (by simpa using hi)
  rwa [show k + (i + 1) = k + 1 + i by omega] at this⟩
theorem st_wp {P : Program} {Q : Exit → Act → World → Prop} {o : Oper} {K : Act → World → Prop} {a : Act} {w : World} {x y : Operand} {ty t : TypeId} {b : Nat} {C : Array Value} (D : Array Value) {X : Value} (hX : X.cells = D) (hB : BX w b C t) (hs : C.size = D.size) (hi : (P.info? ty).map (·.size) = some D.size) (h1 : D.all (·.oneCell') = true) (hx : a.eval x = .pointer (some ⟨b, 0, none⟩)) (hy : a.eval y = X)
  (h : ∀ w', But b w w' → BX w' b D t → K a w') (hop : o.op = .store ty x y) (hd : o.dst = none) : o.wp P a w K Q := by
 have e : (Instr.storeAt ty (.pointer (some ⟨b, 0, none⟩)) X).run P w = .ok () (w.setCells b 0 D.toList) := by
  have := run_storeAt_mid (P := P) w b 0 ty D (Zdt hB.heap hs) hi h1
  unfold Instr.storeAt storeVar at this ⊢
  rw [hX]
  exact this
 unfold Oper.wp execOp
 simp only [hop, hx, hy, Sem.run_bind, e, Result.andThen, Sem.run_pure]
 show K (a.put o.dst undef) _
 rw [hd]
 refine h _ (But.sets _ _ (But.refl b w)) ⟨?_⟩
 have := Za9 D.toList 0 hB.heap
 rwa [Zck hs] at this
section
variable {P : Program} {sz : Nat → Nat} {A : Al sz} {E : Env} {N : Nat} {w W : World} {L : List Value} {st st' : SSt} {β : Nat → Nat}
theorem Zht {n : Nat} (S : GS w W L n (knD A β st.kn) (blD A β st.bl)) {x : Operand} {v : SV} (h : opK st.kn x = some v) : Act.eval (Tm L) x = A.sv β v := by
 unfold opK at h
 split at h
 ·
  refine Zam (S.ks.get ?_)
  rw [Zbk, h]
  rfl
 ·
  cases h; rfl
 ·
  cases h; rfl
 ·
  cases h
theorem ZiG {bl : SB} : ∀ {p : Nat} {m l : List Ch} {t : TypeId}, bl[p]? = some (l, t) → (blD A β bl).set p (β (bl.length - 1 - p), (A.rw β m).toArray, t) = blD A β (bl.set p (m, t)) := by
 induction bl with
 | nil => intro p m l t h; cases h
 | cons q r ih =>
  intro p m l t h
  obtain ⟨l0, t0⟩ := q
  cases p with
  | zero =>
   cases h
   simp [blD]
  | succ p =>
   have := ih (p := p) (m := m) (l := l) (t := t) (by simpa using h)
   rw [blD, List.set_cons_succ, List.set_cons_succ, blD, List.length_set, ← this, List.length_cons]
   congr 3
   congr 1
   omega
theorem Zl9 {o : Oper} {Q : Exit → Act → World → Prop} {K : Act → World → Prop} (h : (stS P sz st o).bind wfS = some st') (S : SS A β w W L N st) (hK : ∀ V, SS A β w V L N st' → K (Tm L) V) : o.guard = none ∧ o.wp P (Tm L) W K Q := by
 cases hs : stS P sz st o with
 | none => rw [hs] at h; cases h
 | some s1 =>
  rw [hs] at h
  have h : wfS s1 = some st' := h
  unfold wfS at h
  split at h
  ·
   rename_i hwf
   cases h
   unfold stS at hs
   split at hs
   ·
    rename_i t p x hop hg hd
    split at hs
    ·
     rename_i j v hp hv
     split at hs
     ·
      rename_i l ty m hbx hch
      split at hs
      ·
       rename_i hc
       cases hs
       simp only [Bool.and_eq_true, beq_iff_eq] at hc
       obtain ⟨⟨hn, hz⟩, hok⟩ := hc
       obtain ⟨hj, hat, hbd⟩ := ZcW (A := A) (β := β) hbx
       have hB := S.gs.bx.get _ hbd
       refine ⟨hg, st_wp (A.rw β m).toArray (Zg4 hch hok) hB (by simp [Zdl, hn]) (by rw [List.size_toArray, Zdl]; exact hz) (Zk5 hok) (Zht S.gs hp) (Zht S.gs hv) (fun V hb hx => hK V ⟨⟨S.gs.up.trans (hb.below.mono (S.gs.nw _ (List.mem_of_getElem? hbd))), S.gs.len, S.gs.ks, ?_, ?_⟩, hwf⟩) hop hd⟩
       ·
        have := S.gs.bx.put _ hb hx hbd
        rw [← ZiG (A := A) (β := β) (m := m) hat, show st.bl.length - 1 - (st.bl.length - 1 - j) = j by omega]
        exact this
       ·
        intro z hz
        rw [← ZiG (A := A) (β := β) (m := m) hat, show st.bl.length - 1 - (st.bl.length - 1 - j) = j by omega] at hz
        rcases List.mem_or_eq_of_mem_set hz with h | rfl
        ·
         exact S.gs.nw z h
        ·
         exact (S.gs.nw _ (List.mem_of_getElem? hbd) : w.heap.size ≤ β j)
      ·
       cases hs
     ·
      cases hs
    ·
     cases hs
   ·
    cases hs
  ·
   cases h
theorem ZlA {ops : List Oper} {i : Nat} {o : Oper} {Q : Exit → Act → World → Prop} {K : Act → World → Prop} (h : (stS P sz st o).bind wfS = some st') (S : SS A β w W L N st) (hK : ∀ V, SS A β w V L N st' → K (Tm L) V) (ho : ops[i]? = some o) : wpOp P ops.toArray Q i K (Tm L) W := by
 refine ZaE ho (fun K' hK' => ?_)
 obtain ⟨hg, hw⟩ := Zl9 (Q := Q) h S (fun V hS => hK' _ _ (hK V hS))
 rw [if_pos (by unfold Region.wanted; rw [hg])]
 exact hw
theorem Zmz {kn : List (Nat × SV)} {d : Nat} {y : SV} : knD A β (setK kn d y) = (d, A.sv β y) :: (knD A β kn).filter fun p => p.1 != d := by
 unfold setK knD
 rw [List.map_cons, List.filter_map]
 rfl
theorem ZiH {kn : List (Nat × SV)} {d : Nat} {y : SV} (h : KS L (knD A β kn)) (hd : d < L.length) : KS (L.set d (A.sv β y)) (knD A β (setK kn d y)) := by
 rw [Zmz]
 exact ⟨by simp [hd], h.filter⟩
theorem Zhu {ops : List Oper} {i : Nat} {o : Oper} {Q : Exit → Act → World → Prop} {K : Act → World → Prop} (h : (lateS P sz N st o).bind wfS = some st') (S : SS A β w W L N st) (hK : ∀ V L', SS A β w V L' N st' → K (Tm L') V) (ho : ops[i]? = some o) : wpOp P ops.toArray Q i K (Tm L) W := by
 unfold lateS at h
 split at h
 ·
  rename_i x d hg hop hd
  split at h
  ·
   rename_i hdN
   split at h
   ·
    rename_i v hv
    obtain ⟨e1, hw⟩ : (⟨setK st.kn d v, st.bl⟩ : SSt) = st' ∧ st'.wf = true := by
     have h : wfS ⟨setK st.kn d v, st.bl⟩ = some st' := h
     unfold wfS at h
     split at h
     ·
      rename_i hw
      cases h
      exact ⟨rfl, hw⟩
     ·
      cases h
    refine ZaE ho (fun K' hK' => ?_)
    rw [if_pos (by unfold Region.wanted; rw [hg])]
    unfold Oper.wp
    rw [Zbl (ρ := Act.eval (Tm L)) hop (Zht S.gs hv)]
    show K' _ _
    rw [hd, Zaa]
    refine hK' _ _ (hK W _ ⟨⟨S.gs.up, by rw [List.length_set]; exact S.gs.len, ?_, ?_, ?_⟩, hw⟩)
    ·
     rw [← e1]
     exact ZiH S.gs.ks (by rw [S.gs.len]; exact hdN)
    ·
     rw [← e1]
     exact S.gs.bx
    ·
     rw [← e1]
     exact S.gs.nw
   ·
    cases h
  ·
   cases h
 ·
  exact ZlA h S (fun V hS => hK V L hS) ho
end
def waitE (ops : Array Oper) (n q : Nat) : Array Oper := ops.modify n fun o => { o with after := o.after.push ⟨q, .data⟩ }
theorem Zcv (ops : Array Oper) (n q : Nat) : (waitE ops n q).size = ops.size := by simp [waitE]
theorem Zcw (ops : Array Oper) (n q i : Nat) : (waitE ops n q)[i]? = if n = i then (ops[i]?).map fun o => { o with after := o.after.push ⟨q, .data⟩ } else ops[i]? := by
 unfold waitE
 rw [Array.getElem?_modify]
theorem Zfd (ops : Array Oper) (n q : Nat) (tmps : Array Value) : yielded (waitE ops n q) tmps = yielded ops tmps := by
 funext j
 have e : ((waitE ops n q)[j]?).bind (·.dst) = (ops[j]?).bind (·.dst) := by
  rw [Zcw]
  by_cases h : n = j
  ·
   rw [if_pos h]
   cases ops[j]? <;> rfl
  ·
   rw [if_neg h]
 unfold yielded
 rw [e]
theorem Zcx {P : Program} {ops : Array Oper} {n q : Nat} {Q : Exit → Act → World → Prop} (i : Nat) (K : Act → World → Prop) (a : Act) (w : World) : wpOp P (waitE ops n q) Q i K a w = wpOp P ops Q i K a w := by
 unfold wpOp
 rw [Zcw, Zfd]
 split <;> rename_i h
 ·
  split at h
  ·
   cases ho : ops[i]? with
   | none => rfl
   | some o => rw [ho] at h; cases h
  ·
   rw [h]
 ·
  split at h
  ·
   cases ho : ops[i]? with
   | none => rw [ho] at h; cases h
   | some o =>
    rw [ho] at h
    cases h
    rfl
  ·
   rw [h]
theorem waitE_ready {ops : Array Oper} {n q : Nat} {listed : Array Bool} {i : Nat} : i ∈ Region.ready .any (waitE ops n q) listed ↔ i ∈ Region.ready .any ops listed ∧ (i = n → listed.getD q false = true) := by
 rw [mem_ready, mem_ready, Zcw]
 constructor
 ·
  rintro ⟨h1, o, ho, h2⟩
  split at ho
  ·
   rename_i e
   subst e
   obtain ⟨o', ho', rfl⟩ := Option.map_eq_some_iff.1 ho
   exact ⟨⟨h1, o', ho', fun e he hb => h2 e (Array.mem_push_of_mem _ he) hb⟩, fun _ => h2 ⟨q, .data⟩ Array.mem_push_self rfl⟩
  ·
   rename_i e
   exact ⟨⟨h1, o, ho, h2⟩, fun h => absurd h.symm e⟩
 ·
  rintro ⟨⟨h1, o, ho, h2⟩, h3⟩
  split
  ·
   rename_i e
   subst e
   refine ⟨h1, _, by rw [ho]; rfl, fun e he hb => ?_⟩
   rcases Array.mem_push.1 he with h | h
   ·
    exact h2 e h hb
   ·
    subst h
    exact h3 rfl
  ·
   exact ⟨h1, o, ho, h2⟩
def Qn (Q : Exit → Act → World → Prop) : Exit → Act → World → Prop := fun e a w => e = .normal ∧ Q e a w
theorem Zfe (Q : Exit → Act → World → Prop) : ¬ LetsOut (Qn Q) := fun ⟨_, _, h, _⟩ => by cases h
theorem Zm0 {P : Program} {ops : Array Oper} {Q : Exit → Act → World → Prop} {i : Nat} {K : Act → World → Prop} {a : Act} {w : World} (h : wpOp P ops (Qn Q) i K a w) : wpOp P ops Q i K a w := by
 unfold wpOp at *
 split
 ·
  rename_i hn
  rw [hn] at h
  exact h
 ·
  rename_i o ho
  rw [ho] at h
  dsimp only at h
  split at h
  ·
   rename_i hw
   rw [if_pos hw]
   rcases h with h | h
   ·
    refine Or.inl ?_
    unfold Oper.wp at *
    generalize (execOp a.eval o).run P w = r at *
    cases r with
    | ok n w' =>
     cases n <;> simp only [Oper.upon] at h ⊢ <;>
      first
       | exact h
       | exact Calls.mono h (fun e w'' he => by cases e <;> first | exact he | exact he.2 | exact absurd he (Zfe Q))
    | halt x w' =>
     cases x <;> simp only [Oper.upon] at h ⊢
     exact h.2
   ·
    exact absurd h.2 (Zfe Q)
  ·
   rename_i hw
   rw [if_neg hw]
   exact h
def xchk (ops : Array Oper) (n q : Nat) : Bool := match ops[n]?, ops[q]? with
 | some o, some oq => match o.op, oq.op, oq.dst with
  | .store _ (.tmp x) (.tmp y), .extract (.tmp _) _, some d => (x != d && (y != d && (o.guard.isNone && (oq.guard.isNone && o.dst.isNone)))) && (decide (q < n) && decide (n + 2 = ops.size)) && (((List.range n).all fun i => i == q || o.after.any fun e => Region.binds .any e && e.on == i) && ((oq.after.all fun e => !Region.binds .any e || (decide (e.on < n) && e.on != q)) && (match ops[n + 1]? with
   | some o2 => (o2.after.any fun e => Region.binds .any e && e.on == n) && (o2.after.any fun e => Region.binds .any e && e.on == q)
   | none => false)))
  | _, _, _ => false
 | _, _ => false
theorem eval_put {a : Act} {x d : Nat} (h : x ≠ d) (v : Value) : Act.eval (a.put (some d) v) (.tmp x) = Act.eval a (.tmp x) := by
 unfold Act.eval Act.put
 simp [Array.getElem?_setIfInBounds_ne (Ne.symm h)]
theorem Zm1 {P : Program} {ops : Array Oper} {n : Nat} {o : Oper} {t x y d : Nat} (ho : ops[n]? = some o) (hg : o.guard = none) (hop : o.op = .store t (.tmp x) (.tmp y)) (hd : o.dst = none) (hx : x ≠ d) (hy : y ≠ d) {a : Act} {v : Value} {w : World} {K : Act → World → Prop} {Q : Exit → Act → World → Prop} (h : wpOp P ops (Qn Q) n K (a.put (some d) v) w) : wpOp P ops Q n (fun a' w' => a' = a ∧ K (a.put (some d) v) w') a w := by
 unfold wpOp at *
 rw [ho] at h ⊢
 dsimp only at h ⊢
 have hw : ∀ f, Region.wanted o f = true := fun f => by unfold Region.wanted; rw [hg]
 rw [if_pos (hw _)] at h ⊢
 rcases h with h | h
 ·
  refine Or.inl ?_
  unfold Oper.wp execOp at *
  simp only [hop, eval_put hx, eval_put hy, Sem.run_bind] at h ⊢
  generalize (Instr.storeAt t (Act.eval a (.tmp x)) (Act.eval a (.tmp y))).run P w = r at *
  cases r with
  | ok n w' =>
   simp only [Result.andThen, Sem.run_pure, Oper.upon, hd, Act.put] at h ⊢
   exact ⟨trivial, h⟩
  | halt z w' =>
   simp only [Result.andThen] at h ⊢
   cases z <;> simp only [Oper.upon] at h ⊢
   exact absurd h.1 (by simp)
 ·
  exact absurd h.2 (Zfe Q)
theorem Zm2 {P : Program} {ops : Array Oper} {q : Nat} {o : Oper} {s j d : Nat} (ho : ops[q]? = some o) (hg : o.guard = none) (hop : o.op = .extract (.tmp s) j) (hd : o.dst = some d) {a : Act} {w : World} {K : Act → World → Prop} {Q : Exit → Act → World → Prop} (h : wpOp P ops (Qn Q) q K a w) : ∃ v, K (a.put (some d) v) w ∧ ∀ (K' : Act → World → Prop) (w' : World), K' (a.put (some d) v) w' → wpOp P ops Q q K' a w' := by
 have hw : ∀ f, Region.wanted o f = true := fun f => by unfold Region.wanted; rw [hg]
 have key : ∃ v, K (a.put (some d) v) w ∧ Instr.extract (Act.eval a (.tmp s)) j = pure v := by
  unfold wpOp at h
  rw [ho] at h
  dsimp only at h
  rw [if_pos (hw _)] at h
  rcases h with h | h
  ·
   unfold Oper.wp execOp at h
   simp only [hop, Sem.run_bind] at h
   unfold Instr.extract at h ⊢
   split at h
   ·
    split at h
    ·
     rename_i v hv
     simp only [Result.andThen, Sem.run_pure, Oper.upon, hd] at h
     exact ⟨v, h, rfl⟩
    ·
     exact absurd h (by simp [stuck, Result.andThen, Oper.upon])
   ·
    exact absurd h (by simp [stuck, Result.andThen, Oper.upon])
  ·
   exact absurd h.2 (Zfe Q)
 obtain ⟨v, hk, hv⟩ := key
 refine ⟨v, hk, fun K' w' hk' => ?_⟩
 unfold wpOp
 rw [ho]
 dsimp only
 rw [if_pos (hw _)]
 refine Or.inl ?_
 unfold Oper.wp execOp
 simp only [hop, Sem.run_bind, hv, Sem.run_pure, Result.andThen]
 show K' (a.put o.dst v) w'
 rw [hd]
 exact hk'
theorem Zk8 (l : Array Bool) (i j : Nat) : (l.setIfInBounds i true).setIfInBounds j true = (l.setIfInBounds j true).setIfInBounds i true := by
 refine Array.ext_getElem? fun k => ?_
 simp only [Array.getElem?_setIfInBounds, Array.size_setIfInBounds]
 by_cases h1 : i = k <;> by_cases h2 : j = k <;> simp [h1, h2]
theorem Zff {P : Program} {ops : Array Oper} {Q : Exit → Act → World → Prop} {n q : Nat} (hx : xchk ops n q = true) : ∀ (k : Nat) (listed : Array Bool) (a : Act) (w : World), listed.size = ops.size → wpAnyH P .any (waitE ops n q) (Qn Q) (fun _ => True) k listed a w → wpAnyH P .any ops Q (fun _ => True) k listed a w := by
 unfold xchk at hx
 split at hx
 ·
  rename_i o oq ho hoq
  split at hx
  ·
   rename_i t x y s j d hop hopq hdq
   simp only [Bool.and_eq_true, bne_iff_ne, ne_eq, Option.isNone_iff_eq_none, decide_eq_true_eq] at hx
   obtain ⟨⟨⟨hxd, hyd, hg, hgq, hd⟩, hqn, hn⟩, hall, hqa, h2⟩ := hx
   have lst : ∀ {listed : Array Bool}, n ∈ Region.ready .any ops listed → ∀ i, i < n → i ≠ q → listed.getD i false = true := fun {listed} h i hi hiq => by
    obtain ⟨-, o', ho', he⟩ := mem_ready.1 h
    rw [ho] at ho'
    cases ho'
    have h1 := List.all_eq_true.1 hall i (List.mem_range.2 hi)
    simp only [Bool.or_eq_true, beq_iff_eq, Array.any_eq_true, Bool.and_eq_true] at h1
    rcases h1 with h1 | ⟨j, hj, hb, e⟩
    ·
     exact absurd h1 hiq
    ·
     rw [← e]
     exact he _ (Array.getElem_mem hj) hb
   have gf : ∀ {listed : Array Bool} {i : Nat}, listed.size = ops.size → i < ops.size → listed.getD i true = listed.getD i false := fun {listed i} hs hi => by
    rw [Array.getD_eq_getD_getElem?, Array.getD_eq_getD_getElem?, Array.getElem?_eq_getElem (by omega)]
    rfl
   have qrd : ∀ {listed : Array Bool}, listed.size = ops.size → (∀ i, i < n → i ≠ q → listed.getD i false = true) → listed.getD q false = false → q ∈ Region.ready .any ops listed := fun {listed} hs hl hq => mem_ready.2 ⟨by rw [gf hs (by omega)]; exact hq, oq, hoq, fun e he hb => by
    have h1 := Array.all_eq_true'.1 hqa e he
    simp only [hb, Bool.not_true, Bool.false_or, Bool.and_eq_true, decide_eq_true_eq, bne_iff_ne, ne_eq] at h1
    exact hl _ h1.1 h1.2⟩
   intro k
   induction k using Nat.strongRecOn with
   | _ k ih =>
    intro listed a w hs h
    have hrd : ∀ i, i ∈ Region.ready .any ops listed → i ∈ Region.ready .any (waitE ops n q) listed ∨ (i = n ∧ listed.getD q false = false) := fun i hi => by
     by_cases hq : i = n ∧ listed.getD q false = false
     ·
      exact Or.inr hq
     ·
      refine Or.inl (waitE_ready.2 ⟨hi, fun e => ?_⟩)
      cases hh : listed.getD q false with
      | true => rfl
      | false => exact absurd ⟨e, hh⟩ hq
    match k, h with
    | 0, h =>
     refine ⟨?_, h.2.2⟩
     refine List.eq_nil_iff_forall_not_mem.2 fun i hi => ?_
     rcases hrd i hi with h1 | ⟨rfl, h1⟩
     ·
      rw [h.1] at h1; cases h1
     ·
      have := (waitE_ready (q := q)).2 ⟨qrd hs (lst hi) h1, fun e => absurd e (Nat.ne_of_lt hqn)⟩
      rw [h.1] at this
      cases this
    | k + 1, h =>
     refine ⟨fun he => ?_, fun i hi => ?_⟩
     ·
      refine (h.1 (List.eq_nil_iff_forall_not_mem.2 fun i hi => ?_)).2
      have := (waitE_ready.1 hi).1
      rw [he] at this
      cases this
     ·
      rcases hrd i hi with h1 | ⟨rfl, h1⟩
      ·
       have h3 := h.2 i h1
       rw [Zcx] at h3
       exact wpOp_mono (fun a' w' h4 => ⟨trivial, ih k (by omega) _ _ _ (by simpa using hs) h4.2⟩) (Zm0 h3)
      ·
       have hl := lst hi
       have hqr := (waitE_ready (q := q)).2 ⟨qrd hs hl h1, fun e => absurd e (Nat.ne_of_lt hqn)⟩
       have h3 := h.2 q hqr
       rw [Zcx] at h3
       obtain ⟨v, ⟨-, h4⟩, h5⟩ := Zm2 hoq hgq hopq hdq h3
       have hlq : ∀ j, j < i → (listed.setIfInBounds q true).getD j false = true := fun j hj => by
        by_cases e : q = j
        ·
         subst e
         simp [hs]; omega
        ·
         rw [getD_set_ne false e]
         exact hl j hj (Ne.symm e)
       obtain ⟨hun, -, -, -⟩ := mem_ready.1 hi
       have hnr : i ∈ Region.ready .any (waitE ops i q) (listed.setIfInBounds q true) := waitE_ready.2 ⟨mem_ready.2 ⟨by rw [getD_set_ne true (by omega)]; exact hun, o, ho, fun e he hb => by
        obtain ⟨-, o', ho', h6⟩ := mem_ready.1 hi
        rw [ho] at ho'
        cases ho'
        have h7 := h6 e he hb
        by_cases e1 : q = e.on
        ·
         rw [← e1, h1] at h7; cases h7
        ·
         rw [getD_set_ne false e1]; exact h7⟩, fun _ => hlq q hqn⟩
       match k, h4 with
       | 0, h4 =>
        rw [h4.1] at hnr
        cases hnr
       | k + 1, h4 =>
        have h6 := h4.2 i hnr
        rw [Zcx] at h6
        refine wpOp_mono (fun a' w' h7 => ?_) (Zm1 ho hg hop hd hxd hyd h6)
        obtain ⟨rfl, -, h7⟩ := h7
        have hqf : (listed.setIfInBounds i true).getD q false = false := by rw [getD_set_ne false (by omega)]; exact h1
        have hlst : ∀ j, j < i → j ≠ q → (listed.setIfInBounds i true).getD j false = true := fun j hj hjq => by
         rw [getD_set_ne false (by omega)]
         exact hl j hj hjq
        have hsz : (listed.setIfInBounds i true).size = ops.size := by simpa using hs
        refine ⟨trivial, fun he => ?_, fun j hj => ?_⟩
        ·
         have := qrd hsz hlst hqf
         rw [he] at this
         cases this
        ·
         obtain ⟨hju, oj, hoj, hje⟩ := mem_ready.1 hj
         have hjl : j < ops.size := (Array.getElem?_eq_some_iff.1 hoj).1
         have hjq : j = q := by
          refine Classical.byContradiction fun hne => ?_
          rcases Nat.lt_trichotomy j i with h8 | h8 | h8
          ·
           rw [gf hsz hjl, hlst j h8 hne] at hju
           cases hju
          ·
           subst h8
           simp [hs, hjl] at hju
          ·
           obtain rfl : j = i + 1 := by omega
           rw [hoj] at h2
           simp only [Bool.and_eq_true, Array.any_eq_true, beq_iff_eq] at h2
           obtain ⟨-, p, hp, hb, e⟩ := h2
           have h9 := hje _ (Array.getElem_mem hp) hb
           rw [e, hqf] at h9
           cases h9
         subst hjq
         refine h5 _ w' ⟨trivial, ?_⟩
         rw [Zk8]
         exact ih k (by omega) _ _ _ (by simpa using hs) h7
  ·
   cases hx
 ·
  cases hx
end Go.Proofs.YtcbdbnfgnonacaaGreat
