/-
  Calls through interfaces; structs that are built out of parts.
-/
import Derived.Test.YtppijhcfodccfaaGreatCurveNoneC02
namespace Go.Proofs.YtppijhcfodccfaaGreat
open Go.RowKit Go.Shelf

/-- A call through an interface. -/
theorem wp_invoke2 {P : Program} {op : Oper} {a : Act} {w : World} {K : Act → World → Prop} {Q : Exit → Act → World → Prop} (r x y : Operand) (name : String) (tys : Array TypeId) (ho : op.op = .call { callee := .invoke r name, args := #[x, y], argTypes := tys }) {f : Nat} {rv xv yv : Value} {av : Array Value}
    (hr : a.eval r = rv) (hx : a.eval x = xv) (hy : a.eval y = yv) (hm : (callMethod rv name #[xv, yv]).run P w = .ok (.enter f av) w) {R : Ending → World → Prop} (hc : Calls P f av w R) (h : ∀ e w', R e w' → ∃ v, e = .returned v ∧ K (a.put op.dst v) w') : op.wp P a w K Q := by
  unfold Oper.wp execOp
  have he : (do let d ← resolve a.eval { callee := .invoke r name, args := #[x, y], argTypes := tys } op.type; invoke d.target d.args).run P w = .ok (.enter f av) w := by
    simp only [resolve, invoke, Sem.run_bind, Sem.run_pure, Result.andThen, List.map_toArray, List.map_cons, List.map_nil, hr, hx, hy]
    simp
    exact hm
  simp only [ho]
  rw [he]
  refine hc.mono ?_
  intro e w' hR
  obtain ⟨v, rfl, hK⟩ := h e w' hR
  exact hK

theorem wp_invoke1 {P : Program} {op : Oper} {a : Act} {w : World} {K : Act → World → Prop} {Q : Exit → Act → World → Prop} (r x : Operand) (name : String) (tys : Array TypeId) (ho : op.op = .call { callee := .invoke r name, args := #[x], argTypes := tys }) {f : Nat} {rv xv : Value} {av : Array Value}
    (hr : a.eval r = rv) (hx : a.eval x = xv) (hm : (callMethod rv name #[xv]).run P w = .ok (.enter f av) w) {R : Ending → World → Prop} (hc : Calls P f av w R) (h : ∀ e w', R e w' → ∃ v, e = .returned v ∧ K (a.put op.dst v) w') : op.wp P a w K Q := by
  unfold Oper.wp execOp
  have he : (do let d ← resolve a.eval { callee := .invoke r name, args := #[x], argTypes := tys } op.type; invoke d.target d.args).run P w = .ok (.enter f av) w := by
    simp only [resolve, invoke, Sem.run_bind, Sem.run_pure, Result.andThen, List.map_toArray, List.map_cons, List.map_nil, hr, hx]
    simp
    exact hm
  simp only [ho]
  rw [he]
  refine hc.mono ?_
  intro e w' hR
  obtain ⟨v, rfl, hK⟩ := h e w' hR
  exact hK

/-- A call of a function. -/
theorem wp_call2 {P : Program} {op : Oper} {a : Act} {w : World} {K : Act → World → Prop} {Q : Exit → Act → World → Prop} (x y : Operand) (tys : Array TypeId) {f : Nat} (ho : op.op = .call { callee := .value (.func f), args := #[x, y], argTypes := tys }) {xv yv : Value}
    (hx : a.eval x = xv) (hy : a.eval y = yv) (hm : ∀ av, (callFunc f av).run P w = .ok (.enter f av) w) {R : Ending → World → Prop} (hc : Calls P f #[xv, yv] w R) (h : ∀ e w', R e w' → ∃ v, e = .returned v ∧ K (a.put op.dst v) w') : op.wp P a w K Q := by
  unfold Oper.wp execOp
  have he : (do let d ← resolve a.eval { callee := .value (.func f), args := #[x, y], argTypes := tys } op.type; invoke d.target d.args).run P w = .ok (.enter f #[xv, yv]) w := by
    have hf : a.eval (.func f) = .func (.func f) #[] #[] := rfl
    simp only [resolve, invoke, Deferred.ofValue, hf, Sem.run_bind, Sem.run_pure, Result.andThen, List.map_toArray, List.map_cons, List.map_nil, hx, hy]
    simp [hm]
  simp only [ho]
  rw [he]
  refine hc.mono ?_
  intro e w' hR
  obtain ⟨v, rfl, hK⟩ := h e w' hR
  exact hK

theorem yields_nilm {P : Program} {ops : Array Oper} {S : World → Prop} {op : Oper} {a : Act} (hw : Region.wanted op (yielded ops a.tmps) = true) (x : Operand) (ho : op.op = .nilCheck x) {name : String} {t : TypeId} {v : Value} (hx : a.eval x = .func (.method name) #[.iface t v] #[])
    (hna : ∀ w, (nilAhead (P.types.size + Made.depth) t v name).run P w = .ok (some false) w) : YieldsIf P ops S op (.func (.method name) #[.iface t v] #[]) a :=
  .inl ⟨hw, fun w hw' => by
    unfold execOp
    simp only [ho, hx, List.getElem?_toArray, List.getElem?_cons_zero]
    have hp : (program : Sem Program).run P w = .ok P w := rfl
    simp only [Sem.run_bind, hp, Result.andThen, hna]
    rfl⟩

theorem yields_nili {P : Program} {ops : Array Oper} {S : World → Prop} {op : Oper} {a : Act} (hw : Region.wanted op (yielded ops a.tmps) = true) (x : Operand) (ho : op.op = .nilCheck x) {t : TypeId} {v u : Value} (hx : a.eval x = u) (hu : u = .iface t v) : YieldsIf P ops S op u a :=
  .inl ⟨hw, fun w _ => by
    unfold execOp
    simp only [ho, hx]
    subst hu
    rfl⟩

theorem spl_get (off : Nat) : ∀ (l : List Value) (k : Nat) (cs : Array Value), off + k + l.length ≤ cs.size → ∀ i, ((l.zipIdx k).foldl (fun cs (x : Value × Nat) => cs.setIfInBounds (off + x.2) x.1) cs)[i]? = if off + k ≤ i ∧ i < off + k + l.length then l[i - (off + k)]? else cs[i]?
  | [], k, cs, h, i => by simp; omega
  | v :: l, k, cs, h, i => by
    rw [List.zipIdx_cons, List.foldl_cons, spl_get off l (k + 1) _ (by simp at h ⊢; omega)]
    simp only [List.length_cons] at h ⊢
    by_cases h1 : i = off + k
    · subst h1
      rw [if_neg (by omega), if_pos (by omega), Array.getElem?_setIfInBounds_self_of_lt (by omega), Nat.sub_self]
      rfl
    · rw [Array.getElem?_setIfInBounds_ne (by omega)]
      by_cases h2 : off + (k + 1) ≤ i ∧ i < off + (k + 1) + l.length
      · rw [if_pos h2, if_pos (by omega), show i - (off + k) = (i - (off + (k + 1))) + 1 by omega]
        rfl
      · rw [if_neg h2, if_neg (by omega)]

/-- A part goes to its place. -/
theorem fill_cons {place : Nat → Option (Nat × Nat)} {A B C X : Array Value} {v : Value} (hc : v.cells = X) {i off size : Nat} {rest : List (Nat × Value)} (hp : place i = some (off, size)) (hX : X.size = size) (hA : A.size = off) (hB : B.size = size) :
    Instr.fill place (A ++ (B ++ C)) ((i, v) :: rest) = Instr.fill place (A ++ (X ++ C)) rest := by
  rw [Instr.fill, hp]
  dsimp only
  rw [hc, if_neg (by simp; omega)]
  congr 1
  have e : X.zipIdx.foldl (fun cs (x : Value × Nat) => cs.setIfInBounds (off + x.2) x.1) (A ++ (B ++ C)) = A ++ (X ++ C) := by
    rw [← Array.foldl_toList, Array.toList_zipIdx]
    refine Array.ext_getElem? fun j => ?_
    rw [spl_get off X.toList 0 _ (by simp; omega)]
    simp only [Nat.add_zero, Array.length_toList, Array.getElem?_toList]
    by_cases h : off ≤ j ∧ j < off + X.size
    · rw [if_pos h, Array.getElem?_append_right (by omega), Array.getElem?_append_left (by omega), hA]
    · rw [if_neg h]
      by_cases h1 : j < off
      · rw [Array.getElem?_append_left (by omega), Array.getElem?_append_left (by omega)]
      · rw [Array.getElem?_append_right (by omega), Array.getElem?_append_right (by omega), Array.getElem?_append_right (by omega), Array.getElem?_append_right (by omega), hB, hX]
  exact e

/-- The same, of an activation whose slots are a list. -/
theorem wp_invoke2D {P : Program} {op : Oper} {l : List Value} {ds : List Deferred} {w : World} {K : Act → World → Prop} {Q : Exit → Act → World → Prop} (r x y : Operand) (name : String) (tys : Array TypeId) (d : Nat) (ho : op.op = .call { callee := .invoke r name, args := #[x, y], argTypes := tys }) (hd : op.dst = some d) {f : Nat} {rv xv yv : Value} {av : Array Value}
    (hr : Act.eval { tmps := l.toArray, defers := ds } r = rv) (hx : Act.eval { tmps := l.toArray, defers := ds } x = xv) (hy : Act.eval { tmps := l.toArray, defers := ds } y = yv) (hm : (callMethod rv name #[xv, yv]).run P w = .ok (.enter f av) w) {v : Value} (hc : Calls P f av w fun e w' => e = .returned v ∧ Below w.heap.size w w')
    (h : ∀ w', Below w.heap.size w w' → K { tmps := (l.set d v).toArray, defers := ds } w') : op.wp P { tmps := l.toArray, defers := ds } w K Q :=
  wp_invoke2 r x y name tys ho hr hx hy hm hc (fun e w' hR => ⟨v, hR.1, by rw [hd, put_list]; exact h w' hR.2⟩)

theorem wp_invoke1D {P : Program} {op : Oper} {l : List Value} {ds : List Deferred} {w : World} {K : Act → World → Prop} {Q : Exit → Act → World → Prop} (r x : Operand) (name : String) (tys : Array TypeId) (d : Nat) (ho : op.op = .call { callee := .invoke r name, args := #[x], argTypes := tys }) (hd : op.dst = some d) {f : Nat} {rv xv : Value} {av : Array Value}
    (hr : Act.eval { tmps := l.toArray, defers := ds } r = rv) (hx : Act.eval { tmps := l.toArray, defers := ds } x = xv) (hm : (callMethod rv name #[xv]).run P w = .ok (.enter f av) w) {v : Value} (hc : Calls P f av w fun e w' => e = .returned v ∧ Below w.heap.size w w')
    (h : ∀ w', Below w.heap.size w w' → K { tmps := (l.set d v).toArray, defers := ds } w') : op.wp P { tmps := l.toArray, defers := ds } w K Q :=
  wp_invoke1 r x name tys ho hr hx hm hc (fun e w' hR => ⟨v, hR.1, by rw [hd, put_list]; exact h w' hR.2⟩)

theorem wp_call2D {P : Program} {op : Oper} {l : List Value} {ds : List Deferred} {w : World} {K : Act → World → Prop} {Q : Exit → Act → World → Prop} (x y : Operand) (tys : Array TypeId) (d : Nat) {f : Nat} (ho : op.op = .call { callee := .value (.func f), args := #[x, y], argTypes := tys }) (hd : op.dst = some d) {xv yv : Value}
    (hx : Act.eval { tmps := l.toArray, defers := ds } x = xv) (hy : Act.eval { tmps := l.toArray, defers := ds } y = yv) (hm : ∀ av w, (callFunc f av).run P w = .ok (.enter f av) w) {v : Value} (hc : Calls P f #[xv, yv] w fun e w' => e = .returned v ∧ Below w.heap.size w w')
    (h : ∀ w', Below w.heap.size w w' → K { tmps := (l.set d v).toArray, defers := ds } w') : op.wp P { tmps := l.toArray, defers := ds } w K Q :=
  wp_call2 x y tys ho hx hy (fun av => hm av w) hc (fun e w' hR => ⟨v, hR.1, by rw [hd, put_list]; exact h w' hR.2⟩)

theorem wp_callD {P : Program} {op : Oper} {l : List Value} {ds : List Deferred} {w : World} {K : Act → World → Prop} {Q : Exit → Act → World → Prop} (args : Array Operand) (tys : Array TypeId) (d : Nat) {f : Nat} (ho : op.op = .call { callee := .value (.func f), args := args, argTypes := tys }) (hd : op.dst = some d) {av : Array Value}
    (hx : args.map (Act.eval { tmps := l.toArray, defers := ds }) = av) (hm : ∀ av w, (callFunc f av).run P w = .ok (.enter f av) w) {v : Value} (hc : Calls P f av w fun e w' => e = .returned v ∧ Below w.heap.size w w')
    (h : ∀ w', Below w.heap.size w w' → K { tmps := (l.set d v).toArray, defers := ds } w') : op.wp P { tmps := l.toArray, defers := ds } w K Q := by
  unfold Oper.wp execOp
  have he : (do let d ← resolve (Act.eval { tmps := l.toArray, defers := ds }) { callee := .value (.func f), args := args, argTypes := tys } op.type; invoke d.target d.args).run P w = .ok (.enter f av) w := by
    have hf : Act.eval { tmps := l.toArray, defers := ds } (.func f) = .func (.func f) #[] #[] := rfl
    simp only [resolve, invoke, Deferred.ofValue, hf, Sem.run_bind, Sem.run_pure, Result.andThen, hx]
    simp [hm]
  simp only [ho]
  rw [he]
  refine hc.mono ?_
  rintro e w' ⟨rfl, hb⟩
  show K _ _
  rw [hd, put_list]
  exact h w' hb

theorem yields_build2 {P : Program} {ops : Array Oper} {S : World → Prop} {op : Oper} {a : Act} (hw : Region.wanted op (yielded ops a.tmps) = true) (t : TypeId) (x y : Operand) (ho : op.op = .build t #[(0, x), (1, y)]) {xv yv v : Value} (hx : a.eval x = xv) (hy : a.eval y = yv) (hb : ∀ w, (Instr.build t #[(0, xv), (1, yv)]).run P w = .ok v w) : YieldsIf P ops S op v a :=
  .inl ⟨hw, fun w _ => by
    unfold execOp
    simp only [ho, List.map_toArray, List.map_cons, List.map_nil, hx, hy, Sem.run_bind, hb, Result.andThen, Sem.run_pure]⟩

theorem wp_build1D {P : Program} {op : Oper} {l : List Value} {ds : List Deferred} {w : World} {K : Act → World → Prop} {Q : Exit → Act → World → Prop} (t : TypeId) (i : Nat) (x : Operand) (d : Nat) (ho : op.op = .build t #[(i, x)]) (hd : op.dst = some d) {xv v : Value} (hx : Act.eval { tmps := l.toArray, defers := ds } x = xv) (hb : (Instr.build t #[(i, xv)]).run P w = .ok v w) (h : K { tmps := (l.set d v).toArray, defers := ds } w) : op.wp P { tmps := l.toArray, defers := ds } w K Q := by
  have e : (execOp (Act.eval { tmps := l.toArray, defers := ds }) op).run P w = .ok (.value v) w := by
    unfold execOp
    simp only [ho, List.map_toArray, List.map_cons, List.map_nil, hx, Sem.run_bind, hb, Result.andThen, Sem.run_pure]
  unfold Oper.wp
  rw [e]
  show K _ _
  rw [hd, put_list]
  exact h

/-- The same operations, in a list. -/
theorem wpList_oper {P : Program} {ops : Array Oper} {rest : List Oper} {op : Oper} {a : Act} {w : World} {Q : Exit → Act → World → Prop} (hgd : op.guard = none) (h : ∀ K : Act → World → Prop, (∀ a w, wpList P ops Q rest a w → K a w) → op.wp P a w K Q) : wpList P ops Q (op :: rest) a w :=
  wpList_plain hgd fun _ hK => h _ hK

theorem wpList_load_midD {P : Program} {ops : Array Oper} {rest : List Oper} {op : Oper} {l : List Value} {ds : List Deferred} {w : World} {Q : Exit → Act → World → Prop} (hgd : op.guard = none) (ty : TypeId) (x : Operand) (k : Nat) (ho : op.op = .load ty x) (hdst : op.dst = some k)
    (b o : Nat) (cells : Array Value) (hx : Act.eval { tmps := l.toArray, defers := ds } x = .pointer (some ⟨b, o, none⟩)) (d : TypeDesc) (hc : w.rangeAt b o cells.toList)
    (hu : P.underlying ty = some d) (hd : d.isRow = true) (hi : (P.info? ty).map (·.size) = some cells.size)
    (h : wpList P ops Q rest { tmps := (l.set k (.agg cells)).toArray, defers := ds } w) : wpList P ops Q (op :: rest) { tmps := l.toArray, defers := ds } w :=
  wpList_oper hgd fun _ hK => wp_load_midD ty x k ho hdst b o cells hx d hc hu hd (by rw [Array.length_toList]; exact hi) (hK _ _ h)

theorem wpList_store_midD {P : Program} {ops : Array Oper} {rest : List Oper} {op : Oper} {l : List Value} {ds : List Deferred} {w : World} {Q : Exit → Act → World → Prop} (hgd : op.guard = none) (ty : TypeId) (x y : Operand) (ho : op.op = .store ty x y) (hdst : op.dst = none)
    (b o : Nat) (cells : Array Value) (hx : Act.eval { tmps := l.toArray, defers := ds } x = .pointer (some ⟨b, o, none⟩)) (hy : Act.eval { tmps := l.toArray, defers := ds } y = .agg cells)
    (ht : w.there b o cells.size) (hi : (P.info? ty).map (·.size) = some cells.size) (h1 : cells.all (·.oneCell') = true)
    (h : wpList P ops Q rest { tmps := l.toArray, defers := ds } (w.setCells b o cells.toList)) : wpList P ops Q (op :: rest) { tmps := l.toArray, defers := ds } w :=
  wpList_oper hgd fun _ hK => wp_store_midN ty x y ho hdst b o cells hx hy ht hi h1 (hK _ _ h)

/-- A whole load may be taken first: the cells as they are, no list between. -/
theorem yields_loadC {P : Program} {ops : Array Oper} {S : World → Prop} {op : Oper} {a : Act} (hw : Region.wanted op (yielded ops a.tmps) = true) (ty : TypeId) (x : Operand) (ho : op.op = .load ty x)
    (b o : Nat) (hx : a.eval x = .pointer (some ⟨b, o, none⟩)) (C : Array Value) (d : TypeDesc) (hS : ∀ w, S w → w.rangeAt b o C.toList)
    (hu : P.underlying ty = some d) (hd : d.isRow = true) (hi : (P.info? ty).map (·.size) = some C.size) : YieldsIf P ops S op (.agg C) a := by
  have h := yieldsIf_load_mid (S := S) hw ty x ho b o hx C.toList d hS hu hd (by rw [Array.length_toList]; exact hi)
  rwa [Array.toArray_toList] at h

theorem loadC {P : Program} (w : World) (b o : Nat) (ty : TypeId) (C : Array Value) (d : TypeDesc) (hc : w.rangeAt b o C.toList)
    (hu : P.underlying ty = some d) (hd : d.isRow = true) (hi : (P.info? ty).map (·.size) = some C.size) : (loadVar ty ⟨b, o, none⟩).run P w = .ok (.agg C) w := by
  have h := run_loadVar_mid (P := P) w b o ty C.toList d hc hu hd (by rw [Array.length_toList]; exact hi)
  rwa [Array.toArray_toList] at h

theorem at_worldL {P : Program} {ops : Array Oper} {rest : List Oper} {Q : Exit → Act → World → Prop} {a : Act} {w : World} (h : ∀ W0, W0 = w → wpList P ops Q rest a W0) : wpList P ops Q rest a w := h w rfl

theorem eval_get {T : List Value} {ds : List Deferred} {k : Nat} {v : Value} (h : T[k]? = some v) : Act.eval { tmps := T.toArray, defers := ds } (.tmp k) = v := by
  simp [Act.eval, Array.getD_eq_getD_getElem?, h]

def fsOf : Option TypeDesc → Array Field
  | some (.struct fs) => fs
  | _ => #[]

theorem build_struct {P : Program} {t : TypeId} {w : World} {z cells : Array Value} {fs : Array Field} {places : Array (Nat × Nat)} {parts : Array (Nat × Value)} (hz : (zeroValue t).run P w = .ok (.agg z) w) (hu : (underlying t).run P w = .ok (.struct fs) w)
    (hp : (fs.mapM fun f => do pure (f.offset, ← sizeOf f.type) : Sem (Array (Nat × Nat))).run P w = .ok places w) (hf : Instr.fill (places[·]?) z parts.toList = some cells) : (Instr.build t parts).run P w = .ok (.agg cells) w := by
  have hc : (Value.agg z).cells = z := rfl
  unfold Instr.build
  simp only [Sem.run_bind, hz, hu, hp, hc, Result.andThen, hf, Sem.run_pure]

end Go.Proofs.YtppijhcfodccfaaGreat
