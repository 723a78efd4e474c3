/-
  Code told by what its values are like: terms, rows, boxes.
-/
import Derived.Test.YtcbdbnfgnonacaaGreatCurveBn1C10
namespace Go.Proofs.YtcbdbnfgnonacaaGreat
open Go.RowKit Go.Shelf

/-- One cell: a value, a condition, an address in a box of ours, something that is like this or that. -/
inductive YC where
  | v (x : Value)
  | cx (c : CX)
  | bp (j o : Nat)
  | nm (k : Nat) (ts : List EX)

inductive YV where
  | row (l : List YC)
  | one (x : YC)
  | tup (x y : YV)

/-- What things are like. -/
structure Bl where
  A : Al (fun _ => 0)
  lp : Nat → List A.K → World → Value → Prop
  st : ∀ {k xs w w' v}, lp k xs w v → Below w.heap.size w w' → lp k xs w' v
  one : ∀ {k xs w v}, lp k xs w v → v.cells = #[v] ∧ v.oneCell' = true
  bt : Array Value → Bool
  bs : ∀ {k xs w w' v b C D t}, lp k xs w v → bt C = true → C.size = D.size → BX w b C t → But b w w' → BX w' b D t → lp k xs w' v

section
variable (B : Bl) (β : Nat → Nat) (w : World)
def Bl.cd : YC → Value → Prop
  | .v x, v => v = x
  | .cx c, v => v = .bool (B.A.cx c)
  | .bp j o, v => v = .pointer (some ⟨β j, o, none⟩)
  | .nm k ts, v => B.lp k (ts.map B.A.d) w v

def Bl.rd : List YC → List Value → Prop
  | [], [] => True
  | c :: l, v :: vs => B.cd β w c v ∧ Bl.rd l vs
  | _, _ => False

def Bl.vd : YV → Value → Prop
  | .row l, v => ∃ vs : List Value, v = .agg vs.toArray ∧ B.rd β w l vs
  | .one x, v => B.cd β w x v
  | .tup x y, v => ∃ a b, v = .tuple #[a, b] ∧ Bl.vd x a ∧ Bl.vd y b

def Bl.vds : List YV → List Value → Prop
  | [], [] => True
  | x :: l, v :: vs => B.vd β w x v ∧ Bl.vds l vs
  | _, _ => False

end
section
variable {B : Bl} {β β' : Nat → Nat} {w w' : World}
theorem cd_mono (h : ∀ k xs v, B.lp k xs w v → B.lp k xs w' v) {c : YC} {v : Value} (hc : B.cd β w c v) : B.cd β w' c v := by
  cases c with
  | nm k ts => exact h _ _ _ hc
  | _ => exact hc

theorem rd_mono (h : ∀ k xs v, B.lp k xs w v → B.lp k xs w' v) : ∀ {l : List YC} {vs : List Value}, B.rd β w l vs → B.rd β w' l vs
  | [], [], _ => trivial
  | _ :: _, _ :: _, hc => ⟨cd_mono h hc.1, rd_mono h hc.2⟩
  | [], _ :: _, hc => hc.elim
  | _ :: _, [], hc => hc.elim

theorem vd_mono (h : ∀ k xs v, B.lp k xs w v → B.lp k xs w' v) : ∀ {x : YV} {v : Value}, B.vd β w x v → B.vd β w' x v
  | .row _, _, ⟨vs, e, hc⟩ => ⟨vs, e, rd_mono h hc⟩
  | .one _, _, hc => cd_mono h hc
  | .tup _ _, _, ⟨a, b, e, h1, h2⟩ => ⟨a, b, e, vd_mono h h1, vd_mono h h2⟩

theorem Bl.stab (hb : Below w.heap.size w w') : ∀ k xs v, B.lp k xs w v → B.lp k xs w' v := fun _ _ _ h => B.st h hb

theorem Bl.put {b : Nat} {C D : Array Value} {t : TypeId} (ht : B.bt C = true) (hs : C.size = D.size) (hx : BX w b C t) (hb : But b w w') (hy : BX w' b D t) : ∀ k xs v, B.lp k xs w v → B.lp k xs w' v := fun _ _ _ h => B.bs h ht hs hx hb hy

theorem rd_len : ∀ {l : List YC} {vs : List Value}, B.rd β w l vs → vs.length = l.length
  | [], [], _ => rfl
  | _ :: _, _ :: _, h => by simp [rd_len h.2]
  | [], _ :: _, h => h.elim
  | _ :: _, [], h => h.elim

theorem rd_app : ∀ {l m : List YC} {vs us : List Value}, B.rd β w l vs → B.rd β w m us → B.rd β w (l ++ m) (vs ++ us)
  | [], _, [], _, _, h => h
  | _ :: _, _, _ :: _, _, h1, h2 => ⟨h1.1, rd_app h1.2 h2⟩
  | [], _, _ :: _, _, h, _ => h.elim
  | _ :: _, _, [], _, h, _ => h.elim

theorem rd_drop : ∀ (n : Nat) {l : List YC} {vs : List Value}, B.rd β w l vs → B.rd β w (l.drop n) (vs.drop n)
  | 0, _, _, h => h
  | _ + 1, [], [], _ => trivial
  | n + 1, _ :: _, _ :: _, h => rd_drop n h.2
  | _ + 1, [], _ :: _, h => h.elim
  | _ + 1, _ :: _, [], h => h.elim

theorem rd_take : ∀ (n : Nat) {l : List YC} {vs : List Value}, B.rd β w l vs → B.rd β w (l.take n) (vs.take n)
  | 0, _, _, _ => trivial
  | _ + 1, [], [], _ => trivial
  | n + 1, _ :: _, _ :: _, h => ⟨h.1, rd_take n h.2⟩
  | _ + 1, [], _ :: _, h => h.elim
  | _ + 1, _ :: _, [], h => h.elim

theorem rd_at : ∀ {l : List YC} {vs : List Value}, B.rd β w l vs → ∀ {i : Nat} {c : YC}, l[i]? = some c → ∃ v, vs[i]? = some v ∧ B.cd β w c v
  | _ :: _, v :: _, h, 0, _, e => by cases e; exact ⟨v, rfl, h.1⟩
  | _ :: _, _ :: _, h, i + 1, _, e => rd_at h.2 (i := i) (by simpa using e)
  | [], [], _, _, _, e => by cases e
  | [], _ :: _, h, _, _, _ => h.elim
  | _ :: _, [], h, _, _, _ => h.elim

def YC.ok1 : YC → Bool
  | .v x => oneB x
  | _ => true

theorem cd_one {c : YC} {v : Value} (hc : B.cd β w c v) (h : c.ok1 = true) : v.cells = #[v] ∧ v.oneCell' = true := by
  cases c with
  | v x => cases hc; exact oneB_ok h
  | cx c => cases hc; exact ⟨rfl, rfl⟩
  | bp j o => cases hc; exact ⟨rfl, rfl⟩
  | nm k ts => exact B.one hc

theorem rd_one : ∀ {l : List YC} {vs : List Value}, B.rd β w l vs → l.all YC.ok1 = true → vs.toArray.all (·.oneCell') = true := by
  intro l vs h ho
  rw [Array.all_eq_true_iff_forall_mem]
  intro v hv
  obtain ⟨i, hi⟩ := List.mem_iff_getElem?.1 (show v ∈ vs by simpa using hv)
  have hlt : i < l.length := by rw [← rd_len h]; exact (List.getElem?_eq_some_iff.1 hi).1
  obtain ⟨u, hu, hc⟩ := rd_at h (i := i) (c := l[i]) (List.getElem?_eq_getElem hlt)
  rw [hi] at hu
  cases hu
  exact (cd_one hc (List.all_eq_true.1 ho _ (List.getElem_mem hlt))).2

/-- A row of which all is told. -/
def exR : List YC → Option (List Value)
  | [] => some []
  | .v x :: l => (exR l).map (x :: ·)
  | .cx (.lit b) :: l => (exR l).map (.bool b :: ·)
  | _ => none

theorem exR_ok : ∀ {l : List YC} {vs us : List Value}, exR l = some vs → B.rd β w l us → us = vs
  | [], _, [], h, _ => by cases h; rfl
  | .v x :: l, _, _ :: _, h, hr => by
    obtain ⟨r, h1, rfl⟩ := Option.map_eq_some_iff.1 h
    rw [exR_ok h1 hr.2, show _ = x from hr.1]
  | .cx (.lit b) :: l, _, _ :: _, h, hr => by
    obtain ⟨r, h1, rfl⟩ := Option.map_eq_some_iff.1 h
    rw [exR_ok h1 hr.2, show _ = Value.bool b from hr.1]
  | [], _, _ :: _, _, hr => hr.elim
  | _ :: _, _, [], _, hr => hr.elim

/-- Addresses of boxes that there are. -/
def YC.wf (n : Nat) : YC → Bool
  | .bp j _ => decide (j < n)
  | _ => true

def YV.wf (n : Nat) : YV → Bool
  | .row l => l.all (YC.wf n)
  | .one x => x.wf n
  | .tup x y => YV.wf n x && YV.wf n y

theorem cd_ext {n : Nat} (e : ∀ j, j < n → β j = β' j) {c : YC} {v : Value} (h : c.wf n = true) (hc : B.cd β w c v) : B.cd β' w c v := by
  cases c with
  | bp j o =>
    simp only [YC.wf, decide_eq_true_eq] at h
    cases hc
    show Value.pointer _ = Value.pointer _
    rw [e j h]
  | _ => exact hc

theorem rd_ext {n : Nat} (e : ∀ j, j < n → β j = β' j) : ∀ {l : List YC} {vs : List Value}, l.all (YC.wf n) = true → B.rd β w l vs → B.rd β' w l vs
  | [], [], _, _ => trivial
  | _ :: _, _ :: _, h, hc => by
    rw [List.all_cons, Bool.and_eq_true] at h
    exact ⟨cd_ext e h.1 hc.1, rd_ext e h.2 hc.2⟩
  | [], _ :: _, _, hc => hc.elim
  | _ :: _, [], _, hc => hc.elim

theorem vd_ext {n : Nat} (e : ∀ j, j < n → β j = β' j) : ∀ {x : YV} {v : Value}, x.wf n = true → B.vd β w x v → B.vd β' w x v
  | .row _, _, h, ⟨vs, e1, hc⟩ => ⟨vs, e1, rd_ext e h hc⟩
  | .one _, _, h, hc => cd_ext e h hc
  | .tup _ _, _, h, ⟨a, b, e1, h1, h2⟩ => by
    simp only [YV.wf, Bool.and_eq_true] at h
    exact ⟨a, b, e1, vd_ext e h.1 h1, vd_ext e h.2 h2⟩

end

/-- Boxes; what is known. -/
abbrev YB := List (List YC × TypeId)

structure YSt where
  kn : List (Nat × YV)
  bl : YB

def YSt.wf (s : YSt) : Bool := (s.kn.all fun p => p.2.wf s.bl.length) && (s.bl.all fun p => p.1.all (YC.wf s.bl.length))

def bxY (bl : YB) (j : Nat) : Option (List YC × TypeId) := if j < bl.length then bl[bl.length - 1 - j]? else none

structure Env2 where
  T : Nat → List YV → Option YV
  Q : Op → List YV → Option YV
  G : List (CX × Bool)
  S : Array Value → Bool

structure EnvOK2 (P : Program) (B : Bl) (E : Env2) (w : World) : Prop where
  G : ∀ p ∈ E.G, B.A.cx p.1 = p.2
  S : ∀ C, E.S C = true → B.bt C = true
  T : ∀ f xs y, E.T f xs = some y → (∀ av W, (callFunc f av).run P W = .ok (.enter f av) W) ∧ ∀ β V vs, Below w.heap.size w V → B.vds β V xs vs → Calls P f vs.toArray V fun e w' => (∃ v, e = .returned v ∧ B.vd β w' y v) ∧ Below V.heap.size V w'
  Q : ∀ (o : Oper) rs xs y, readsOf o.op = some rs → E.Q o.op xs = some y → isAlO o = false ∧ ∀ β V (ρ : Operand → Value), Below w.heap.size w V → B.vds β V xs (rs.map ρ) → ∃ v w', (execOp ρ o).run P V = .ok (.value v) w' ∧ Below V.heap.size V w' ∧ B.vd β w' y v

/-- A value of a type, out of a row. -/
def ldY (P : Program) (l : List YC) (o : Nat) (t : TypeId) : Option YV := match isAg P t, szT P t with
  | some true, some n => if o + n ≤ l.length then some (.row ((l.drop o).take n)) else none
  | some false, some _ => (l[o]?).map .one
  | _, _ => none

section
variable {P : Program} {B : Bl} {E : Env2} {β : Nat → Nat} {w V : World}
theorem agg_run {t : TypeId} {b : Bool} (h : isAg P t = some b) (V : World) : (isAgg t).run P V = .ok b V := by
  unfold isAg at h
  obtain ⟨d, hd, hrow⟩ := Option.map_eq_some_iff.1 h
  unfold isAgg
  rw [Sem.run_bind, run_underlying hd V]
  cases d <;> simp_all [TypeDesc.isRow, Result.andThen, Sem.run_pure]

theorem ldY_run {l : List YC} {o b : Nat} {t : TypeId} {y : YV} {vs : List Value} (h : ldY P l o t = some y) (hl : B.rd β V l vs) (hr : V.rangeAt b 0 vs) : ∃ v, (loadVar t ⟨b, o, none⟩).run P V = .ok v V ∧ B.vd β V y v := by
  unfold ldY at h
  split at h
  · rename_i n h1 h2
    split at h
    · rename_i hn
      cases h
      refine ⟨.agg ((vs.drop o).take n).toArray, ?_, _, rfl, rd_take n (rd_drop o hl)⟩
      unfold isAg at h1
      obtain ⟨d, hd, hrow⟩ := Option.map_eq_some_iff.1 h1
      refine run_loadVar_mid V b o t _ d (fun j v hv => ?_) hd hrow (by rw [List.length_take, List.length_drop, rd_len hl, Nat.min_eq_left (by omega)]; exact h2)
      have hj := (List.getElem?_eq_some_iff.1 hv).1
      rw [List.length_take] at hj
      rw [List.getElem?_take_of_lt (by omega), List.getElem?_drop] at hv
      have := hr _ _ hv
      rwa [Nat.zero_add] at this
    · cases h
  · rename_i n h1 h2
    obtain ⟨c, hc, rfl⟩ := Option.map_eq_some_iff.1 h
    obtain ⟨v, hv, hd⟩ := rd_at hl hc
    refine ⟨v, ld1 (agg_run h1 V) ?_, hd⟩
    have := hr _ _ hv
    rwa [Nat.zero_add] at this
  · cases h

theorem fieldY_run {t : TypeId} {k o : Nat} {ft : TypeId} {l : List YC} {y : YV} {vs : List Value} (h : fOff P t k = some (o, ft)) (hy : ldY P l o ft = some y) (hl : B.rd β V l vs) : ∃ v, (Instr.field t (.agg vs.toArray) k).run P V = .ok v V ∧ B.vd β V y v := by
  obtain ⟨fs, f, hu, hf, rfl, rfl, n, hn, h0⟩ := fOff_run h
  unfold Instr.field
  rw [Sem.run_bind, run_underlying hu V]
  simp only [Result.andThen, hf, asAgg, Sem.run_bind, Sem.run_pure]
  unfold part
  unfold ldY at hy
  split at hy
  · rename_i m h1 h2
    split at hy
    · rename_i hm
      cases hy
      rw [Sem.run_bind, agg_run h1 V]
      simp only [Result.andThen, if_true, Sem.run_bind, sizeOf_run h2, Sem.run_pure]
      refine ⟨_, rfl, _, ?_, rd_take m (rd_drop f.offset hl)⟩
      congr 1
      apply Array.toList_inj.1
      simp
    · cases hy
  · rename_i m h1 h2
    obtain ⟨c, hc, rfl⟩ := Option.map_eq_some_iff.1 hy
    obtain ⟨v, hv, hd⟩ := rd_at hl hc
    rw [Sem.run_bind, agg_run h1 V]
    simp only [Result.andThen, Bool.false_eq_true, if_false, List.getElem?_toArray, hv, Sem.run_pure]
    exact ⟨v, rfl, hd⟩
  · cases hy

end
def chY : YV → Option (List YC)
  | .row l => some l
  | .one x => some [x]
  | _ => none

def zcY : Value → YC
  | .bool b => .cx (.lit b)
  | x => .v x

def zeY (P : Program) (t : TypeId) : Option (List YC) := match P.info? t with
  | some i => i.zero.map fun z => z.cells.toList.map zcY
  | none => none

def bdU (p : Nat → Option (Nat × Nat)) : Nat → List YC → List (Nat × YV) → Option (List YC)
  | _, z, [] => some z
  | o, z, (i, x) :: r => match p i, chY x with
    | some (q, n), some l => if decide (o ≤ q) && (n == l.length && (l.all YC.ok1 && decide (q - o + n ≤ z.length))) then (bdU p (q + n) (z.drop (q - o + n)) r).map fun m => z.take (q - o) ++ (l ++ m) else none
    | _, _ => none

def bdY (P : Program) (t : TypeId) (ks : List Nat) (xs : List YV) : Option YV := match plc P t, zeY P t with
  | some p, some z => if ks.length == xs.length then (bdU p 0 z (ks.zip xs)).map .row else none
  | _, _ => none

def cmpY (op : BinOp) (a b : Int) : Option Bool := match op with
  | .eql => some (a == b)
  | .neq => some (a != b)
  | .lss => some (decide (a < b))
  | .leq => some (decide (a ≤ b))
  | .gtr => some (decide (a > b))
  | .geq => some (decide (a ≥ b))
  | _ => none

def binY (op : BinOp) (x y : YV) : Option YV := match x, y with
  | .one (.v (.int k a)), .one (.v (.int l b)) => if k = l then (match cmpY op a b with
    | some c => some (.one (.cx (.lit c)))
    | none => match op with
      | .add => some (.one (.v (.int k (k.wrap (a + b)))))
      | .sub => some (.one (.v (.int k (k.wrap (a - b)))))
      | _ => none) else none
  | _, _ => none

def opY (P : Program) (E : Env2) (bl : YB) (o : Op) (xs : List YV) : Option YV := match o, xs with
  | .move _, [x] => some x
  | .assign _, [x] => some x
  | .pick _ _ _, [.one (.cx (.lit true)), a, _] => some a
  | .pick _ _ _, [.one (.cx (.lit false)), _, b] => some b
  | .unOp .not _ _, [.one (.cx c)] => some (.one (.cx (simC E.G (.no c))))
  | .fieldAddr s _ k, [.one (.bp j q)] => (fOff P s k).map fun x => .one (.bp j (q + x.1))
  | .field t _ k, [.row l] => match fOff P t k with
    | some (o, ft) => ldY P l o ft
    | none => none
  | .load t _, [.one (.bp j q)] => match bxY bl j with
    | some (l, _) => ldY P l q t
    | none => none
  | .binOp op _ _ _ _, [x, y] => binY op x y
  | .build t ps, xs => bdY P t (ps.toList.map (·.1)) xs
  | .extract _ 0, [.tup x _] => some x
  | .extract _ 1, [.tup _ y] => some y
  | op, xs => E.Q op xs

section
variable {P : Program} {B : Bl} {E : Env2} {β : Nat → Nat} {w V : World} {bl : YB}
theorem zcY_ok : ∀ (l : List Value), B.rd β V (l.map zcY) l
  | [] => trivial
  | x :: l => ⟨by cases x <;> rfl, zcY_ok l⟩

theorem zeY_ok {t : TypeId} {z : List YC} (h : zeY P t = some z) (β : Nat → Nat) (V : World) : ∃ v, (zeroValue t).run P V = .ok v V ∧ B.rd β V z v.cells.toList := by
  unfold zeY at h
  split at h
  · rename_i i hi
    obtain ⟨v, hv, rfl⟩ := Option.map_eq_some_iff.1 h
    exact ⟨v, by simp [zeroValue, typeInfo, hi, hv, Sem.run_bind], zcY_ok _⟩
  · cases h

theorem chY_ok {x : YV} {l : List YC} {v : Value} (h : chY x = some l) (hok : l.all YC.ok1 = true) (hv : B.vd β V x v) : B.rd β V l v.cells.toList := by
  cases x with
  | row m =>
    cases h
    obtain ⟨vs, rfl, hr⟩ := hv
    exact hr
  | one c =>
    cases h
    rw [List.all_cons, Bool.and_eq_true] at hok
    rw [(cd_one hv hok.1).1]
    exact ⟨hv, trivial⟩
  | tup _ _ => cases h

theorem bdU_run {p : Nat → Option (Nat × Nat)} : ∀ {ks : List Nat} {xs : List YV} {vs : List Value} {o : Nat} {z r : List YC} {zv : List Value} {pre : Array Value}, bdU p o z (ks.zip xs) = some r → B.vds β V xs vs → B.rd β V z zv → pre.size = o → ∃ rv, Instr.fill p (pre ++ zv.toArray) (ks.zip vs) = some (pre ++ rv.toArray) ∧ B.rd β V r rv
  | [], xs, vs, _, _, _, _, _, h, _, hz, _ => by cases h; exact ⟨_, rfl, hz⟩
  | _ :: _, [], [], _, _, _, _, _, h, _, hz, _ => by cases h; exact ⟨_, rfl, hz⟩
  | _ :: _, [], _ :: _, _, _, _, _, _, _, hv, _, _ => hv.elim
  | _ :: _, _ :: _, [], _, _, _, _, _, _, hv, _, _ => hv.elim
  | i :: ks, x :: xs, v :: vs, o, z, r, zv, pre, h, hv, hz, hp => by
    rw [List.zip_cons_cons, bdU] at h
    split at h
    · rename_i q n l hi hl
      split at h
      · rename_i hc
        simp only [Bool.and_eq_true, beq_iff_eq, decide_eq_true_eq] at hc
        obtain ⟨hq, hn, hok, hlen⟩ := hc
        obtain ⟨m, hm, rfl⟩ := Option.map_eq_some_iff.1 h
        have hX := chY_ok hl hok hv.1
        have hXl := rd_len hX
        have hzl := rd_len hz
        obtain ⟨rv, h1, h2⟩ := bdU_run (pre := pre ++ (zv.take (q - o)).toArray ++ v.cells) (vs := vs) hm hv.2 (rd_drop (q - o + n) hz) (by
          simp only [Array.size_append, List.size_toArray, List.length_take, ← Array.length_toList (xs := v.cells), hXl, hp]; omega)
        refine ⟨zv.take (q - o) ++ (v.cells.toList ++ rv), ?_, rd_app (rd_take _ hz) (rd_app hX h2)⟩
        have ez : pre ++ zv.toArray = (pre ++ (zv.take (q - o)).toArray) ++ (((zv.drop (q - o)).take n).toArray ++ (zv.drop (q - o + n)).toArray) := by
          apply Array.toList_inj.1
          simp only [Array.toList_append, List.append_assoc]
          rw [← List.drop_drop, List.take_append_drop, List.take_append_drop]
        rw [List.zip_cons_cons, ez, fill_cons (X := v.cells) rfl (off := q) (size := n) hi (by rw [← Array.length_toList, hXl, hn]) (by simp only [Array.size_append, List.size_toArray, List.length_take, hp]; omega) (by simp only [List.size_toArray, List.length_take, List.length_drop]; omega), ← Array.append_assoc, h1]
        congr 1
        apply Array.toList_inj.1
        simp
      · cases h
    · cases h

theorem bdY_run {t : TypeId} {ks : List Nat} {xs : List YV} {vs : List Value} {y : YV} (h : bdY P t ks xs = some y) (hv : B.vds β V xs vs) : ∃ v, (Instr.build t (ks.zip vs).toArray).run P V = .ok v V ∧ B.vd β V y v := by
  unfold bdY at h
  split at h
  · rename_i p z hp hz
    split at h
    · obtain ⟨r, hr, rfl⟩ := Option.map_eq_some_iff.1 h
      obtain ⟨zv, h1, h2⟩ := zeY_ok (B := B) hz β V
      obtain ⟨rv, hf, h3⟩ := bdU_run (pre := #[]) hr hv h2 rfl
      simp only [Array.empty_append, Array.toArray_toList] at hf
      refine ⟨.agg rv.toArray, ?_, rv, rfl, h3⟩
      unfold plc at hp
      split at hp
      · rename_i fs hu
        obtain ⟨l, hl, rfl⟩ := Option.map_eq_some_iff.1 hp
        have hm := plcs_run hl V
        obtain ⟨fs⟩ := fs
        have hp : (Array.mapM (fun f : Field => do pure (f.offset, ← sizeOf f.type) : Field → Sem (Nat × Nat)) ⟨fs⟩).run P V = .ok l.toArray V := by
          rw [List.mapM_toArray, map_eq_pure_bind, Sem.run_bind, hm]
          rfl
        unfold Instr.build
        simp only [Sem.run_bind, h1, run_underlying hu, Result.andThen, hp]
        rw [show (fun x => l.toArray[x]?) = fun i => l[i]? from funext fun i => by simp, hf]
        rfl
      · rename_i n e hu
        obtain ⟨k, hk, rfl⟩ := Option.map_eq_some_iff.1 hp
        unfold Instr.build
        simp only [Sem.run_bind, h1, run_underlying hu, Result.andThen, sizeOf_run hk]
        rw [hf]
        rfl
      · cases hp
    · cases h
  · cases h

theorem binY_run {o : Oper} {op : BinOp} {t t2 : TypeId} {a b : Operand} {x y z : YV} {ρ : Operand → Value} (ho : o.op = .binOp op t a b t2) (hx : B.vd β V x (ρ a)) (hy : B.vd β V y (ρ b)) (h : binY op x y = some z) : ∃ v, (execOp ρ o).run P V = .ok (.value v) V ∧ B.vd β V z v := by
  unfold binY at h
  split at h
  · rename_i k x0 l y0
    split at h
    · rename_i hk
      subst hk
      have hx : ρ a = .int k x0 := hx
      have hy : ρ b = .int k y0 := hy
      split at h
      · rename_i c hc
        cases h
        refine ⟨.bool c, ex_bin ho hx hy ?_ ?_, rfl⟩
        · cases op <;> rfl
        · unfold cmpY at hc
          cases op <;> simp only [Option.some.injEq, reduceCtorEq] at hc
          all_goals subst hc
          all_goals simp [binOp, Op.intCmp]
      · split at h
        · cases h
          exact ⟨_, ex_bin ho hx hy rfl (by simp [binOp, Op.intArith]), rfl⟩
        · cases h
          exact ⟨_, ex_bin ho hx hy rfl (by simp [binOp, Op.intArith]), rfl⟩
        · cases h
    · cases h
  · cases h

theorem opY_run {o : Oper} {rs : List Operand} {xs : List YV} {y : YV} {ρ : Operand → Value} (hE : EnvOK2 P B E w) (hV : Below w.heap.size w V) (hb : ∀ j l t, bxY bl j = some (l, t) → ∃ vs, V.rangeAt (β j) 0 vs ∧ B.rd β V l vs) (hr : readsOf o.op = some rs) (hρ : B.vds β V xs (rs.map ρ)) (h : opY P E bl o.op xs = some y) :
    isAlO o = false ∧ ∃ v w', (execOp ρ o).run P V = .ok (.value v) w' ∧ Below V.heap.size V w' ∧ B.vd β w' y v := by
  have q0 : ∀ {v : Value}, (execOp ρ o).run P V = .ok (.value v) V → B.vd β V y v → ∃ v w', (execOp ρ o).run P V = .ok (.value v) w' ∧ Below V.heap.size V w' ∧ B.vd β w' y v := fun {v} h1 h2 => ⟨v, V, h1, Below.refl _ _, h2⟩
  unfold opY at h
  split at h
  · rename_i ho
    rw [ho] at hr
    cases hr
    cases h
    exact ⟨by unfold isAlO; rw [ho], q0 (ex_move ho rfl) hρ.1⟩
  · rename_i ho
    rw [ho] at hr
    cases hr
    cases h
    exact ⟨by unfold isAlO; rw [ho], q0 (ex_assign ho rfl) hρ.1⟩
  · rename_i c a b _ _ ho
    rw [ho] at hr
    cases hr
    cases h
    refine ⟨by unfold isAlO; rw [ho], q0 (v := ρ a) ?_ hρ.2.1⟩
    have h1 : ρ c = .bool true := hρ.1
    unfold execOp
    simp only [ho, h1, asBool, Sem.run_bind, Sem.run_pure, Result.andThen, if_true]
  · rename_i c a b _ _ ho
    rw [ho] at hr
    cases hr
    cases h
    refine ⟨by unfold isAlO; rw [ho], q0 (v := ρ b) ?_ hρ.2.2.1⟩
    have h1 : ρ c = .bool false := hρ.1
    unfold execOp
    simp only [ho, h1, asBool, Sem.run_bind, Sem.run_pure, Result.andThen, if_false, Bool.false_eq_true]
  · rename_i c ho
    rw [ho] at hr
    cases hr
    cases h
    refine ⟨by unfold isAlO; rw [ho], q0 (v := .bool (!B.A.cx c)) (ex_un ho hρ.1 rfl) ?_⟩
    show Value.bool _ = Value.bool _
    rw [simC_ok hE.G]
    rfl
  · rename_i ho
    rw [ho] at hr
    cases hr
    obtain ⟨x, hx, rfl⟩ := Option.map_eq_some_iff.1 h
    exact ⟨by unfold isAlO; rw [ho], q0 (ex_fa ho hρ.1 (fieldAt_run (ft := x.2) hx V)) rfl⟩
  · rename_i a k l ho
    rw [ho] at hr
    cases hr
    obtain ⟨vs, e, hl⟩ := hρ.1
    split at h
    · rename_i hf
      obtain ⟨v, h1, h2⟩ := fieldY_run hf h hl
      refine ⟨by unfold isAlO; rw [ho], q0 (v := v) ?_ h2⟩
      unfold execOp
      simp only [ho, e, Sem.run_bind, h1, Result.andThen, Sem.run_pure]
    · cases h
  · rename_i ho
    rw [ho] at hr
    cases hr
    split at h
    · rename_i hbx
      obtain ⟨vs, h1, h2⟩ := hb _ _ _ hbx
      obtain ⟨v, h3, h4⟩ := ldY_run h h2 h1
      exact ⟨by unfold isAlO; rw [ho], q0 (ex_load ho hρ.1 h3) h4⟩
    · cases h
  · rename_i ho
    rw [ho] at hr
    cases hr
    obtain ⟨v, h1, h2⟩ := binY_run ho hρ.1 hρ.2.1 h
    exact ⟨by unfold isAlO; rw [ho], q0 h1 h2⟩
  · rename_i t ps ho
    rw [ho] at hr
    cases hr
    obtain ⟨v, h1, h2⟩ := bdY_run h hρ
    refine ⟨by unfold isAlO; rw [ho], q0 (v := v) (ex_build ho ?_ h1) h2⟩
    apply Array.toList_inj.1
    rw [Array.toList_map]
    generalize ps.toList = l
    induction l with
    | nil => rfl
    | cons a l ih => simp [ih]
  · rename_i ho
    rw [ho] at hr
    cases hr
    cases h
    obtain ⟨a, b, e, h1, h2⟩ := hρ.1
    refine ⟨by unfold isAlO; rw [ho], q0 (v := a) ?_ h1⟩
    unfold execOp
    simp only [ho, e, Instr.extract, Sem.run_bind, Sem.run_pure, Result.andThen]
    rfl
  · rename_i ho
    rw [ho] at hr
    cases hr
    cases h
    obtain ⟨a, b, e, h1, h2⟩ := hρ.1
    refine ⟨by unfold isAlO; rw [ho], q0 (v := b) ?_ h2⟩
    unfold execOp
    simp only [ho, e, Instr.extract, Sem.run_bind, Sem.run_pure, Result.andThen]
    rfl
  · obtain ⟨h1, h2⟩ := hE.Q o rs _ y hr h
    exact ⟨h1, h2 β V ρ hV hρ⟩

end

end Go.Proofs.YtcbdbnfgnonacaaGreat
