/-
 Whole functions, told by what their values are like.
-/
import Derived.Test.YtcbdbnfgnonacaaGreatCurveBn1C08
import Derived.LoopN
namespace Go.Proofs.YtcbdbnfgnonacaaGreat
open Go.RowKit Go.Shelf
inductive YC where
 | v (x : Value)
 | cx (c : CX)
 | bp (j o : Nat)
 | nm (k : Nat) (ts : List EX)
inductive YV where
 | row (l : List YC)
 | one (x : YC)
 | tup (x y : YV)
structure Bl where
 A : Al (fun _ => 0)
 lp : Nat → List A.K → World → Value → Prop
 st : ∀ {k xs w w' v}, lp k xs w v → Below w.heap.size w w' → lp k xs w' v
 one : ∀ {k xs w v}, lp k xs w v → v.cells = #[v] ∧ v.oneCell' = true
 bt : Array Value → Bool
 bs : ∀ {k xs w w' v b C D t}, lp k xs w v → bt C = true → C.size = D.size → BX w b C t → But b w w' → BX w' b D t → lp k xs w' v
section
variable (B : Bl) (β : Nat → Nat) (w : World)
def Bl.cd : YC → Value → Prop
 | .v x, v => v = x
 | .cx c, v => v = .bool (B.A.cx c)
 | .bp j o, v => v = .pointer (some ⟨β j, o, none⟩)
 | .nm k ts, v => B.lp k (ts.map B.A.d) w v
def Bl.rd : List YC → List Value → Prop
 | [], [] => True
 | c :: l, v :: vs => B.cd β w c v ∧ Bl.rd l vs
 | _, _ => False
def Bl.vd : YV → Value → Prop
 | .row l, v => ∃ vs : List Value, v = .agg vs.toArray ∧ B.rd β w l vs
 | .one x, v => B.cd β w x v
 | .tup x y, v => ∃ a b, v = .tuple #[a, b] ∧ Bl.vd x a ∧ Bl.vd y b
def Bl.vds : List YV → List Value → Prop
 | [], [] => True
 | x :: l, v :: vs => B.vd β w x v ∧ Bl.vds l vs
 | _, _ => False
end
section
variable {B : Bl} {β β' : Nat → Nat} {w w' : World}
theorem Zje (h : ∀ k xs v, B.lp k xs w v → B.lp k xs w' v) {c : YC} {v : Value} (hc : B.cd β w c v) : B.cd β w' c v := by
 cases c with
 | nm k ts => exact h _ _ _ hc
 | _ => exact hc
theorem ZbZ (h : ∀ k xs v, B.lp k xs w v → B.lp k xs w' v) : ∀ {l : List YC} {vs : List Value}, B.rd β w l vs → B.rd β w' l vs
 | [], [], _ => trivial
 | _ :: _, _ :: _, hc => ⟨Zje h hc.1, ZbZ h hc.2⟩
 | [], _ :: _, hc => hc.elim
 | _ :: _, [], hc => hc.elim
theorem Zef (h : ∀ k xs v, B.lp k xs w v → B.lp k xs w' v) : ∀ {x : YV} {v : Value}, B.vd β w x v → B.vd β w' x v
 | .row _, _, ⟨vs, e, hc⟩ => ⟨vs, e, ZbZ h hc⟩
 | .one _, _, hc => Zje h hc
 | .tup _ _, _, ⟨a, b, e, h1, h2⟩ => ⟨a, b, e, Zef h h1, Zef h h2⟩
theorem Bl.stab (hb : Below w.heap.size w w') : ∀ k xs v, B.lp k xs w v → B.lp k xs w' v := fun _ _ _ h => B.st h hb
theorem Bl.put {b : Nat} {C D : Array Value} {t : TypeId} (ht : B.bt C = true) (hs : C.size = D.size) (hx : BX w b C t) (hb : But b w w') (hy : BX w' b D t) : ∀ k xs v, B.lp k xs w v → B.lp k xs w' v := fun _ _ _ h => B.bs h ht hs hx hb hy
theorem Zeg : ∀ {l : List YC} {vs : List Value}, B.rd β w l vs → vs.length = l.length
 | [], [], _ => rfl
 | _ :: _, _ :: _, h => by simp [Zeg h.2]
 | [], _ :: _, h => h.elim
 | _ :: _, [], h => h.elim
theorem Zjf : ∀ {l m : List YC} {vs us : List Value}, B.rd β w l vs → B.rd β w m us → B.rd β w (l ++ m) (vs ++ us)
 | [], _, [], _, _, h => h
 | _ :: _, _, _ :: _, _, h1, h2 => ⟨h1.1, Zjf h1.2 h2⟩
 | [], _, _ :: _, _, h, _ => h.elim
 | _ :: _, _, [], _, h, _ => h.elim
theorem Zfp : ∀ (n : Nat) {l : List YC} {vs : List Value}, B.rd β w l vs → B.rd β w (l.drop n) (vs.drop n)
 | 0, _, _, h => h
 | _ + 1, [], [], _ => trivial
 | n + 1, _ :: _, _ :: _, h => Zfp n h.2
 | _ + 1, [], _ :: _, h => h.elim
 | _ + 1, _ :: _, [], h => h.elim
theorem Zfq : ∀ (n : Nat) {l : List YC} {vs : List Value}, B.rd β w l vs → B.rd β w (l.take n) (vs.take n)
 | 0, _, _, _ => trivial
 | _ + 1, [], [], _ => trivial
 | n + 1, _ :: _, _ :: _, h => ⟨h.1, Zfq n h.2⟩
 | _ + 1, [], _ :: _, h => h.elim
 | _ + 1, _ :: _, [], h => h.elim
theorem ZkP : ∀ {l : List YC} {vs : List Value}, B.rd β w l vs → ∀ {i : Nat} {c : YC}, l[i]? = some c → ∃ v, vs[i]? = some v ∧ B.cd β w c v
 | _ :: _, v :: _, h, 0, _, e => by cases e; exact ⟨v, rfl, h.1⟩
 | _ :: _, _ :: _, h, i + 1, _, e => ZkP h.2 (i := i) (by simpa using e)
 | [], [], _, _, _, e => by cases e
 | [], _ :: _, h, _, _, _ => h.elim
 | _ :: _, [], h, _, _, _ => h.elim
def YC.ok1 : YC → Bool
 | .v x => oneB x
 | _ => true
theorem ZlL {c : YC} {v : Value} (hc : B.cd β w c v) (h : c.ok1 = true) : v.cells = #[v] ∧ v.oneCell' = true := by
 cases c with
 | v x => cases hc; exact Zg3 h
 | cx c => cases hc; exact ⟨rfl, rfl⟩
 | bp j o => cases hc; exact ⟨rfl, rfl⟩
 | nm k ts => exact B.one hc
theorem rd_one : ∀ {l : List YC} {vs : List Value}, B.rd β w l vs → l.all YC.ok1 = true → vs.toArray.all (·.oneCell') = true := by
 intro l vs h ho
 rw [Array.all_eq_true_iff_forall_mem]
 intro v hv
 obtain ⟨i, hi⟩ := List.mem_iff_getElem?.1 (show v ∈ vs by simpa using hv)
 have hlt : i < l.length := by rw [← Zeg h]; exact (List.getElem?_eq_some_iff.1 hi).1
 obtain ⟨u, hu, hc⟩ := ZkP h (i := i) (c := l[i]) (List.getElem?_eq_getElem hlt)
 rw [hi] at hu
 cases hu
 exact (ZlL hc (List.all_eq_true.1 ho _ (List.getElem_mem hlt))).2
def exR : List YC → Option (List Value)
 | [] => some []
 | .v x :: l => (exR l).map (x :: ·)
 | .cx (.lit b) :: l => (exR l).map (.bool b :: ·)
 | _ => none
theorem Zjg : ∀ {l : List YC} {vs us : List Value}, exR l = some vs → B.rd β w l us → us = vs
 | [], _, [], h, _ => by cases h; rfl
 | .v x :: l, _, _ :: _, h, hr => by
  obtain ⟨r, h1, rfl⟩ := Option.map_eq_some_iff.1 h
  rw [Zjg h1 hr.2, show _ = x from hr.1]
 | .cx (.lit b) :: l, _, _ :: _, h, hr => by
  obtain ⟨r, h1, rfl⟩ := Option.map_eq_some_iff.1 h
  rw [Zjg h1 hr.2, show _ = Value.bool b from hr.1]
 | [], _, _ :: _, _, hr => hr.elim
 | _ :: _, _, [], _, hr => hr.elim
def YC.wf (n : Nat) : YC → Bool
 | .bp j _ => decide (j < n)
 | _ => true
def YV.wf (n : Nat) : YV → Bool
 | .row l => l.all (YC.wf n)
 | .one x => x.wf n
 | .tup x y => YV.wf n x && YV.wf n y
theorem ZlM {n : Nat} (e : ∀ j, j < n → β j = β' j) {c : YC} {v : Value} (h : c.wf n = true) (hc : B.cd β w c v) : B.cd β' w c v := by
 cases c with
 | bp j o =>
  simp only [YC.wf, decide_eq_true_eq] at h
  cases hc
  show Value.pointer _ = Value.pointer _
  rw [e j h]
 | _ => exact hc
theorem Zh2 {n : Nat} (e : ∀ j, j < n → β j = β' j) : ∀ {l : List YC} {vs : List Value}, l.all (YC.wf n) = true → B.rd β w l vs → B.rd β' w l vs
 | [], [], _, _ => trivial
 | _ :: _, _ :: _, h, hc => by
  rw [List.all_cons, Bool.and_eq_true] at h
  exact ⟨ZlM e h.1 hc.1, Zh2 e h.2 hc.2⟩
 | [], _ :: _, _, hc => hc.elim
 | _ :: _, [], _, hc => hc.elim
theorem Ze9 {n : Nat} (e : ∀ j, j < n → β j = β' j) : ∀ {x : YV} {v : Value}, x.wf n = true → B.vd β w x v → B.vd β' w x v
 | .row _, _, h, ⟨vs, e1, hc⟩ => ⟨vs, e1, Zh2 e h hc⟩
 | .one _, _, h, hc => ZlM e h hc
 | .tup _ _, _, h, ⟨a, b, e1, h1, h2⟩ => by
  simp only [YV.wf, Bool.and_eq_true] at h
  exact ⟨a, b, e1, Ze9 e h.1 h1, Ze9 e h.2 h2⟩
end
abbrev YB := List (List YC × TypeId)
structure YSt where
 kn : List (Nat × YV)
 bl : YB
def YSt.wf (s : YSt) : Bool := (s.kn.all fun p => p.2.wf s.bl.length) && (s.bl.all fun p => p.1.all (YC.wf s.bl.length))
def bxY (bl : YB) (j : Nat) : Option (List YC × TypeId) := if j < bl.length then bl[bl.length - 1 - j]? else none
structure Env2 where
 T : Nat → List YV → Option YV
 Q : Op → List YV → Option YV
 G : List (CX × Bool)
 S : Array Value → Bool
structure EnvOK2 (P : Program) (B : Bl) (E : Env2) (w : World) : Prop where
 G : ∀ p ∈ E.G, B.A.cx p.1 = p.2
 S : ∀ C, E.S C = true → B.bt C = true
 T : ∀ f xs y, E.T f xs = some y → (∀ av W, (callFunc f av).run P W = .ok (.enter f av) W) ∧ ∀ β V vs, Below w.heap.size w V → B.vds β V xs vs → Calls P f vs.toArray V fun e w' => (∃ v, e = .returned v ∧ B.vd β w' y v) ∧ Below V.heap.size V w'
 Q : ∀ (o : Oper) rs xs y, Zbm o.op = some rs → E.Q o.op xs = some y → isAlO o = false ∧ ∀ β V (ρ : Operand → Value), Below w.heap.size w V → B.vds β V xs (rs.map ρ) → ∃ v w', (execOp ρ o).run P V = .ok (.value v) w' ∧ Below V.heap.size V w' ∧ B.vd β w' y v
def ldY (P : Program) (l : List YC) (o : Nat) (t : TypeId) : Option YV := match isAg P t, szT P t with
 | some true, some n => if o + n ≤ l.length then some (.row ((l.drop o).take n)) else none
 | some false, some _ => (l[o]?).map .one
 | _, _ => none
section
variable {P : Program} {B : Bl} {E : Env2} {β : Nat → Nat} {w V : World}
theorem ZgK {t : TypeId} {b : Bool} (h : isAg P t = some b) (V : World) : (isAgg t).run P V = .ok b V := by
 unfold isAg at h
 obtain ⟨d, hd, hrow⟩ := Option.map_eq_some_iff.1 h
 unfold isAgg
 rw [Sem.run_bind, run_underlying hd V]
 cases d <;> simp_all [TypeDesc.isRow, Result.andThen, Sem.run_pure]
theorem Zjh {l : List YC} {o b : Nat} {t : TypeId} {y : YV} {vs : List Value} (h : ldY P l o t = some y) (hl : B.rd β V l vs) (hr : V.rangeAt b 0 vs) : ∃ v, (loadVar t ⟨b, o, none⟩).run P V = .ok v V ∧ B.vd β V y v := by
 unfold ldY at h
 split at h
 ·
  rename_i n h1 h2
  split at h
  ·
   rename_i hn
   cases h
   refine ⟨.agg ((vs.drop o).take n).toArray, ?_, _, rfl, Zfq n (Zfp o hl)⟩
   unfold isAg at h1
   obtain ⟨d, hd, hrow⟩ := Option.map_eq_some_iff.1 h1
   refine run_loadVar_mid V b o t _ d (fun j v hv => ?_) hd hrow (by rw [List.length_take, List.length_drop, Zeg hl, Nat.min_eq_left (by omega)]; exact h2)
   have hj := (List.getElem?_eq_some_iff.1 hv).1
   rw [List.length_take] at hj
   rw [List.getElem?_take_of_lt (by omega), List.getElem?_drop] at hv
   have := hr _ _ hv
   rwa [Nat.zero_add] at this
  ·
   cases h
 ·
  rename_i n h1 h2
  obtain ⟨c, hc, rfl⟩ := Option.map_eq_some_iff.1 h
  obtain ⟨v, hv, hd⟩ := ZkP hl hc
  refine ⟨v, ld1 (ZgK h1 V) ?_, hd⟩
  have := hr _ _ hv
  rwa [Nat.zero_add] at this
 ·
  cases h
theorem ZhM {t : TypeId} {k o : Nat} {ft : TypeId} {l : List YC} {y : YV} {vs : List Value} (h : fOff P t k = some (o, ft)) (hy : ldY P l o ft = some y) (hl : B.rd β V l vs) : ∃ v, (Instr.field t (.agg vs.toArray) k).run P V = .ok v V ∧ B.vd β V y v := by
 obtain ⟨fs, f, hu, hf, rfl, rfl, n, hn, h0⟩ := Zfb h
 unfold Instr.field
 rw [Sem.run_bind, run_underlying hu V]
 simp only [Result.andThen, hf, asAgg, Sem.run_bind, Sem.run_pure]
 unfold part
 unfold ldY at hy
 split at hy
 ·
  rename_i m h1 h2
  split at hy
  ·
   rename_i hm
   cases hy
   rw [Sem.run_bind, ZgK h1 V]
   simp only [Result.andThen, if_true, Sem.run_bind, Zbp h2, Sem.run_pure]
   refine ⟨_, rfl, _, ?_, Zfq m (Zfp f.offset hl)⟩
   congr 1
   apply Array.toList_inj.1
   simp
  ·
   cases hy
 ·
  rename_i m h1 h2
  obtain ⟨c, hc, rfl⟩ := Option.map_eq_some_iff.1 hy
  obtain ⟨v, hv, hd⟩ := ZkP hl hc
  rw [Sem.run_bind, ZgK h1 V]
  simp only [Result.andThen, Bool.false_eq_true, if_false, List.getElem?_toArray, hv, Sem.run_pure]
  exact ⟨v, rfl, hd⟩
 ·
  cases hy
end
def chY : YV → Option (List YC)
 | .row l => some l
 | .one x => some [x]
 | _ => none
def zcY : Value → YC
 | .bool b => .cx (.lit b)
 | x => .v x
def zeY (P : Program) (t : TypeId) : Option (List YC) := match P.info? t with
 | some i => i.zero.map fun z => z.cells.toList.map zcY
 | none => none
def bdU (p : Nat → Option (Nat × Nat)) : Nat → List YC → List (Nat × YV) → Option (List YC)
 | _, z, [] => some z
 | o, z, (i, x) :: r => match p i, chY x with
  | some (q, n), some l => if decide (o ≤ q) && (n == l.length && (l.all YC.ok1 && decide (q - o + n ≤ z.length))) then (bdU p (q + n) (z.drop (q - o + n)) r).map fun m => z.take (q - o) ++ (l ++ m) else none
  | _, _ => none
def bdY (P : Program) (t : TypeId) (ks : List Nat) (xs : List YV) : Option YV := match plc P t, zeY P t with
 | some p, some z => if ks.length == xs.length then (bdU p 0 z (ks.zip xs)).map .row else none
 | _, _ => none
def cmpY (op : BinOp) (a b : Int) : Option Bool := match op with
 | .eql => some (a == b)
 | .neq => some (a != b)
 | .lss => some (decide (a < b))
 | .leq => some (decide (a ≤ b))
 | .gtr => some (decide (a > b))
 | .geq => some (decide (a ≥ b))
 | _ => none
def binY (op : BinOp) (x y : YV) : Option YV := match x, y with
 | .one (.v (.int k a)), .one (.v (.int l b)) => if k = l then (match cmpY op a b with
  | some c => some (.one (.cx (.lit c)))
  | none => match op with
   | .add => some (.one (.v (.int k (k.wrap (a + b)))))
   | .sub => some (.one (.v (.int k (k.wrap (a - b)))))
   | _ => none) else none
 | _, _ => none
def opY (P : Program) (E : Env2) (bl : YB) (o : Op) (xs : List YV) : Option YV := match o, xs with
 | .move _, [x] => some x
 | .assign _, [x] => some x
 | .pick _ _ _, [.one (.cx (.lit true)), a, _] => some a
 | .pick _ _ _, [.one (.cx (.lit false)), _, b] => some b
 | .unOp .not _ _, [.one (.cx c)] => some (.one (.cx (simC E.G (.no c))))
 | .fieldAddr s _ k, [.one (.bp j q)] => (fOff P s k).map fun x => .one (.bp j (q + x.1))
 | .field t _ k, [.row l] => match fOff P t k with
  | some (o, ft) => ldY P l o ft
  | none => none
 | .load t _, [.one (.bp j q)] => match bxY bl j with
  | some (l, _) => ldY P l q t
  | none => none
 | .binOp op _ _ _ _, [x, y] => binY op x y
 | .build t ps, xs => bdY P t (ps.toList.map (·.1)) xs
 | .extract _ 0, [.tup x _] => some x
 | .extract _ 1, [.tup _ y] => some y
 | op, xs => E.Q op xs
section
variable {P : Program} {B : Bl} {E : Env2} {β : Nat → Nat} {w V : World} {bl : YB}
theorem ZlN : ∀ (l : List Value), B.rd β V (l.map zcY) l
 | [] => trivial
 | x :: l => ⟨by cases x <;> rfl, ZlN l⟩
theorem Zji {t : TypeId} {z : List YC} (h : zeY P t = some z) (β : Nat → Nat) (V : World) : ∃ v, (zeroValue t).run P V = .ok v V ∧ B.rd β V z v.cells.toList := by
 unfold zeY at h
 split at h
 ·
  rename_i i hi
  obtain ⟨v, hv, rfl⟩ := Option.map_eq_some_iff.1 h
  exact ⟨v, by simp [zeroValue, typeInfo, hi, hv, Sem.run_bind], ZlN _⟩
 ·
  cases h
theorem Zjj {x : YV} {l : List YC} {v : Value} (h : chY x = some l) (hok : l.all YC.ok1 = true) (hv : B.vd β V x v) : B.rd β V l v.cells.toList := by
 cases x with
 | row m =>
  cases h
  obtain ⟨vs, rfl, hr⟩ := hv
  exact hr
 | one c =>
  cases h
  rw [List.all_cons, Bool.and_eq_true] at hok
  rw [(ZlL hv hok.1).1]
  exact ⟨hv, trivial⟩
 | tup _ _ => cases h
theorem Zjk {p : Nat → Option (Nat × Nat)} : ∀ {ks : List Nat} {xs : List YV} {vs : List Value} {o : Nat} {z r : List YC} {zv : List Value} {pre : Array Value}, bdU p o z (ks.zip xs) = some r → B.vds β V xs vs → B.rd β V z zv → pre.size = o → ∃ rv, Instr.fill p (pre ++ zv.toArray) (ks.zip vs) = some (pre ++ rv.toArray) ∧ B.rd β V r rv
 | [], xs, vs, _, _, _, _, _, h, _, hz, _ => by cases h; exact ⟨_, rfl, hz⟩
 | _ :: _, [], [], _, _, _, _, _, h, _, hz, _ => by cases h; exact ⟨_, rfl, hz⟩
 | _ :: _, [], _ :: _, _, _, _, _, _, _, hv, _, _ => hv.elim
 | _ :: _, _ :: _, [], _, _, _, _, _, _, hv, _, _ => hv.elim
 | i :: ks, x :: xs, v :: vs, o, z, r, zv, pre, h, hv, hz, hp => by
  rw [List.zip_cons_cons, bdU] at h
  split at h
  ·
   rename_i q n l hi hl
   split at h
   ·
    rename_i hc
    simp only [Bool.and_eq_true, beq_iff_eq, decide_eq_true_eq] at hc
    obtain ⟨hq, hn, hok, hlen⟩ := hc
    obtain ⟨m, hm, rfl⟩ := Option.map_eq_some_iff.1 h
    have hX := Zjj hl hok hv.1
    have hXl := Zeg hX
    have hzl := Zeg hz
    obtain ⟨rv, h1, h2⟩ := Zjk (pre := pre ++ (zv.take (q - o)).toArray ++ v.cells) (vs := vs) hm hv.2 (Zfp (q - o + n) hz) (by
     simp only [Array.size_append, List.size_toArray, List.length_take, ← Array.length_toList (xs := v.cells), hXl, hp]; omega)
    refine ⟨zv.take (q - o) ++ (v.cells.toList ++ rv), ?_, Zjf (Zfq _ hz) (Zjf hX h2)⟩
    have ez : pre ++ zv.toArray = (pre ++ (zv.take (q - o)).toArray) ++ (((zv.drop (q - o)).take n).toArray ++ (zv.drop (q - o + n)).toArray) := by
     apply Array.toList_inj.1
     simp only [Array.toList_append, List.append_assoc]
     rw [← List.drop_drop, List.take_append_drop, List.take_append_drop]
    rw [List.zip_cons_cons, ez, Zb6 (X := v.cells) rfl (off := q) (size := n) hi (by rw [← Array.length_toList, hXl, hn]) (by simp only [Array.size_append, List.size_toArray, List.length_take, hp]; omega) (by simp only [List.size_toArray, List.length_take, List.length_drop]; omega), ← Array.append_assoc, h1]
    congr 1
    apply Array.toList_inj.1
    simp
   ·
    cases h
  ·
   cases h
theorem ZmF {t : TypeId} {ks : List Nat} {xs : List YV} {vs : List Value} {y : YV} (h : bdY P t ks xs = some y) (hv : B.vds β V xs vs) : ∃ v, (Instr.build t (ks.zip vs).toArray).run P V = .ok v V ∧ B.vd β V y v := by
 unfold bdY at h
 split at h
 ·
  rename_i p z hp hz
  split at h
  ·
   obtain ⟨r, hr, rfl⟩ := Option.map_eq_some_iff.1 h
   obtain ⟨zv, h1, h2⟩ := Zji (B := B) hz β V
   obtain ⟨rv, hf, h3⟩ := Zjk (pre := #[]) hr hv h2 rfl
   simp only [Array.empty_append, Array.toArray_toList] at hf
   refine ⟨.agg rv.toArray, ?_, rv, rfl, h3⟩
   unfold plc at hp
   split at hp
   ·
    rename_i fs hu
    obtain ⟨l, hl, rfl⟩ := Option.map_eq_some_iff.1 hp
    have hm := Zfc hl V
    obtain ⟨fs⟩ := fs
    have hp : (Array.mapM (fun f : Field => do pure (f.offset, ← sizeOf f.type) : Field → Sem (Nat × Nat)) ⟨fs⟩).run P V = .ok l.toArray V := by
     rw [List.mapM_toArray, map_eq_pure_bind, Sem.run_bind, hm]
     rfl
    unfold Instr.build
    simp only [Sem.run_bind, h1, run_underlying hu, Result.andThen, hp]
    rw [show (fun x => l.toArray[x]?) = fun i => l[i]? from funext fun i => by simp, hf]
    rfl
   ·
    rename_i n e hu
    obtain ⟨k, hk, rfl⟩ := Option.map_eq_some_iff.1 hp
    unfold Instr.build
    simp only [Sem.run_bind, h1, run_underlying hu, Result.andThen, Zbp hk]
    rw [hf]
    rfl
   ·
    cases hp
  ·
   cases h
 ·
  cases h
theorem ZkQ {o : Oper} {op : BinOp} {t t2 : TypeId} {a b : Operand} {x y z : YV} {ρ : Operand → Value} (ho : o.op = .binOp op t a b t2) (hx : B.vd β V x (ρ a)) (hy : B.vd β V y (ρ b)) (h : binY op x y = some z) : ∃ v, (execOp ρ o).run P V = .ok (.value v) V ∧ B.vd β V z v := by
 unfold binY at h
 split at h
 ·
  rename_i k x0 l y0
  split at h
  ·
   rename_i hk
   subst hk
   have hx : ρ a = .int k x0 := hx
   have hy : ρ b = .int k y0 := hy
   split at h
   ·
    rename_i c hc
    cases h
    refine ⟨.bool c, ZdH ho hx hy ?_ ?_, rfl⟩
    ·
     cases op <;> rfl
    ·
     unfold cmpY at hc
     cases op <;> simp only [Option.some.injEq, reduceCtorEq] at hc
     all_goals subst hc
     all_goals simp [binOp, Op.intCmp]
   ·
    split at h
    ·
     cases h
     exact ⟨_, ZdH ho hx hy rfl (by simp [binOp, Op.intArith]), rfl⟩
    ·
     cases h
     exact ⟨_, ZdH ho hx hy rfl (by simp [binOp, Op.intArith]), rfl⟩
    ·
     cases h
  ·
   cases h
 ·
  cases h
theorem Zjl {o : Oper} {rs : List Operand} {xs : List YV} {y : YV} {ρ : Operand → Value} (hE : EnvOK2 P B E w) (hV : Below w.heap.size w V) (hb : ∀ j l t, bxY bl j = some (l, t) → ∃ vs, V.rangeAt (β j) 0 vs ∧ B.rd β V l vs) (hr : Zbm o.op = some rs) (hρ : B.vds β V xs (rs.map ρ)) (h : opY P E bl o.op xs = some y) :
  isAlO o = false ∧ ∃ v w', (execOp ρ o).run P V = .ok (.value v) w' ∧ Below V.heap.size V w' ∧ B.vd β w' y v := by
 have q0 : ∀ {v : Value}, (execOp ρ o).run P V = .ok (.value v) V → B.vd β V y v → ∃ v w', (execOp ρ o).run P V = .ok (.value v) w' ∧ Below V.heap.size V w' ∧ B.vd β w' y v := fun {v} h1 h2 => ⟨v, V, h1, Below.refl _ _, h2⟩
 unfold opY at h
 split at h
 ·
  rename_i ho
  rw [ho] at hr
  cases hr
  cases h
  exact ⟨by unfold isAlO; rw [ho], q0 (ZdG ho rfl) hρ.1⟩
 ·
  rename_i ho
  rw [ho] at hr
  cases hr
  cases h
  exact ⟨by unfold isAlO; rw [ho], q0 (Zbl ho rfl) hρ.1⟩
 ·
  rename_i c a b _ _ ho
  rw [ho] at hr
  cases hr
  cases h
  refine ⟨by unfold isAlO; rw [ho], q0 (v := ρ a) ?_ hρ.2.1⟩
  have h1 : ρ c = .bool true := hρ.1
  unfold execOp
  simp only [ho, h1, asBool, Sem.run_bind, Sem.run_pure, Result.andThen, if_true]
 ·
  rename_i c a b _ _ ho
  rw [ho] at hr
  cases hr
  cases h
  refine ⟨by unfold isAlO; rw [ho], q0 (v := ρ b) ?_ hρ.2.2.1⟩
  have h1 : ρ c = .bool false := hρ.1
  unfold execOp
  simp only [ho, h1, asBool, Sem.run_bind, Sem.run_pure, Result.andThen, if_false, Bool.false_eq_true]
 ·
  rename_i c ho
  rw [ho] at hr
  cases hr
  cases h
  refine ⟨by unfold isAlO; rw [ho], q0 (v := .bool (!B.A.cx c)) (ex_un ho hρ.1 rfl) ?_⟩
  show Value.bool _ = Value.bool _
  rw [Zc8 hE.G]
  rfl
 ·
  rename_i ho
  rw [ho] at hr
  cases hr
  obtain ⟨x, hx, rfl⟩ := Option.map_eq_some_iff.1 h
  exact ⟨by unfold isAlO; rw [ho], q0 (Zmt ho hρ.1 (Zc9 (ft := x.2) hx V)) rfl⟩
 ·
  rename_i a k l ho
  rw [ho] at hr
  cases hr
  obtain ⟨vs, e, hl⟩ := hρ.1
  split at h
  ·
   rename_i hf
   obtain ⟨v, h1, h2⟩ := ZhM hf h hl
   refine ⟨by unfold isAlO; rw [ho], q0 (v := v) ?_ h2⟩
   unfold execOp
   simp only [ho, e, Sem.run_bind, h1, Result.andThen, Sem.run_pure]
  ·
   cases h
 ·
  rename_i ho
  rw [ho] at hr
  cases hr
  split at h
  ·
   rename_i hbx
   obtain ⟨vs, h1, h2⟩ := hb _ _ _ hbx
   obtain ⟨v, h3, h4⟩ := Zjh h h2 h1
   exact ⟨by unfold isAlO; rw [ho], q0 (ZaB ho hρ.1 h3) h4⟩
  ·
   cases h
 ·
  rename_i ho
  rw [ho] at hr
  cases hr
  obtain ⟨v, h1, h2⟩ := ZkQ ho hρ.1 hρ.2.1 h
  exact ⟨by unfold isAlO; rw [ho], q0 h1 h2⟩
 ·
  rename_i t ps ho
  rw [ho] at hr
  cases hr
  obtain ⟨v, h1, h2⟩ := ZmF h hρ
  refine ⟨by unfold isAlO; rw [ho], q0 (v := v) (Zcu ho ?_ h1) h2⟩
  apply Array.toList_inj.1
  rw [Array.toList_map]
  generalize ps.toList = l
  induction l with
  | nil => rfl
  | cons a l ih => simp [ih]
 ·
  rename_i ho
  rw [ho] at hr
  cases hr
  cases h
  obtain ⟨a, b, e, h1, h2⟩ := hρ.1
  refine ⟨by unfold isAlO; rw [ho], q0 (v := a) ?_ h1⟩
  unfold execOp
  simp only [ho, e, Instr.extract, Sem.run_bind, Sem.run_pure, Result.andThen]
  rfl
 ·
  rename_i ho
  rw [ho] at hr
  cases hr
  cases h
  obtain ⟨a, b, e, h1, h2⟩ := hρ.1
  refine ⟨by unfold isAlO; rw [ho], q0 (v := b) ?_ h2⟩
  unfold execOp
  simp only [ho, e, Instr.extract, Sem.run_bind, Sem.run_pure, Result.andThen]
  rfl
 ·
  obtain ⟨h1, h2⟩ := hE.Q o rs _ y hr h
  exact ⟨h1, h2 β V ρ hV hρ⟩
end
inductive GE where
 | val (p : Value → World → Prop)
 | box (p : Array Value → World → Prop) (t : TypeId)
def GE.pd (N : Nat) : GE → PD
 | .val p => .pr p
 | .box p t => .pr fun v w => ∃ b, v = pv b 0 ∧ N ≤ b ∧ ∃ C, BX w b C t ∧ p C w
def GEs (N : Nat) (Gs : List GE) : List PD := Gs.map (GE.pd N)
def GE.stab : GE → Prop
 | .val p => ∀ v w w', p v w → Below w.heap.size w w' → p v w'
 | .box p _ => ∀ v w w', p v w → Below w.heap.size w w' → p v w'
theorem ZcO {N : Nat} : ∀ {Gs : List GE}, (∀ g ∈ Gs, g.stab) → StabD (GEs N Gs)
 | [], _ => trivial
 | .val _ :: _, h => ⟨h _ List.mem_cons_self, ZcO fun g hg => h g (List.mem_cons_of_mem _ hg)⟩
 | .box _ _ :: _, h => ⟨fun _ _ _ ⟨b, e, hb, C, hC, hp⟩ hw => ⟨b, e, hb, C, hC.moved hw, h _ List.mem_cons_self _ _ _ hp hw⟩, ZcO fun g hg => h g (List.mem_cons_of_mem _ hg)⟩
def EndE (w V : World) (n : Nat) (nk : List Value → List Nat → List (Nat × Value)) (R : List Value → Prop) : List GE → List Value → Bxs → Prop
 | [], vals, bl => ∀ L, GT w V L n (nk vals.reverse) bl → R L
 | .val p :: Gs, vals, bl => ∀ v, p v V → EndE w V n nk R Gs (v :: vals) bl
 | .box p t :: Gs, vals, bl => ∀ b C, p C V → EndE w V n nk R Gs (pv b 0 :: vals) ((b, C, t) :: bl)
def alE (ops : Array Oper) : Nat → List GE → Bool
 | _, [] => true
 | i, .val _ :: Gs => alE ops (i + 1) Gs
 | i, .box _ _ :: Gs => isAl ops i && alE ops (i + 1) Gs
theorem EndE.to {w W V : World} {ops : Array Oper} {n M : Nat} {nk : List Value → List Nat → List (Nat × Value)} {R : List Value → Prop} {bl : Bxs} (hup : Up w V) (hV : Up W V) (hw : w.heap.size ≤ W.heap.size) (hbx : BXs W bl) (hnw : ∀ x ∈ bl, w.heap.size ≤ x.1) :
  ∀ (Gs : List GE) (acc : List Value) (nbl : List (Nat × Nat × Array Value × TypeId)), acc.length + Gs.length = M → alE ops acc.length Gs = true → GI V W.heap.size ops acc nbl → EndE w V n nk R Gs acc (nbl.map (·.2) ++ bl) →
   EndP V (PDs (GEs W.heap.size Gs)) (fun vs => Apt ops M (acc.reverse ++ vs) → ∀ L, L.length = n → (∀ live, KS L (nk (acc.reverse ++ vs) live)) → R L)
 | [], acc, nbl, hM, _, hI, h => EndG.to (M := M) hup hV hw hbx hnw [] acc nbl hM rfl hI h
 | .val p :: Gs, acc, nbl, hM, ha, hI, h => by
  intro v hv
  refine EndP.mono (EndE.to (M := M) hup hV hw hbx hnw Gs (v :: acc) nbl (by simp at hM ⊢; omega) ha (hI.more v) (h v hv)) fun vs hk => ?_
  rw [List.reverse_cons, List.append_assoc] at hk
  exact hk
 | .box p t :: Gs, acc, nbl, hM, ha, hI, h => by
  rintro _ ⟨b, rfl, hle, C, hb, hp⟩
  simp only [alE, Bool.and_eq_true] at ha
  have hI' := hI.more (pv b 0)
  refine EndP.mono (EndE.to (M := M) hup hV hw hbx hnw Gs (pv b 0 :: acc) ((acc.length, b, C, t) :: nbl) (by simp at hM ⊢; omega) ha.2 ⟨fun x hx => ?_, ?_⟩ (h b C hp)) fun vs hk => ?_
  ·
   rcases List.mem_cons.1 hx with rfl | hx
   ·
    exact ⟨hb, hle, ha.1, by simp, by simp⟩
   ·
    exact hI'.all x hx
  ·
   rw [List.map_cons, List.nodup_cons]
   refine ⟨fun hm => ?_, hI.nd⟩
   obtain ⟨x, hx, e⟩ := List.mem_map.1 hm
   have := (hI.all x hx).2.2.2.1
   omega
  ·
   rw [List.reverse_cons, List.append_assoc] at hk
   exact hk
theorem ZmG (N : Nat) (Gs : List GE) : (GEs N Gs).length = Gs.length := by simp [GEs]
theorem GS.lastE {w W V : World} {L : List Value} {n : Nat} {kn : List (Nat × Value)} {bl : Bxs} {ops : Array Oper} {R : List Value → Prop} {Gs : List GE} (S : GS w W L n kn bl) (hV : Up W V) (ha : alE ops 0 Gs = true) (hc : chkD .any ops Gs.length n = true) (h : EndE w V n (nkOf ops Gs.length kn) R Gs [] bl) :
  EndP V (PDs (GEs W.heap.size Gs)) (fun vl => Apt ops Gs.length vl → ∀ l', l' = TV ((List.range Gs.length).map (dOf ops)) vl L → R l') := by
 obtain ⟨h1, h2⟩ := ZbN hc
 have hk := S.ks
 refine EndP.mono (EndE.to (ops := ops) (M := Gs.length) (S.up.trans (hV.mono S.up.size)) hV S.up.size S.bx S.nw Gs [] [] (by simp) ha ⟨fun _ h => (by cases h), List.nodup_nil⟩ h) fun vs hk' hA l' e => ?_
 subst e
 exact hk' hA _ (by rw [ZdK, S.len]) fun live => hk.next h1 (by rw [S.len]; exact h2) live
inductive RY where
 | val (x : YV)
 | box (l : List YC) (t : TypeId)
def RY.sv : RY → Option YV
 | .val x => some x
 | .box _ _ => none
def RY.wf (n : Nat) : RY → Bool
 | .val x => x.wf n
 | .box l _ => l.all (YC.wf n)
def RY.ge (B : Bl) (β : Nat → Nat) : RY → GE
 | .val x => .val fun v w => B.vd β w x v
 | .box l t => .box (fun C w => B.rd β w l C.toList) t
theorem RY.stab (B : Bl) (β : Nat → Nat) (Gs : List RY) : ∀ g ∈ Gs.map (RY.ge B β), g.stab := fun g hg => by
 obtain ⟨r, -, rfl⟩ := List.mem_map.1 hg
 cases r with
 | val x => exact fun v w w' h hb => Zef (Bl.stab hb) h
 | box l t => exact fun v w w' h hb => ZbZ (Bl.stab hb) h
def rsY (ops : List Oper) (n : Nat) (kn : List (Nat × YV)) (get : Nat → Option YV) (i : Nat) : Operand → Option YV
 | .tmp s => match srcOf ops i s with
  | some j => get j
  | none => if outL ops n i s then kn.lookup s else none
 | .const (.bool b) => some (.one (.cx (.lit b)))
 | .const v => some (.one (.v v))
 | .func f => some (.one (.v (.func (.func f) #[] #[])))
 | .global _ => none
def allY (f : Operand → Option YV) : List Operand → Option (List YV)
 | [] => some []
 | x :: r => match f x, allY f r with
  | some v, some vs => some (v :: vs)
  | _, _ => none
def gdY (ops : List Oper) (get : Nat → Option YV) (i : Nat) (o : Oper) : Option Bool := match o.guard with
 | none => some true
 | some (g, b) => if decide (g < i) && wts ops i g && dstAt ops g then (match get g with
  | some (.one (.cx (.lit c))) => some (c == b)
  | _ => none) else none
def stepY (P : Program) (E : Env2) (bl : YB) (ops : List Oper) (n : Nat) (kn : List (Nat × YV)) (get : Nat → Option YV) (i : Nat) : Option RY := match ops[i]? with
 | none => none
 | some o => if o.dst.isSome then (match gdY ops get i o with
  | none => none
  | some false => if isAlO o then none else some (.val (.one (.v undef)))
  | some true => match o.op with
   | .alloc t => (zeY P t).map fun l => .box l t
   | .box t x => match rsY ops n kn get i x with
    | some v => match chY v with
     | some m => if m.all YC.ok1 then some (.box m t) else none
     | none => none
    | none => none
   | .call ⟨.value (.func f), args, _⟩ => match allY (rsY ops n kn get i) args.toList with
    | some xs => (E.T f xs).map .val
    | none => none
   | op => match Zbm op with
    | some rs => match allY (rsY ops n kn get i) rs with
     | some xs => (opY P E bl op xs).map .val
     | none => none
    | none => none) else none
def goY (P : Program) (E : Env2) (bl : YB) (ops : List Oper) (n : Nat) (kn : List (Nat × YV)) : Nat → List RY → Option (List RY)
 | 0, acc => some acc
 | k + 1, acc => match stepY P E bl ops n kn (fun j => acc[j]?.bind RY.sv) acc.length with
  | some x => goY P E bl ops n kn k (acc ++ [x])
  | none => none
section
variable {P : Program} {E : Env2} {bl : YB} {ops : List Oper} {n : Nat} {kn : List (Nat × YV)} {get get' : Nat → Option YV} {i : Nat}
theorem Zjm (h : ∀ j, j < i → get j = get' j) (x : Operand) : rsY ops n kn get i x = rsY ops n kn get' i x := by
 unfold rsY
 split
 ·
  split
  ·
   rename_i hj
   exact h _ (Zhs hj)
  ·
   rfl
 all_goals rfl
theorem Zjn (h : ∀ j, j < i → get j = get' j) (o : Oper) : gdY ops get i o = gdY ops get' i o := by
 unfold gdY
 split
 ·
  rfl
 ·
  split
  ·
   rename_i hc
   simp only [Bool.and_eq_true, decide_eq_true_eq] at hc
   rw [h _ hc.1.1]
  ·
   rfl
theorem ZgL (h : ∀ j, j < i → get j = get' j) : stepY P E bl ops n kn get i = stepY P E bl ops n kn get' i := by
 have e : rsY ops n kn get i = rsY ops n kn get' i := funext (Zjm h)
 unfold stepY
 simp only [Zjn h, e]
theorem ZlO : ∀ {k : Nat} {acc Gs : List RY}, goY P E bl ops n kn k acc = some Gs → ∃ r, Gs = acc ++ r ∧ r.length = k ∧ ∀ j, acc.length ≤ j → j < Gs.length → stepY P E bl ops n kn (fun j => Gs[j]?.bind RY.sv) j = Gs[j]?
 | 0, acc, Gs, h => by
  cases h
  exact ⟨[], by simp, rfl, fun j h1 h2 => by omega⟩
 | k + 1, acc, Gs, h => by
  unfold goY at h
  split at h
  ·
   rename_i x hx
   obtain ⟨r, e, hl, hs⟩ := ZlO h
   refine ⟨x :: r, by rw [e]; simp, by simp [hl], fun j h1 h2 => ?_⟩
   by_cases hj : j = acc.length
   ·
    subst hj
    have hg : Gs[acc.length]? = some x := by rw [e]; simp
    rw [hg, ← hx]
    refine ZgL fun q hq => ?_
    rw [e, List.append_assoc, List.getElem?_append_left hq]
   ·
    exact hs j (by simp; omega) h2
  ·
   cases h
end
def KR (B : Bl) (β : Nat → Nat) (w : World) : List (Nat × YV) → List (Nat × Value) → Prop
 | [], [] => True
 | (s, y) :: r, (s', v) :: r' => s' = s ∧ B.vd β w y v ∧ KR B β w r r'
 | _, _ => False
def BR (B : Bl) (β : Nat → Nat) (w : World) : YB → Bxs → Prop
 | [], [] => True
 | (l, t) :: r, (b, C, t') :: r' => b = β r.length ∧ t' = t ∧ B.rd β w l C.toList ∧ BR B β w r r'
 | _, _ => False
section
variable {B : Bl} {β β' : Nat → Nat} {w w' : World}
theorem KR.lookup : ∀ {kn : List (Nat × YV)} {kv : List (Nat × Value)}, KR B β w kn kv → ∀ {s : Nat}, (∃ y, kn.lookup s = some y) ∨ kn.lookup s = none → match kn.lookup s with
  | some y => ∃ v, kv.lookup s = some v ∧ B.vd β w y v
  | none => kv.lookup s = none
 | [], [], _, s, _ => rfl
 | (a, y) :: r, (a', v) :: r', h, s, _ => by
  obtain ⟨rfl, h1, h2⟩ := h
  rw [List.lookup_cons, List.lookup_cons]
  by_cases hs : s == a'
  ·
   simp only [hs]
   exact ⟨v, rfl, h1⟩
  ·
   rw [Bool.not_eq_true] at hs
   simp only [hs]
   exact KR.lookup h2 (by cases r.lookup s <;> simp)
 | [], _ :: _, h, _, _ => h.elim
 | _ :: _, [], h, _, _ => h.elim
theorem KR.get {kn : List (Nat × YV)} {kv : List (Nat × Value)} (h : KR B β w kn kv) {s : Nat} {y : YV} (hs : kn.lookup s = some y) : ∃ v, kv.lookup s = some v ∧ B.vd β w y v := by
 have := KR.lookup h (s := s) (by rw [hs]; exact Or.inl ⟨y, rfl⟩)
 rw [hs] at this
 exact this
theorem KR.mono (hm : ∀ k xs v, B.lp k xs w v → B.lp k xs w' v) : ∀ {kn : List (Nat × YV)} {kv : List (Nat × Value)}, KR B β w kn kv → KR B β w' kn kv
 | [], [], _ => trivial
 | _ :: _, _ :: _, h => ⟨h.1, Zef hm h.2.1, KR.mono hm h.2.2⟩
 | [], _ :: _, h => h.elim
 | _ :: _, [], h => h.elim
theorem KR.ext {n : Nat} (e : ∀ j, j < n → β j = β' j) : ∀ {kn : List (Nat × YV)} {kv : List (Nat × Value)}, (kn.all fun p => p.2.wf n) = true → KR B β w kn kv → KR B β' w kn kv
 | [], [], _, _ => trivial
 | _ :: _, _ :: _, hw, h => by
  rw [List.all_cons, Bool.and_eq_true] at hw
  exact ⟨h.1, Ze9 e hw.1 h.2.1, KR.ext e hw.2 h.2.2⟩
 | [], _ :: _, _, h => h.elim
 | _ :: _, [], _, h => h.elim
theorem BR.len : ∀ {bl : YB} {bv : Bxs}, BR B β w bl bv → bv.length = bl.length
 | [], [], _ => rfl
 | _ :: _, _ :: _, h => by simp [BR.len h.2.2.2]
 | [], _ :: _, h => h.elim
 | _ :: _, [], h => h.elim
theorem BR.mono (hm : ∀ k xs v, B.lp k xs w v → B.lp k xs w' v) : ∀ {bl : YB} {bv : Bxs}, BR B β w bl bv → BR B β w' bl bv
 | [], [], _ => trivial
 | _ :: _, _ :: _, h => ⟨h.1, h.2.1, ZbZ hm h.2.2.1, BR.mono hm h.2.2.2⟩
 | [], _ :: _, h => h.elim
 | _ :: _, [], h => h.elim
theorem BR.ext {n : Nat} (e : ∀ j, j < n → β j = β' j) : ∀ {bl : YB} {bv : Bxs}, bl.length ≤ n → (bl.all fun p => p.1.all (YC.wf n)) = true → BR B β w bl bv → BR B β' w bl bv
 | [], [], _, _, _ => trivial
 | (l, t) :: r, _ :: _, hl, hw, h => by
  rw [List.all_cons, Bool.and_eq_true] at hw
  rw [List.length_cons] at hl
  exact ⟨h.1.trans (e _ (by omega)), h.2.1, Zh2 e hw.1 h.2.2.1, BR.ext e (by omega) hw.2 h.2.2.2⟩
 | [], _ :: _, _, _, h => h.elim
 | _ :: _, [], _, _, h => h.elim
theorem BR.at_ : ∀ {bl : YB} {bv : Bxs}, BR B β w bl bv → ∀ {p : Nat} {l : List YC} {t : TypeId}, bl[p]? = some (l, t) → ∃ C, bv[p]? = some (β (bl.length - 1 - p), C, t) ∧ B.rd β w l C.toList
 | (_, _) :: r, (_, C, _) :: _, h, 0, _, _, e => by
  cases e
  obtain ⟨rfl, rfl, h1, -⟩ := h
  exact ⟨C, by simp, h1⟩
 | (_, _) :: r, (_, _, _) :: _, h, p + 1, _, _, e => by
  obtain ⟨C, h1, h2⟩ := BR.at_ h.2.2.2 (p := p) (by simpa using e)
  refine ⟨C, ?_, h2⟩
  rw [List.getElem?_cons_succ, h1, List.length_cons]
  congr 3
  omega
 | [], [], _, _, _, _, e => by cases e
 | [], _ :: _, h, _, _, _, _ => h.elim
 | _ :: _, [], h, _, _, _, _ => h.elim
theorem BR.set : ∀ {bl : YB} {bv : Bxs}, BR B β w bl bv → ∀ {p : Nat} {l m : List YC} {t : TypeId} {C : Array Value}, bl[p]? = some (l, t) → B.rd β w m C.toList → BR B β w (bl.set p (m, t)) (bv.set p (β (bl.length - 1 - p), C, t))
 | (_, _) :: r, (_, _, _) :: _, h, 0, _, _, _, _, e, hm => by
  cases e
  obtain ⟨rfl, rfl, h1, h2⟩ := h
  exact ⟨by simp, rfl, hm, h2⟩
 | (_, _) :: r, (_, _, _) :: _, h, p + 1, l, m, t, C, e, hm => by
  have := BR.set h.2.2.2 (p := p) (by simpa using e) hm
  rw [List.length_cons, show r.length + 1 - 1 - (p + 1) = r.length - 1 - p by omega]
  exact ⟨by rw [List.length_set]; exact h.1, h.2.1, h.2.2.1, this⟩
 | [], [], _, _, _, _, _, _, e, _ => by cases e
 | [], _ :: _, h, _, _, _, _, _, _, _ => h.elim
 | _ :: _, [], h, _, _, _, _, _, _, _ => h.elim
theorem ZlP {bl : YB} {j : Nat} {l : List YC} {t : TypeId} (h : bxY bl j = some (l, t)) : j < bl.length ∧ bl[bl.length - 1 - j]? = some (l, t) := by
 unfold bxY at h
 split at h
 ·
  exact ⟨by assumption, h⟩
 ·
  cases h
theorem BR.bx {W : World} {bl : YB} {bv : Bxs} (h : BR B β W bl bv) (hx : BXs W bv) {j : Nat} {l : List YC} {t : TypeId} (hj : bxY bl j = some (l, t)) : ∃ C, BX W (β j) C t ∧ B.rd β W l C.toList := by
 obtain ⟨h1, h2⟩ := ZlP hj
 obtain ⟨C, h3, h4⟩ := h.at_ h2
 rw [show bl.length - 1 - (bl.length - 1 - j) = j by omega] at h3
 exact ⟨C, hx.get _ h3, h4⟩
end
section
variable {P : Program} {B : Bl} {E : Env2} {bl : YB} {ops : List Oper} {kn : List (Nat × YV)} {kv : List (Nat × Value)} {Gs : List RY} {i N : Nat} {β : Nat → Nat} {Q : Exit → Act → World → Prop} {w W V : World} {L T : List Value}
theorem geat {j : Nat} {x : YV} (h : Gs[j]?.bind RY.sv = some x) : (GEs N (Gs.map (RY.ge B β)))[j]? = some (.pr fun v w => B.vd β w x v) := by
 cases hj : Gs[j]? with
 | none => rw [hj] at h; cases h
 | some r =>
  rw [hj] at h
  cases r with
  | val y =>
   cases h
   unfold GEs
   rw [List.getElem?_map, List.getElem?_map, hj]
   rfl
  | box l t => cases h
theorem ZkR : (GEs N (Gs.map (RY.ge B β))).length = Gs.length := by rw [ZmG, List.length_map]
theorem rsY_ok (hk : KS L kv) (hkv : KR B β W kn kv) (hI : Up W V) (hO : ∀ s, outB .any ops.toArray (PDs (GEs N (Gs.map (RY.ge B β)))).length i s = true → T[s]? = L[s]?) (hW : ∀ j, decide (j < (PDs (GEs N (Gs.map (RY.ge B β)))).length) && waits .any ops.toArray i j = true → ∃ v, T[dOf ops.toArray j]? = some v ∧ FP (PDs (GEs N (Gs.map (RY.ge B β)))) j v V)
  {x : Operand} {y : YV} (h : rsY ops Gs.length kn (fun j => Gs[j]?.bind RY.sv) i x = some y) : B.vd β V y (Act.eval { tmps := T.toArray, defers := [] } x) := by
 have key : ∀ {pd : PD}, rslv ops (GEs N (Gs.map (RY.ge B β))) kv i x = some pd → pd.vp (Act.eval { tmps := T.toArray, defers := [] } x) V := fun h => ZeY hk hO hW h
 unfold rsY at h
 unfold rslv at key
 split at h
 ·
  split at h
  ·
   rename_i hj
   simp only [hj] at key
   exact key (geat h)
  ·
   rename_i hj
   simp only [hj] at key
   split at h
   ·
    rename_i ho
    obtain ⟨v, hv, hd⟩ := hkv.get h
    have e := key (pd := .ex v) (by rw [ZkR, if_pos ho, hv]; rfl)
    rw [show Act.eval _ _ = v from e.symm]
    exact Zef (Bl.stab hI) hd
   ·
    cases h
 ·
  cases h
  rfl
 ·
  cases h
  rfl
 ·
  cases h
  rfl
 ·
  cases h
theorem ZgM {f : Operand → Option YV} {ρ : Operand → Value} (hf : ∀ x y, f x = some y → B.vd β V y (ρ x)) : ∀ {rs : List Operand} {xs : List YV}, allY f rs = some xs → B.vds β V xs (rs.map ρ)
 | [], xs, h => by cases h; trivial
 | x :: rs, xs, h => by
  unfold allY at h
  split at h
  ·
   rename_i v vs h1 h2
   cases h
   exact ⟨hf x v h1, ZgM hf h2⟩
  ·
   cases h
theorem Zjo {o : Oper} {c : Bool} (hi : i < Gs.length) (hW : ∀ j, decide (j < (PDs (GEs N (Gs.map (RY.ge B β)))).length) && waits .any ops.toArray i j = true → ∃ v, T[dOf ops.toArray j]? = some v ∧ FP (PDs (GEs N (Gs.map (RY.ge B β)))) j v V) (h : gdY ops (fun j => Gs[j]?.bind RY.sv) i o = some c) : Region.wanted o (yielded ops.toArray T.toArray) = c := by
 unfold gdY at h
 unfold Region.wanted
 split at h
 ·
  rename_i hg
  cases h
  rw [hg]
 ·
  rename_i g b hg
  rw [hg]
  split at h
  ·
   rename_i hc
   simp only [Bool.and_eq_true, decide_eq_true_eq] at hc
   split at h
   ·
    rename_i c0 hgc
    cases h
    have h1 := geat (N := N) (B := B) (β := β) hgc
    obtain ⟨v, hv, hp⟩ := hW g (by rw [Zbg, ZkR, ZfI]; simp [hc.1.2]; omega)
    rw [ZcH h1] at hp
    have hp : v = .bool c0 := hp
    subst hp
    have h2 := hc.2
    unfold dstAt at h2
    cases hog : ops[g]? with
    | none => rw [hog] at h2; cases h2
    | some og =>
     rw [hog] at h2
     obtain ⟨d, hd⟩ := Option.isSome_iff_exists.1 h2
     have hdd : dOf ops.toArray g = d := by
      unfold dOf
      rw [List.getElem?_toArray, hog]
      simp [hd]
     rw [hdd] at hv
     show (yielded ops.toArray T.toArray g == some b) = _
     unfold yielded
     rw [List.getElem?_toArray, hog]
     simp only [Option.bind_some, hd, List.getElem?_toArray, hv]
     cases c0 <;> cases b <;> rfl
   ·
    cases h
  ·
   cases h
theorem ZkS (hE : EnvOK2 P B E w) (hw : Below w.heap.size w W) (hbx : ∀ j l t, bxY bl j = some (l, t) → ∃ C, BX W (β j) C t ∧ B.rd β W l C.toList) (hk : KS L kv) (hkv : KR B β W kn kv) {r : RY} (hs : stepY P E bl ops Gs.length kn (fun j => Gs[j]?.bind RY.sv) i = some r) (hr : Gs[i]? = some r) :
  OpOK P .any ops.toArray Q (Up W) (PDs (GEs W.heap.size (Gs.map (RY.ge B β)))) L [] i := by
 have hi : i < Gs.length := (List.getElem?_eq_some_iff.1 hr).1
 have hpd : (GEs W.heap.size (Gs.map (RY.ge B β)))[i]? = some ((r.ge B β).pd W.heap.size) := by
  unfold GEs
  rw [List.getElem?_map, List.getElem?_map, hr]
  rfl
 unfold stepY at hs
 cases ho : ops[i]? with
 | none => rw [ho] at hs; cases hs
 | some o =>
  rw [ho] at hs
  simp only at hs
  split at hs
  ·
   rename_i hds
   obtain ⟨d, hd⟩ := Option.isSome_iff_exists.1 hds
   have hdd : dOf ops.toArray i = d := by
    unfold dOf
    rw [List.getElem?_toArray, ho]
    simp [hd]
   intro T V K hI hO hW hK
   have hV : Below w.heap.size w V := hw.trans (hI.mono hw.size)
   have hb : ∀ j l t, bxY bl j = some (l, t) → ∃ vs, V.rangeAt (β j) 0 vs ∧ B.rd β V l vs := fun j l t h => by
    obtain ⟨C, h1, h2⟩ := hbx j l t h
    exact ⟨C.toList, Zag (h1.moved hI).heap, ZbZ (Bl.stab hI) h2⟩
   have hρ : ∀ x y, rsY ops Gs.length kn (fun j => Gs[j]?.bind RY.sv) i x = some y → B.vd β V y (Act.eval { tmps := T.toArray, defers := [] } x) := fun x y h => rsY_ok hk hkv hI hO hW h
   refine ZaE ho (fun K' hK' => ?_)
   have fin : ∀ v w', Below V.heap.size V w' → ((r.ge B β).pd W.heap.size).vp v w' → (isAlO o = true → Fr v V w') → K' { tmps := (T.set d v).toArray, defers := [] } w' := fun v w' h1 h2 h3 => by
    have := hK v w' h1 (by rw [ZcH hpd]; exact h2) (fun ha => h3 (by unfold isAl at ha; rw [List.getElem?_toArray, ho] at ha; exact ha))
    rw [hdd] at this
    exact hK' _ _ this
   split at hs
   ·
    cases hs
   ·
    rename_i hg
    split at hs
    ·
     cases hs
    ·
     rename_i ha
     cases hs
     rw [if_neg (by rw [Zjo hi hW hg]; simp), hd, Zaa]
     exact fin _ _ (Below.refl _ _) rfl (fun h => absurd h ha)
   ·
    rename_i hg
    rw [if_pos (Zjo hi hW hg)]
    split at hs
    ·
     rename_i t hop
     obtain ⟨l, hl, rfl⟩ := Option.map_eq_some_iff.1 hs
     obtain ⟨z, h1, h2⟩ := Zji (B := B) hl β V
     have e : (execOp (Act.eval { tmps := T.toArray, defers := [] }) o).run P V = .ok (.value (.pointer (some ⟨V.heap.size, 0, none⟩))) (V.alloc (.cells z.cells t (0, 0))) := by
      refine ZaJ hop ?_
      unfold Instr.alloc
      rw [Sem.run_bind, h1]
      simp only [Result.andThen, newVar, newRow]
      rfl
     unfold Oper.wp
     rw [e]
     show K' _ _
     rw [hd, Zaa]
     exact fin _ _ (Zaq _ _) ⟨_, rfl, hI.size, _, ⟨Zaf _ _⟩, ZbZ (Bl.stab (Zaq _ _)) h2⟩ (fun ha => Zcs ha e)
    ·
     rename_i t x hop
     split at hs
     ·
      rename_i v hv
      split at hs
      ·
       rename_i m hch
       split at hs
       ·
        rename_i hok
        cases hs
        have hx := hρ x _ hv
        have e := Zcl (P := P) (w := V) (ρ := Act.eval { tmps := T.toArray, defers := [] }) hop rfl
        unfold Oper.wp
        rw [e]
        show K' _ _
        rw [hd, Zaa]
        exact fin _ _ (Zaq _ _) ⟨_, rfl, hI.size, _, ⟨Zaf _ _⟩, ZbZ (Bl.stab (Zaq _ _)) (Zjj hch hok hx)⟩ (fun ha => Zcs ha e)
       ·
        cases hs
      ·
       cases hs
     ·
      cases hs
    ·
     rename_i f args tys hop
     have hna : isAlO o = false := by unfold isAlO; rw [hop]
     split at hs
     ·
      rename_i xs hxs
      obtain ⟨y, hy, rfl⟩ := Option.map_eq_some_iff.1 hs
      obtain ⟨hm, hcl⟩ := hE.T f xs y hy
      have h1 := ZgM hρ hxs
      refine ZaN args tys d hop hd (av := (args.toList.map (Act.eval { tmps := T.toArray, defers := [] })).toArray) ?_ hm (hcl β V _ hV h1) ?_
      ·
       apply Array.toList_inj.1
       simp
      ·
       rintro e w' ⟨⟨v, rfl, hv⟩, hb'⟩
       exact ⟨_, rfl, fin _ _ hb' hv (fun ha => by rw [hna] at ha; cases ha)⟩
     ·
      cases hs
    ·
     split at hs
     ·
      rename_i rs hrs
      split at hs
      ·
       rename_i xs hxs
       obtain ⟨y, hy, rfl⟩ := Option.map_eq_some_iff.1 hs
       obtain ⟨hna, v, w', e, hb', hv⟩ := Zjl (ρ := Act.eval { tmps := T.toArray, defers := [] }) hE hV hb hrs (ZgM hρ hxs) hy
       unfold Oper.wp
       rw [e]
       show K' _ _
       rw [hd, Zaa]
       exact fin _ _ hb' hv (fun ha => by rw [hna] at ha; cases ha)
      ·
       cases hs
     ·
      cases hs
  ·
   cases hs
end
def outY : List RY → YB → List YV → YB × List YV
 | [], bl, acc => (bl, acc.reverse)
 | .val x :: r, bl, acc => outY r bl (x :: acc)
 | .box l t :: r, bl, acc => outY r ((l, t) :: bl) (.one (.bp bl.length 0) :: acc)
def nextY (dsts : List Nat) (vals : List YV) (kn : List (Nat × YV)) (live : List Nat) : List (Nat × YV) :=
 live.filterMap fun s => match (dsts.zip vals).lookup s with
  | some v => some (s, v)
  | none => (kn.lookup s).map fun v => (s, v)
def alY (ops : List Oper) : Nat → List RY → Bool
 | _, [] => true
 | i, .val _ :: r => alY ops (i + 1) r
 | i, .box _ _ :: r => isAl ops.toArray i && alY ops (i + 1) r
def opKY (kn : List (Nat × YV)) : Operand → Option YV
 | .tmp s => kn.lookup s
 | .const (.bool b) => some (.one (.cx (.lit b)))
 | .const v => some (.one (.v v))
 | _ => none
def setY (kn : List (Nat × YV)) (d : Nat) (y : YV) : List (Nat × YV) := (d, y) :: kn.filter fun p => p.1 != d
def okRow (E : Env2) (l : List YC) : Bool := match exR l with
 | some vs => E.S vs.toArray
 | none => false
def stY (P : Program) (E : Env2) (st : YSt) (o : Oper) : Option YSt := match o.op, o.guard, o.dst with
 | .store t p x, none, none => match opKY st.kn p, opKY st.kn x with
  | some (.one (.bp j 0)), some v => match bxY st.bl j, chY v with
   | some (l, ty), some m => if (l.length == m.length && szT P t == some m.length && (m.all YC.ok1 && okRow E l)) then some ⟨st.kn, st.bl.set (st.bl.length - 1 - j) (m, ty)⟩ else none
   | _, _ => none
  | _, _ => none
 | _, _, _ => none
def lateY (P : Program) (E : Env2) (N : Nat) (st : YSt) (o : Oper) : Option YSt := match o.guard, o.op, o.dst with
 | none, .assign x, some d => if d < N then (match opKY st.kn x with
  | some v => some ⟨setY st.kn d v, st.bl⟩
  | none => none) else none
 | _, _, _ => stY P E st o
def wfY (st : YSt) : Option YSt := if st.wf then some st else none
def regYN (P : Program) (E : Env2) (N : Nat) (st : YSt) (os : List Oper) (n : Nat) : Option YSt :=
 if chkD .any os.toArray n N then
  match goY P E st.bl os n st.kn n [] with
  | some Gs => if alY os 0 Gs && Gs.all (RY.wf st.bl.length) then
    (let dsts := (List.range n).map (dOf os.toArray)
    match wfY ⟨nextY dsts (outY Gs st.bl []).2 st.kn (dsts ++ (st.kn.map (·.1)).filter (!dsts.contains ·)), (outY Gs st.bl []).1⟩ with
    | some st1 => if n == os.length then some st1
     else if n + 1 == os.length then (match os[n]? with | some o => (lateY P E N st1 o).bind wfY | none => none)
     else if n + 2 == os.length && waits .any os.toArray (n + 1) n then (match os[n]?, os[n + 1]? with | some o, some o2 => ((stY P E st1 o).bind wfY).bind fun st2 => (lateY P E N st2 o2).bind wfY | _, _ => none)
     else none
    | none => none) else none
  | none => none
 else none
section
variable {P : Program} {B : Bl} {E : Env2} {β : Nat → Nat} {w W V : World} {L : List Value} {N : Nat} {st st' : YSt}
theorem Zjp : ∀ {l m : List YV} {vs us : List Value}, B.vds β w l vs → B.vds β w m us → B.vds β w (l ++ m) (vs ++ us)
 | [], _, [], _, _, h => h
 | _ :: _, _, _ :: _, _, h1, h2 => ⟨h1.1, Zjp h1.2 h2⟩
 | [], _, _ :: _, _, h, _ => h.elim
 | _ :: _, _, [], _, h, _ => h.elim
theorem Zjq : ∀ {l : List YV} {vs : List Value}, B.vds β w l vs → B.vds β w l.reverse vs.reverse
 | [], [], _ => trivial
 | _ :: _, _ :: _, h => by
  rw [List.reverse_cons, List.reverse_cons]
  exact Zjp (Zjq h.2) ⟨h.1, trivial⟩
 | [], _ :: _, h => h.elim
 | _ :: _, [], h => h.elim
theorem Zjr {β' : Nat → Nat} {n : Nat} (e : ∀ j, j < n → β j = β' j) : ∀ {l : List YV} {vs : List Value}, (∀ x ∈ l, x.wf n = true) → B.vds β w l vs → B.vds β' w l vs
 | [], [], _, _ => trivial
 | _ :: _, _ :: _, hw, h => ⟨Ze9 e (hw _ List.mem_cons_self) h.1, Zjr e (fun x hx => hw x (List.mem_cons_of_mem _ hx)) h.2⟩
 | [], _ :: _, _, h => h.elim
 | _ :: _, [], _, h => h.elim
theorem Zjs {c : YC} {n m : Nat} (hm : n ≤ m) (h : c.wf n = true) : c.wf m = true := by
 cases c <;> simp_all [YC.wf]
 omega
theorem ZgN {l : List YC} {n m : Nat} (hm : n ≤ m) (h : l.all (YC.wf n) = true) : l.all (YC.wf m) = true := by
 rw [List.all_eq_true] at h ⊢
 exact fun c hc => Zjs hm (h c hc)
theorem Zfr : ∀ {x : YV} {n m : Nat}, n ≤ m → x.wf n = true → x.wf m = true
 | .row _, _, _, hm, h => ZgN hm h
 | .one _, _, _, hm, h => Zjs hm h
 | .tup _ _, _, _, hm, h => by
  simp only [YV.wf, Bool.and_eq_true] at h ⊢
  exact ⟨Zfr hm h.1, Zfr hm h.2⟩
theorem ZmH {bl : YB} {n m : Nat} (hm : n ≤ m) (h : (bl.all fun p => p.1.all (YC.wf n)) = true) : (bl.all fun p => p.1.all (YC.wf m)) = true := by
 rw [List.all_eq_true] at h ⊢
 exact fun p hp => ZgN hm (h p hp)
theorem Zjt {ops : List Oper} : ∀ (Gs : List RY) (i : Nat), alE ops.toArray i (Gs.map (RY.ge B β)) = alY ops i Gs
 | [], _ => rfl
 | .val _ :: r, i => Zjt r (i + 1)
 | .box _ _ :: r, i => by
  show (isAl ops.toArray i && alE ops.toArray (i + 1) (r.map (RY.ge B β))) = _
  rw [Zjt r (i + 1)]
  rfl
theorem Zju {n0 : Nat} {β0 : Nat → Nat} {nk : List Value → List Nat → List (Nat × Value)} {R : List Value → Prop} : ∀ (Gs : List RY) (bl : YB) (acc : List YV) (bv : Bxs) (av : List Value) (β : Nat → Nat), (∀ j, j < n0 → β0 j = β j) → n0 ≤ bl.length → Gs.all (RY.wf n0) = true → (∀ x ∈ acc, x.wf bl.length = true) → (bl.all fun p => p.1.all (YC.wf bl.length)) = true → BR B β V bl bv → B.vds β V acc av →
  (∀ β' bv' av', (∀ j, j < bl.length → β' j = β j) → BR B β' V (outY Gs bl acc).1 bv' → B.vds β' V (outY Gs bl acc).2 av' → ∀ L, GT w V L N (nk av') bv' → R L) → EndE w V N nk R (Gs.map (RY.ge B β0)) av bv
 | [], bl, acc, bv, av, β, _, _, _, _, _, hb, hv, h => fun L hL => h β bv av.reverse (fun _ _ => rfl) hb (Zjq hv) L hL
 | .val x :: Gs, bl, acc, bv, av, β, he, hn, hw, ha, hbw, hb, hv, h => by
  rw [List.all_cons, Bool.and_eq_true] at hw
  intro v hx
  exact Zju Gs bl (x :: acc) bv (v :: av) β he hn hw.2 (fun y hy => by
   rcases List.mem_cons.1 hy with rfl | hy
   ·
    exact Zfr hn hw.1
   ·
    exact ha y hy) hbw hb ⟨Ze9 he hw.1 hx, hv⟩ h
 | .box l t :: Gs, bl, acc, bv, av, β, he, hn, hw, ha, hbw, hb, hv, h => by
  rw [List.all_cons, Bool.and_eq_true] at hw
  intro b C hC
  let β1 : Nat → Nat := fun j => if j = bl.length then b else β j
  have e1 : ∀ j, j < bl.length → β j = β1 j := fun j hj => by show β j = if j = bl.length then b else β j; rw [if_neg (by omega)]
  have e0 : ∀ j, j < n0 → β0 j = β1 j := fun j hj => (he j hj).trans (e1 j (by omega))
  have eB : β1 bl.length = b := if_pos rfl
  refine Zju Gs ((l, t) :: bl) (.one (.bp bl.length 0) :: acc) ((b, C, t) :: bv) (pv b 0 :: av) β1 e0 (by rw [List.length_cons]; omega) hw.2 (fun y hy => ?_) ?_ ⟨eB.symm, rfl, Zh2 e0 hw.1 hC, BR.ext e1 (Nat.le_refl _) hbw hb⟩ ⟨?_, Zjr e1 ha hv⟩ (fun β' bv' av' hβ => h β' bv' av' fun j hj => (hβ j (by rw [List.length_cons]; omega)).trans (e1 j hj).symm)
  ·
   rw [List.length_cons]
   rcases List.mem_cons.1 hy with rfl | hy
   ·
    simp [YV.wf, YC.wf]
   ·
    exact Zfr (by omega) (ha y hy)
  ·
   rw [List.length_cons, List.all_cons, Bool.and_eq_true]
   exact ⟨ZgN (by omega) hw.1, ZmH (by omega) hbw⟩
  ·
   show pv b 0 = .pointer (some ⟨β1 bl.length, 0, none⟩)
   rw [eB]
   rfl
theorem zipY {s : Nat} : ∀ {ds : List Nat} {ys : List YV} {vs : List Value}, B.vds β w ys vs → match (ds.zip ys).lookup s with
  | some y => ∃ v, (ds.zip vs).lookup s = some v ∧ B.vd β w y v
  | none => (ds.zip vs).lookup s = none
 | [], _, _, _ => by simp
 | _ :: _, [], [], _ => by simp
 | d :: ds, y :: ys, v :: vs, h => by
  rw [List.zip_cons_cons, List.zip_cons_cons, List.lookup_cons, List.lookup_cons]
  by_cases hs : s == d
  ·
   simp only [hs]
   exact ⟨v, rfl, h.1⟩
  ·
   rw [Bool.not_eq_true] at hs
   simp only [hs]
   exact zipY h.2
 | _ :: _, [], _ :: _, h => h.elim
 | _ :: _, _ :: _, [], h => h.elim
theorem Zjv {ds : List Nat} {ys : List YV} {vs : List Value} {kn : List (Nat × YV)} {kv : List (Nat × Value)} (hv : B.vds β w ys vs) (hk : KR B β w kn kv) : ∀ (live : List Nat), KR B β w (nextY ds ys kn live) (nextK ds vs kv live)
 | [] => trivial
 | s :: live => by
  have ih := Zjv (ds := ds) hv hk live
  unfold nextY nextK at ih ⊢
  rw [List.filterMap_cons, List.filterMap_cons]
  have h1 := zipY (ds := ds) (s := s) hv
  cases hz : (ds.zip ys).lookup s with
  | some y =>
   rw [hz] at h1
   obtain ⟨v, h2, h3⟩ := h1
   simp only [h2]
   exact ⟨rfl, h3, ih⟩
  | none =>
   rw [hz] at h1
   simp only at h1
   simp only [h1]
   cases hl : kn.lookup s with
   | some y =>
    obtain ⟨v, h2, h3⟩ := hk.get hl
    simp only [h2, Option.map_some]
    exact ⟨rfl, h3, ih⟩
   | none =>
    have h2 := KR.lookup hk (s := s) (Or.inr hl)
    rw [hl] at h2
    simp only at h2
    simp only [h2, Option.map_none]
    exact ih
theorem KR.filter {d : Nat} : ∀ {kn : List (Nat × YV)} {kv : List (Nat × Value)}, KR B β w kn kv → KR B β w (kn.filter fun p => p.1 != d) (kv.filter fun p => p.1 != d)
 | [], [], _ => trivial
 | (s, y) :: r, (s', v) :: r', h => by
  obtain ⟨rfl, h1, h2⟩ := h
  rw [List.filter_cons, List.filter_cons]
  split
  ·
   exact ⟨rfl, h1, KR.filter h2⟩
  ·
   exact KR.filter h2
 | [], _ :: _, h => h.elim
 | _ :: _, [], h => h.elim
structure SY (B : Bl) (β : Nat → Nat) (w W : World) (L : List Value) (N : Nat) (st : YSt) : Prop where
 ex : ∃ kv bv, GS w W L N kv bv ∧ KR B β W st.kn kv ∧ BR B β W st.bl bv
 wf : st.wf = true
theorem Zh3 {s s' : YSt} (h : wfY s = some s') : s = s' ∧ s'.wf = true := by
 unfold wfY at h
 split at h
 ·
  rename_i hw
  cases h
  exact ⟨rfl, hw⟩
 ·
  cases h
theorem Zfs {kv : List (Nat × Value)} (hk : KS L kv) (hr : KR B β W st.kn kv) {x : Operand} {v : YV} (h : opKY st.kn x = some v) : B.vd β W v (Act.eval (Tm L) x) := by
 unfold opKY at h
 split at h
 ·
  obtain ⟨u, h1, h2⟩ := hr.get h
  rw [Zam (hk.get h1)]
  exact h2
 ·
  cases h; rfl
 ·
  cases h; rfl
 ·
  cases h
theorem SY.up (S : SY B β w W L N st) : Below w.heap.size w W := by
 obtain ⟨kv, bv, h, -, -⟩ := S.ex
 exact h.up
theorem ZlQ (hE : EnvOK2 P B E w) {o : Oper} {Q : Exit → Act → World → Prop} {K : Act → World → Prop} (h : (stY P E st o).bind wfY = some st') (S : SY B β w W L N st) (hK : ∀ V, SY B β w V L N st' → K (Tm L) V) : o.guard = none ∧ o.wp P (Tm L) W K Q := by
 cases hs : stY P E st o with
 | none => rw [hs] at h; cases h
 | some s1 =>
  rw [hs] at h
  obtain ⟨e1, hw⟩ := Zh3 (show wfY s1 = some st' from h)
  subst e1
  unfold stY at hs
  split at hs
  ·
   rename_i t p x hop hg hd
   split at hs
   ·
    rename_i j v hp hv
    split at hs
    ·
     rename_i l ty m hbx hch
     split at hs
     ·
      rename_i hc
      cases hs
      simp only [Bool.and_eq_true, beq_iff_eq] at hc
      obtain ⟨⟨hn, hz⟩, hok, hty⟩ := hc
      obtain ⟨kv, bv, G, hk, hb⟩ := S.ex
      obtain ⟨hj, hat⟩ := ZlP hbx
      obtain ⟨C, hbd, hC⟩ := hb.at_ hat
      have hty : B.bt C = true := by
       unfold okRow at hty
       split at hty
       ·
        rename_i vs hvs
        have e := Zjg hvs hC
        rw [← e, Array.toArray_toList] at hty
        exact hE.S _ hty
       ·
        cases hty
      rw [show st.bl.length - 1 - (st.bl.length - 1 - j) = j by omega] at hbd
      have hB := G.bx.get _ hbd
      have hX := Zjj hch hok (Zfs G.ks hk hv)
      have hXl := Zeg hX
      have hsz : C.size = (Act.eval (Tm L) x).cells.size := by rw [← Array.length_toList, ← Array.length_toList, hXl, Zeg hC, hn]
      refine ⟨hg, st_wp (Act.eval (Tm L) x).cells rfl hB hsz (by rw [← Array.length_toList, hXl]; exact hz) (by have := rd_one hX hok; rwa [Array.toArray_toList] at this) (Zfs G.ks hk hp) rfl (fun V hb' hx => hK V ⟨⟨kv, bv.set (st.bl.length - 1 - j) (β j, (Act.eval (Tm L) x).cells, ty), ⟨G.up.trans (hb'.below.mono (G.nw _ (List.mem_of_getElem? hbd))), G.len, G.ks, G.bx.put _ hb' hx hbd, ?_⟩, ?_, ?_⟩, hw⟩) hop hd⟩
      ·
       intro z hz
       rcases List.mem_or_eq_of_mem_set hz with h | rfl
       ·
        exact G.nw z h
       ·
        exact (G.nw _ (List.mem_of_getElem? hbd) : w.heap.size ≤ β j)
      ·
       exact hk.mono (Bl.put hty hsz hB hb' hx)
      ·
       have := (BR.mono (Bl.put hty hsz hB hb' hx) hb).set hat (C := (Act.eval (Tm L) x).cells) (ZbZ (Bl.put hty hsz hB hb' hx) hX)
       rwa [show st.bl.length - 1 - (st.bl.length - 1 - j) = j by omega] at this
     ·
      cases hs
    ·
     cases hs
   ·
    cases hs
  ·
   cases hs
theorem ZlR (hE : EnvOK2 P B E w) {ops : List Oper} {i : Nat} {o : Oper} {Q : Exit → Act → World → Prop} {K : Act → World → Prop} (h : (stY P E st o).bind wfY = some st') (S : SY B β w W L N st) (hK : ∀ V, SY B β w V L N st' → K (Tm L) V) (ho : ops[i]? = some o) : wpOp P ops.toArray Q i K (Tm L) W := by
 refine ZaE ho (fun K' hK' => ?_)
 obtain ⟨hg, hw⟩ := ZlQ (Q := Q) hE h S (fun V hS => hK' _ _ (hK V hS))
 rw [if_pos (by unfold Region.wanted; rw [hg])]
 exact hw
theorem SY.set (S : SY B β w W L N st) {d : Nat} {y : YV} {v : Value} (hd : d < N) (hv : B.vd β W y v) (hw : YSt.wf ⟨setY st.kn d y, st.bl⟩ = true) : SY B β w W (L.set d v) N ⟨setY st.kn d y, st.bl⟩ := by
 obtain ⟨kv, bv, G, hk, hb⟩ := S.ex
 exact ⟨⟨(d, v) :: kv.filter fun p => p.1 != d, bv, ⟨G.up, by rw [List.length_set]; exact G.len, ⟨by simp [G.len, hd], G.ks.filter⟩, G.bx, G.nw⟩, ⟨rfl, hv, hk.filter⟩, hb⟩, hw⟩
theorem Zh4 (hE : EnvOK2 P B E w) {ops : List Oper} {i : Nat} {o : Oper} {Q : Exit → Act → World → Prop} {K : Act → World → Prop} (h : (lateY P E N st o).bind wfY = some st') (S : SY B β w W L N st) (hK : ∀ V L', SY B β w V L' N st' → K (Tm L') V) (ho : ops[i]? = some o) : wpOp P ops.toArray Q i K (Tm L) W := by
 unfold lateY at h
 split at h
 ·
  rename_i x d hg hop hd
  split at h
  ·
   rename_i hdN
   split at h
   ·
    rename_i v hv
    obtain ⟨e1, hw⟩ := Zh3 (show wfY ⟨setY st.kn d v, st.bl⟩ = some st' from h)
    subst e1
    obtain ⟨kv, bv, G, hk, hb⟩ := S.ex
    refine ZaE ho (fun K' hK' => ?_)
    rw [if_pos (by unfold Region.wanted; rw [hg])]
    unfold Oper.wp
    rw [Zbl (ρ := Act.eval (Tm L)) hop rfl]
    show K' _ _
    rw [hd, Zaa]
    exact hK' _ _ (hK W _ (S.set hdN (Zfs G.ks hk hv) hw))
   ·
    cases h
  ·
   cases h
 ·
  exact ZlR hE h S (fun V hS => hK V L hS) ho
end
end Go.Proofs.YtcbdbnfgnonacaaGreat
