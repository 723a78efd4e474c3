/-
 Sums of points by numbers.
-/
import Derived.Test.YtcbdbnfgnonacaaGreatCurveBasesC34
set_option maxRecDepth 100000
namespace Go.Proofs.YtcbdbnfgnonacaaGreat.P6
open Go.RowKit Go.Shelf
abbrev P3 := K × K × Bool
theorem Zdm {w : World} {g p m : Nat} {b : K} (hG : GAt w g p m b) (x y : K) (hx : Fits x) (hy : Fits y) (i : Bool) {e0 : Int} (h : goodN m b x y i = e0) : Calls Tryz.prog 127 #[.pointer (some ⟨g, 0, none⟩), .agg (pt x y i)] w fun e w' => e = .returned (.int .i64 e0) ∧ Below w.heap.size w w' := by
 rw [← h]
 exact Zc6 hG x y hx hy i
theorem Zbv (m : Nat) (b x y : K) (i : Bool) : goodN m b x y i = 0 ∨ goodN m b x y i = 70 ∨ goodN m b x y i = 71 := by
 unfold goodN
 repeat' split
 all_goals simp
def timesP (m : Nat) (x y : K) (i : Bool) (k : Nat) : T3 := if i = true then (k1, k1, k0) else timesS m (x, y) k
theorem Zdn {w : World} {g p m : Nat} {b : K} (hG : GAt w g p m b) (x y : K) (hx : Fits x) (hy : Fits y) (i : Bool) (k : Nat) (hk : k < 2 ^ 256) : Calls Tryz.prog 171 #[.pointer (some ⟨g, 0, none⟩), .agg (pt x y i), .agg (W4.cs (limb k))] w fun e w' => e = .returned (.agg (scS m (timesP m x y i k))) ∧ Below w.heap.size w w' := by
 cases i with
 | true => exact Zcf hG x y k
 | false => exact Zcg hG x y hx hy k hk
structure GB (w : World) (g : Nat) (x y : K) (k : Nat) : Prop where
 base : w.rangeAt g (1 + 3 * 6) (pt x y false).toList
 ord : w.rangeAt g (2 + 5 * 6) (W4.cs (limb k)).toList
 lt : g < w.heap.size
theorem GB.below {w w' : World} {g k : Nat} {x y : K} (h : GB w g x y k) (hb : Below w.heap.size w w') : GB w' g x y k :=
 ⟨Za0 (hb.block _ h.lt) h.base, Za0 (hb.block _ h.lt) h.ord, Nat.lt_of_lt_of_le h.lt hb.size⟩
structure CAt (w : World) (c g p m : Nat) (b bx bY : K) (k : Nat) : Prop where
 at_ : w.cell? ⟨c, 1, none⟩ = some (.pointer (some ⟨g, 0, none⟩))
 ga : GAt w g p m b
 gb : GB w g bx bY k
 clt : c < w.heap.size
theorem CAt.below {w w' : World} {c g p m : Nat} {b bx bY : K} {k : Nat} (h : CAt w c g p m b bx bY k) (hb : Below w.heap.size w w') : CAt w' c g p m b bx bY k :=
 ⟨(hb.cell (p := ⟨c, 1, none⟩) h.clt).trans h.at_, h.ga.below hb, h.gb.below hb, Nat.lt_of_lt_of_le h.clt hb.size⟩
theorem ZbI {P : Program} {op : Oper} {l : List Value} {ds : List Deferred} {w : World} {K : Act → World → Prop} {Q : Exit → Act → World → Prop} (t : TypeId) (ps : Array (Nat × Operand)) (vs : Array (Nat × Value)) (d : Nat) (ho : op.op = .build t ps) (hd : op.dst = some d)
  (hps : ps.map (fun x => (x.1, Act.eval { tmps := l.toArray, defers := ds } x.2)) = vs) {v : Value} (hb : (Instr.build t vs).run P w = .ok v w) (h : K { tmps := (l.set d v).toArray, defers := ds } w) : op.wp P { tmps := l.toArray, defers := ds } w K Q := by
 unfold Oper.wp execOp
 simp only [ho, hps, hb, Sem.run_bind, Sem.run_pure, Result.andThen]
 show K _ _
 rw [hd, Zab]
 exact h
end Go.Proofs.YtcbdbnfgnonacaaGreat.P6
namespace Go.Proofs.YtcbdbnfgnonacaaGreat.Q6
open Go.RowKit Go.Shelf
abbrev K := Nat × Nat
noncomputable def ev (m : Nat) (x : K) : Array Value := Classical.choose (⟨_, rfl⟩ : ∃ C : Array Value, C = P6.ev m x.1 ++ P6.ev m x.2)
theorem Zbc (m : Nat) (x : K) : ev m x = P6.ev m x.1 ++ P6.ev m x.2 := Classical.choose_spec (⟨_, rfl⟩ : ∃ C : Array Value, C = P6.ev m x.1 ++ P6.ev m x.2)
noncomputable def nv (x : K) : Array Value := Classical.choose (⟨_, rfl⟩ : ∃ C : Array Value, C = P6.nv x.1 ++ P6.nv x.2)
theorem Za3 (x : K) : nv x = P6.nv x.1 ++ P6.nv x.2 := Classical.choose_spec (⟨_, rfl⟩ : ∃ C : Array Value, C = P6.nv x.1 ++ P6.nv x.2)
def Fits (x : K) : Prop := P6.Fits x.1 ∧ P6.Fits x.2
def rest (m : Nat) (x : K) : K := (P6.rest m x.1, P6.rest m x.2)
def kadd (m : Nat) (x y : K) : K := (P6.kadd m x.1 y.1, P6.kadd m x.2 y.2)
def ksub (m : Nat) (x y : K) : K := (P6.ksub m x.1 y.1, P6.ksub m x.2 y.2)
def kneg (m : Nat) (x : K) : K := (P6.kneg m x.1, P6.kneg m x.2)
def kmul (m : Nat) (x y : K) : K :=
 (P6.ksub m (P6.kmul m x.1 y.1) (P6.kmul m x.2 y.2), P6.ksub m (P6.ksub m (P6.kmul m (P6.kadd m x.1 x.2) (P6.kadd m y.1 y.2)) (P6.kmul m x.1 y.1)) (P6.kmul m x.2 y.2))
def kinv (m : Nat) (x : K) : K :=
 (P6.kmul m x.1 (P6.kinv m (P6.kadd m (P6.kmul m x.1 x.1) (P6.kmul m x.2 x.2))), P6.kneg m (P6.kmul m x.2 (P6.kinv m (P6.kadd m (P6.kmul m x.1 x.1) (P6.kmul m x.2 x.2)))))
def k0 : K := (0, 0)
def k1 : K := (1, 0)
theorem Zau (m : Nat) (x : K) : (ev m x).size = 2 * 6 := by rw [Zbc, Array.size_append, P6.Zau, P6.Zau]
theorem Zai (x : K) : (nv x).size = 2 * 6 := by rw [Za3, Array.size_append, P6.Zai, P6.Zai]
theorem ZeC {A B : Array Value} (h1 : A.all (·.oneCell') = true) (h2 : B.all (·.oneCell') = true) : (A ++ B).all (·.oneCell') = true := by
 rw [Array.all_append, h1, h2]; rfl
theorem Zbl (m : Nat) (x : K) : (ev m x).all (·.oneCell') = true := by rw [Zbc]; exact ZeC (P6.Zbl _ _) (P6.Zbl _ _)
theorem Zb1 (x : K) : (nv x).all (·.oneCell') = true := by rw [Za3]; exact ZeC (P6.Zb1 _) (P6.Zb1 _)
theorem underQ : Tryz.prog.underlying 56 = some (.array 2 28) := by kernel_rfl
abbrev FOK (w : World) (p m : Nat) : Prop := W6.Good w p m
structure RAt (w : World) (p m : Nat) : Prop where
 ok : FOK w p m
 plt : p < w.heap.size
theorem RAt.below {w w' : World} {p m : Nat} (h : RAt w p m) (hb : Below w.heap.size w w') : RAt w' p m := ⟨h.ok.of_same (hb.block _ h.plt), Nat.lt_of_lt_of_le h.plt hb.size⟩
def szq : Nat → Nat := fun _ => 6
noncomputable abbrev alq (m p : Nat) (v : Nat → Nat) : Al szq where
 K := Nat
 v := v
 c := fun _ => 0
 u := fun k x => match k with
  | 0 => P6.kneg m x
  | 1 => P6.kinv m x
  | _ => P6.rest m x
 b := fun k x y => match k with
  | 0 => P6.kadd m x y
  | 1 => P6.ksub m x y
  | _ => P6.kmul m x y
 cells := fun k x => match k with
  | 0 => P6.ev m x
  | _ => P6.nv x
 hs := fun k x => match k with
  | 0 => P6.Zau m x
  | _ + 1 => P6.Zai x
 h1 := fun k x => match k with
  | 0 => P6.Zbl m x
  | _ + 1 => P6.Zb1 x
 lk := fun _ _ _ => false
 bo := fun _ => false
 xb := fun _ => p
 ov := fun _ => .bool false
 ho := fun _ => ⟨rfl, rfl⟩
def rT (fl : Nat → Bool) (f : Nat) (xs : List SV) : Option SV := match xs with
 | [.one (.xp 0 0), .row [.e 0 x], .row [.e 0 y]] => if f = 293 then some (.row [.e 0 (.b 0 x y)]) else if f = 297 then some (.row [.e 0 (.b 1 x y)]) else if f = 295 then some (.row [.e 0 (.b 2 x y)]) else none
 | [.one (.xp 0 0), .row [.e 0 x]] => if f = 296 then some (.row [.e 0 (.u 0 x)]) else if f = 294 then some (.row [.e 0 (.u 1 x)]) else if f = 212 then some (.row [.e 1 (.u 2 x)]) else none
 | [.one (.xp 0 0), .row [.e 1 (.v i)]] => if f = 211 ∧ fl i = true then some (.row [.e 0 (.v i)]) else none
 | _ => none
section
variable {w : World} {p m : Nat} (hG : RAt w p m) {fl : Nat → Bool} (v : Nat → Nat)
theorem h_e (x : EX) (β : Nat → Nat) : ((alq m p v).rw β [.e 0 x]).toArray = P6.ev m ((alq m p v).d x) := by simp [Al.rw, Al.ch, alq]
theorem h_n (x : EX) (β : Nat → Nat) : ((alq m p v).rw β [.e 1 x]).toArray = P6.nv ((alq m p v).d x) := by simp [Al.rw, Al.ch, alq]
include hG
theorem Zkx (hv : ∀ i, fl i = true → P6.Fits (v i)) : TOK Tryz.prog (alq m p v) (rT fl) w := fun f xs y β V h hV => by
 have H := (hG.below hV).ok
 unfold rT at h
 split at h
 ·
  split at h
  ·
   rename_i e; subst e; cases h; refine ⟨en Tryz.func293, ?_⟩; simp only [Al.sv, List.map_cons, List.map_nil, h_e]; exact P6.Zf4 H _ _
  ·
   split at h
   ·
    rename_i e; subst e; cases h; refine ⟨en Tryz.func297, ?_⟩; simp only [Al.sv, List.map_cons, List.map_nil, h_e]; exact P6.Zf5 H _ _
   ·
    split at h
    ·
     rename_i e; subst e; cases h; refine ⟨en Tryz.func295, ?_⟩; simp only [Al.sv, List.map_cons, List.map_nil, h_e]; exact P6.Zf6 H _ _
    ·
     cases h
 ·
  split at h
  ·
   rename_i e; subst e; cases h; refine ⟨en Tryz.func296, ?_⟩; simp only [Al.sv, List.map_cons, List.map_nil, h_e]; exact P6.Zf7 H _
  ·
   split at h
   ·
    rename_i e; subst e; cases h; refine ⟨en Tryz.func294, ?_⟩; simp only [Al.sv, List.map_cons, List.map_nil, h_e]; exact P6.Zf8 H _
   ·
    split at h
    ·
     rename_i e; subst e; cases h; refine ⟨en Tryz.func212, ?_⟩; simp only [Al.sv, List.map_cons, List.map_nil, h_e, h_n]; exact P6.Zf9 H _
    ·
     cases h
 ·
  split at h
  ·
   rename_i e; obtain ⟨rfl, hi⟩ := e; cases h; refine ⟨en Tryz.func211, ?_⟩; simp only [Al.sv, List.map_cons, List.map_nil, h_e, h_n]; exact P6.c_In H _ (hv _ hi)
  ·
   cases h
 ·
  cases h
theorem Zch (hv : ∀ i, fl i = true → P6.Fits (v i)) {f : Nat} {fn : Func} (hf : Tryz.prog.funcs[f]? = some fn) {args : List SV} {y : SV} (h : runS Tryz.prog szq (env0 (rT fl)) fn 100 args = some y) : Calls Tryz.prog f (args.map ((alq m p v).sv fun _ => 0)).toArray w fun e w' => e = .returned ((alq m p v).sv (fun _ => 0) y) ∧ Below w.heap.size w w' :=
 Zeh (by kernel_rfl) (Zd1 (Zkx hG v hv)) hf h
end
abbrev rcE : SV := .row [.s (.xp 0 0)]
def qv (x y : K) : Nat → Nat
 | 0 => x.1
 | 1 => x.2
 | 2 => y.1
 | _ => y.2
section
variable {p m : Nat} {v : Nat → Nat}
theorem Zdo : (alq m p v).sv (fun _ => 0) rcE = .agg #[.pointer (some ⟨p, 0, none⟩)] := rfl
theorem sq_e (x y : EX) : (alq m p v).sv (fun _ => 0) (.row [.e 0 x, .e 0 y]) = .agg (ev m ((alq m p v).d x, (alq m p v).d y)) := by
 rw [Al.sv, Zbc]
 congr 1
 apply Array.toList_inj.1
 simp [Al.rw, Al.ch]
theorem sq_n (x y : EX) : (alq m p v).sv (fun _ => 0) (.row [.e 1 x, .e 1 y]) = .agg (nv ((alq m p v).d x, (alq m p v).d y)) := by
 rw [Al.sv, Za3]
 congr 1
 apply Array.toList_inj.1
 simp [Al.rw, Al.ch]
end
set_option maxRecDepth 100000
theorem qAdd {w : World} {p m : Nat} (hG : RAt w p m) (x y : K) : Calls Tryz.prog 302 #[.agg #[.pointer (some ⟨p, 0, none⟩)], .agg (ev m x), .agg (ev m y)] w fun e w' => e = .returned (.agg (ev m (kadd m x y))) ∧ Below w.heap.size w w' := by
 have := Zch hG (fl := fun _ => false) (qv x y) (fun _ h => by cases h) Tryz.func302 (args := [rcE, .row [.e 0 (.v 0), .e 0 (.v 1)], .row [.e 0 (.v 2), .e 0 (.v 3)]]) (y := .row [.e 0 (.b 0 (.v 0) (.v 2)), .e 0 (.b 0 (.v 1) (.v 3))]) (by kernel_rfl)
 simp only [List.map_cons, List.map_nil, Zdo, sq_e] at this
 exact this
theorem qSub {w : World} {p m : Nat} (hG : RAt w p m) (x y : K) : Calls Tryz.prog 308 #[.agg #[.pointer (some ⟨p, 0, none⟩)], .agg (ev m x), .agg (ev m y)] w fun e w' => e = .returned (.agg (ev m (ksub m x y))) ∧ Below w.heap.size w w' := by
 have := Zch hG (fl := fun _ => false) (qv x y) (fun _ h => by cases h) Tryz.func308 (args := [rcE, .row [.e 0 (.v 0), .e 0 (.v 1)], .row [.e 0 (.v 2), .e 0 (.v 3)]]) (y := .row [.e 0 (.b 1 (.v 0) (.v 2)), .e 0 (.b 1 (.v 1) (.v 3))]) (by kernel_rfl)
 simp only [List.map_cons, List.map_nil, Zdo, sq_e] at this
 exact this
theorem qNeg {w : World} {p m : Nat} (hG : RAt w p m) (x : K) : Calls Tryz.prog 306 #[.agg #[.pointer (some ⟨p, 0, none⟩)], .agg (ev m x)] w fun e w' => e = .returned (.agg (ev m (kneg m x))) ∧ Below w.heap.size w w' := by
 have := Zch hG (fl := fun _ => false) (qv x x) (fun _ h => by cases h) Tryz.func306 (args := [rcE, .row [.e 0 (.v 0), .e 0 (.v 1)]]) (y := .row [.e 0 (.u 0 (.v 0)), .e 0 (.u 0 (.v 1))]) (by kernel_rfl)
 simp only [List.map_cons, List.map_nil, Zdo, sq_e] at this
 exact this
theorem qIn {w : World} {p m : Nat} (hG : RAt w p m) (x : K) (hx : Fits x) : Calls Tryz.prog 303 #[.agg #[.pointer (some ⟨p, 0, none⟩)], .agg (nv x)] w fun e w' => e = .returned (.agg (ev m (x))) ∧ Below w.heap.size w w' := by
 have := Zch hG (fl := fun i => i == 0 || i == 1) (qv x x) (fun i h => by match i, h with | 0, _ => exact hx.1 | 1, _ => exact hx.2) Tryz.func303 (args := [rcE, .row [.e 1 (.v 0), .e 1 (.v 1)]]) (y := .row [.e 0 (.v 0), .e 0 (.v 1)]) (by kernel_rfl)
 simp only [List.map_cons, List.map_nil, Zdo, sq_e, sq_n] at this
 exact this
theorem qOut {w : World} {p m : Nat} (hG : RAt w p m) (x : K) : Calls Tryz.prog 307 #[.agg #[.pointer (some ⟨p, 0, none⟩)], .agg (ev m x)] w fun e w' => e = .returned (.agg (nv (rest m x))) ∧ Below w.heap.size w w' := by
 have := Zch hG (fl := fun _ => false) (qv x x) (fun _ h => by cases h) Tryz.func307 (args := [rcE, .row [.e 0 (.v 0), .e 0 (.v 1)]]) (y := .row [.e 1 (.u 2 (.v 0)), .e 1 (.u 2 (.v 1))]) (by kernel_rfl)
 simp only [List.map_cons, List.map_nil, Zdo, sq_e, sq_n] at this
 exact this
theorem qMul {w : World} {p m : Nat} (hG : RAt w p m) (x y : K) : Calls Tryz.prog 305 #[.agg #[.pointer (some ⟨p, 0, none⟩)], .agg (ev m x), .agg (ev m y)] w fun e w' => e = .returned (.agg (ev m (kmul m x y))) ∧ Below w.heap.size w w' := by
 have := Zch hG (fl := fun _ => false) (qv x y) (fun _ h => by cases h) Tryz.func305 (args := [rcE, .row [.e 0 (.v 0), .e 0 (.v 1)], .row [.e 0 (.v 2), .e 0 (.v 3)]]) (y := .row [.e 0 (.b 1 (.b 2 (.v 0) (.v 2)) (.b 2 (.v 1) (.v 3))), .e 0 (.b 1 (.b 1 (.b 2 (.b 0 (.v 0) (.v 1)) (.b 0 (.v 2) (.v 3))) (.b 2 (.v 0) (.v 2))) (.b 2 (.v 1) (.v 3)))]) (by kernel_rfl)
 simp only [List.map_cons, List.map_nil, Zdo, sq_e] at this
 exact this
theorem qInv {w : World} {p m : Nat} (hG : RAt w p m) (x : K) : Calls Tryz.prog 304 #[.agg #[.pointer (some ⟨p, 0, none⟩)], .agg (ev m x)] w fun e w' => e = .returned (.agg (ev m (kinv m x))) ∧ Below w.heap.size w w' := by
 have := Zch hG (fl := fun _ => false) (qv x x) (fun _ h => by cases h) Tryz.func304 (args := [rcE, .row [.e 0 (.v 0), .e 0 (.v 1)]]) (y := .row [.e 0 (.b 2 (.v 0) (.u 1 (.b 0 (.b 2 (.v 0) (.v 0)) (.b 2 (.v 1) (.v 1))))), .e 0 (.u 0 (.b 2 (.v 1) (.u 1 (.b 0 (.b 2 (.v 0) (.v 0)) (.b 2 (.v 1) (.v 1))))))]) (by kernel_rfl)
 simp only [List.map_cons, List.map_nil, Zdo, sq_e] at this
 exact this
def ifv (p : Nat) : Value := .iface 151 (.agg #[.pointer (some ⟨p, 0, none⟩)])
def rcv (p : Nat) : Value := .agg #[.pointer (some ⟨p, 0, none⟩)]
section
variable (p : Nat) (a b : Value) (w : World)
set_option maxRecDepth 100000
theorem Zev : (callMethod (ifv p) "Add" #[a, b]).run Tryz.prog w = .ok (.enter 302 #[rcv p, a, b]) w := by kernel_rfl
theorem Zew : (callMethod (ifv p) "Sub" #[a, b]).run Tryz.prog w = .ok (.enter 308 #[rcv p, a, b]) w := by kernel_rfl
theorem Zex : (callMethod (ifv p) "Mul" #[a, b]).run Tryz.prog w = .ok (.enter 305 #[rcv p, a, b]) w := by kernel_rfl
theorem Zey : (callMethod (ifv p) "Neg" #[a]).run Tryz.prog w = .ok (.enter 306 #[rcv p, a]) w := by kernel_rfl
theorem Zez : (callMethod (ifv p) "Inv" #[a]).run Tryz.prog w = .ok (.enter 304 #[rcv p, a]) w := by kernel_rfl
theorem Zg6 : (callMethod (ifv p) "In" #[a]).run Tryz.prog w = .ok (.enter 303 #[rcv p, a]) w := by kernel_rfl
theorem Ze6 : (callMethod (ifv p) "Out" #[a]).run Tryz.prog w = .ok (.enter 307 #[rcv p, a]) w := by kernel_rfl
theorem Ze0 : (nilAhead (Tryz.prog.types.size + Made.depth) 151 (rcv p) "Add").run Tryz.prog w = .ok (some false) w := by kernel_rfl
theorem Ze1 : (nilAhead (Tryz.prog.types.size + Made.depth) 151 (rcv p) "Sub").run Tryz.prog w = .ok (some false) w := by kernel_rfl
theorem Ze2 : (nilAhead (Tryz.prog.types.size + Made.depth) 151 (rcv p) "Mul").run Tryz.prog w = .ok (some false) w := by kernel_rfl
theorem Ze3 : (nilAhead (Tryz.prog.types.size + Made.depth) 151 (rcv p) "Neg").run Tryz.prog w = .ok (some false) w := by kernel_rfl
theorem Ze4 : (nilAhead (Tryz.prog.types.size + Made.depth) 151 (rcv p) "Inv").run Tryz.prog w = .ok (some false) w := by kernel_rfl
theorem Zg7 : (nilAhead (Tryz.prog.types.size + Made.depth) 151 (rcv p) "In").run Tryz.prog w = .ok (some false) w := by kernel_rfl
theorem Ze5 : (nilAhead (Tryz.prog.types.size + Made.depth) 151 (rcv p) "Out").run Tryz.prog w = .ok (some false) w := by kernel_rfl
end
theorem RAt.of {w : World} {p m : Nat} (h : FOK w p m) : RAt w p m := by
 obtain ⟨f, h1, h2⟩ := h.ex
 exact ⟨h, h2.lt⟩
section
variable {w : World} {p m : Nat} (hg : FOK w p m) (x y : K)
include hg
theorem Zf4 : Calls Tryz.prog 302 #[rcv p, .agg (ev m x), .agg (ev m y)] w fun e w' => e = .returned (.agg (ev m (kadd m x y))) ∧ Below w.heap.size w w' := qAdd (RAt.of hg) x y
theorem Zf5 : Calls Tryz.prog 308 #[rcv p, .agg (ev m x), .agg (ev m y)] w fun e w' => e = .returned (.agg (ev m (ksub m x y))) ∧ Below w.heap.size w w' := qSub (RAt.of hg) x y
theorem Zf6 : Calls Tryz.prog 305 #[rcv p, .agg (ev m x), .agg (ev m y)] w fun e w' => e = .returned (.agg (ev m (kmul m x y))) ∧ Below w.heap.size w w' := qMul (RAt.of hg) x y
theorem Zf7 : Calls Tryz.prog 306 #[rcv p, .agg (ev m x)] w fun e w' => e = .returned (.agg (ev m (kneg m x))) ∧ Below w.heap.size w w' := qNeg (RAt.of hg) x
theorem Zf8 : Calls Tryz.prog 304 #[rcv p, .agg (ev m x)] w fun e w' => e = .returned (.agg (ev m (kinv m x))) ∧ Below w.heap.size w w' := qInv (RAt.of hg) x
theorem c_In (hx : Fits x) : Calls Tryz.prog 303 #[rcv p, .agg (nv x)] w fun e w' => e = .returned (.agg (ev m x)) ∧ Below w.heap.size w w' := qIn (RAt.of hg) x hx
theorem Zf9 : Calls Tryz.prog 307 #[rcv p, .agg (ev m x)] w fun e w' => e = .returned (.agg (nv (rest m x))) ∧ Below w.heap.size w w' := qOut (RAt.of hg) x
end
theorem Zcy {P : Program} {t e1 : TypeId} {d n1 : Nat} {d1 : TypeDesc} {X1 Y1 X2 Y2 : Array Value} {b1 b2 : Bool} {w : World} (hu : P.underlying t = some (.array 2 e1))
  (hu1 : P.underlying e1 = some d1) (hd1 : d1.isRow = true) (hi1 : (P.info? e1).map (·.size) = some n1)
  (hX1 : X1.size = n1) (hX2 : X2.size = n1) (hY1 : Y1.size = n1) (hY2 : Y2.size = n1) (h1 : (Op.equalIn d e1 (.agg X1) (.agg X2)).run P w = .ok b1 w) (h2 : (Op.equalIn d e1 (.agg Y1) (.agg Y2)).run P w = .ok b2 w) :
  (Op.equalIn (d + 1) t (.agg (X1 ++ Y1)) (.agg (X2 ++ Y2))).run P w = .ok (b1 && b2) w := by
 have p1 := ZaM (P := P) (w := w) (A := #[]) (off := 0) (X := X1) (C := Y1) hu1 hd1 hi1 rfl hX1
 have p2 := ZaM (P := P) (w := w) (A := #[]) (off := 0) (X := X2) (C := Y2) hu1 hd1 hi1 rfl hX2
 have q1 := ZaM (P := P) (w := w) (A := X1) (X := Y1) (C := #[]) hu1 hd1 hi1 hX1 hY1
 have q2 := ZaM (P := P) (w := w) (A := X2) (X := Y2) (C := #[]) hu1 hd1 hi1 hX2 hY2
 have hs : (sizeOf e1).run P w = .ok n1 w := by
  cases hq : P.info? e1 with
  | none => simp [hq] at hi1
  | some i =>
   have hs : i.size = n1 := by simpa [hq] using hi1
   simp [sizeOf, typeInfo, Sem.run_bind, hq, hs, go_sem]
 rw [Array.empty_append] at p1 p2
 rw [Array.append_empty] at q1 q2
 unfold Op.equalIn
 simp only [Sem.run_bind, run_underlying hu w, Result.andThen, hs]
 cases b1 <;> cases b2 <;> simp [Sem.run_bind, List.range', p1, p2, q1, q2, h1, h2, Result.andThen]
def Like (m : Nat) (x y : K) : Prop := P6.Like m x.1 y.1 ∧ P6.Like m x.2 y.2
instance (m : Nat) (x y : K) : Decidable (Like m x y) := inferInstanceAs (Decidable (_ ∧ _))
theorem eqE : ∀ (d : Nat) {w : World} {p m : Nat} (_ : FOK w p m) (x y : K) (W : World) (_ : 1 ≤ d := by decide), (Op.equalIn (d + 2) 56 (.agg (ev m x)) (.agg (ev m y))).run Tryz.prog W = .ok (decide (Like m x y)) W
 | 0, _, _, _, _, _, _, _, h => absurd h (by decide)
 | d + 1, w, p, m, hg, x, y, W, _ => by
  rw [Zbc, Zbc]
  have iE : (Tryz.prog.info? 28).map (·.size) = some 6 := by rw [P6.infoE (P6.Zau m x.1), P6.Zau]
  refine (Zcy underQ P6.underE rfl iE (P6.Zau _ _) (P6.Zau _ _) (P6.Zau _ _) (P6.Zau _ _) (P6.eqE d hg x.1 y.1 W) (P6.eqE d hg x.2 y.2 W)).trans ?_
  refine congrArg (Result.ok · W) ?_
  rw [Bool.eq_iff_iff]
  simp only [Bool.and_eq_true, decide_eq_true_eq]
  exact Iff.rfl
theorem ZbG {w : World} {p m : Nat} (hg : FOK w p m) (x : K) : Fits (rest m x) := ⟨P6.ZbG hg _, P6.ZbG hg _⟩
theorem Zbh (m : Nat) (x : K) : ev m (rest m x) = ev m x := by
 rw [Zbc, Zbc]
 show P6.ev m (P6.rest m x.1) ++ P6.ev m (P6.rest m x.2) = _
 rw [P6.Zbh, P6.Zbh]
theorem Zbt : Fits k0 := ⟨P6.Zbt, P6.Zbt⟩
theorem eqN : ∀ (d : Nat) {x y : K} (_ : Fits x) (_ : Fits y) (W : World) (_ : 1 ≤ d := by decide), (Op.equalIn (d + 2) 56 (.agg (nv x)) (.agg (nv y))).run Tryz.prog W = .ok (decide (x = y)) W
 | 0, _, _, _, _, _, h => absurd h (by decide)
 | d + 1, x, y, hx, hy, W, _ => by
  rw [Za3, Za3]
  have iE : (Tryz.prog.info? 28).map (·.size) = some 6 := by rw [P6.infoE (P6.Zai x.1), P6.Zai]
  refine (Zcy underQ P6.underE rfl iE (P6.Zai _) (P6.Zai _) (P6.Zai _) (P6.Zai _) (P6.eqN d hx.1 hy.1 W) (P6.eqN d hx.2 hy.2 W)).trans ?_
  refine congrArg (Result.ok · W) ?_
  rw [Bool.eq_iff_iff]
  simp only [Bool.and_eq_true, decide_eq_true_eq]
  exact Prod.ext_iff.symm
theorem underE : Tryz.prog.underlying 56 = some (.array 2 28) := by kernel_rfl
theorem infoE {C : Array Value} (h : C.size = 12) : (Tryz.prog.info? 56).map (·.size) = some C.size := by rw [h]; kernel_rfl
structure GAt (w : World) (g p m : Nat) (b : K) : Prop where
 fld : w.cell? ⟨g, 0, none⟩ = some (ifv p)
 zero : w.rangeAt g 1 (ev m k0).toList
 one : w.rangeAt g (1 + 12) (ev m k1).toList
 b : w.rangeAt g (1 + 2 * 12) (ev m b).toList
 ok : FOK w p m
 glt : g < w.heap.size
 plt : p < w.heap.size
theorem Za0 {w w' : World} {g o : Nat} {l : List Value} (h : w'.heap[g]? = w.heap[g]?) (hr : w.rangeAt g o l) : w'.rangeAt g o l := fun j v hv => by
 have := hr j v hv
 unfold World.cell? at this ⊢
 rw [h]
 exact this
theorem GAt.same {w w' : World} {g p m : Nat} {b : K} (h : GAt w g p m b) (hg : w'.heap[g]? = w.heap[g]?) (hp : w'.heap[p]? = w.heap[p]?) (hs : w.heap.size ≤ w'.heap.size) : GAt w' g p m b :=
 ⟨by have := h.fld; unfold World.cell? at this ⊢; rw [hg]; exact this, Za0 hg h.zero, Za0 hg h.one, Za0 hg h.b, h.ok.of_same hp, Nat.lt_of_lt_of_le h.glt hs, Nat.lt_of_lt_of_le h.plt hs⟩
theorem GAt.below {w w' : World} {g p m : Nat} {b : K} (h : GAt w g p m b) (hb : Below w.heap.size w w') : GAt w' g p m b := h.same (hb.block _ h.glt) (hb.block _ h.plt) hb.size
theorem GAt.kq {W V : World} {R0 n ty g p m : Nat} {b : K} (h : GAt W g p m b) (hS : KQ W R0 n ty V) (h1 : g ≠ R0) (h2 : p ≠ R0) : GAt V g p m b := h.same (hS.same _ h.glt h1) (hS.same _ h.plt h2) hS.size
def zn : Array Value := Array.replicate 12 (.int .u64 0)
noncomputable def pl (m : Nat) (x y : K) : Array Value := Classical.choose (⟨_, rfl⟩ : ∃ C : Array Value, C = ev m x ++ ev m y)
theorem Zbu (m : Nat) (x y : K) : pl m x y = ev m x ++ ev m y := Classical.choose_spec (⟨_, rfl⟩ : ∃ C : Array Value, C = ev m x ++ ev m y)
noncomputable def sc (m : Nat) (x y z : K) : Array Value := Classical.choose (⟨_, rfl⟩ : ∃ C : Array Value, C = pl m x y ++ ev m z)
theorem Zcb (m : Nat) (x y z : K) : sc m x y z = pl m x y ++ ev m z := Classical.choose_spec (⟨_, rfl⟩ : ∃ C : Array Value, C = pl m x y ++ ev m z)
noncomputable def pt (x y : K) (i : Bool) : Array Value := Classical.choose (⟨_, rfl⟩ : ∃ C : Array Value, C = nv x ++ (nv y ++ #[.bool i]))
theorem ZaR (x y : K) (i : Bool) : pt x y i = nv x ++ (nv y ++ #[.bool i]) := Classical.choose_spec (⟨_, rfl⟩ : ∃ C : Array Value, C = nv x ++ (nv y ++ #[.bool i]))
theorem ZaQ (m : Nat) (x y : K) : (pl m x y).size = 2 * 12 := by rw [Zbu, Array.size_append, Zau, Zau]
theorem ZaX (m : Nat) (x y z : K) : (sc m x y z).size = 3 * 12 := by rw [Zcb, Array.size_append, ZaQ, Zau]
theorem ZaD (x y : K) (i : Bool) : (pt x y i).size = 2 * 12 + 1 := by rw [ZaR, Array.size_append, Array.size_append, Zai, Zai]; rfl
theorem ZaG {A B : Array Value} (h1 : A.all (·.oneCell') = true) (h2 : B.all (·.oneCell') = true) : (A ++ B).all (·.oneCell') = true := by
 rw [Array.all_append, h1, h2]; rfl
theorem ZcL (m : Nat) (x y : K) : (pl m x y).all (·.oneCell') = true := by
 rw [Zbu]
 exact ZaG (Zbl _ _) (Zbl _ _)
theorem ZcM (m : Nat) (x y z : K) : (sc m x y z).all (·.oneCell') = true := by
 rw [Zcb]
 exact ZaG (ZcL _ _ _) (Zbl _ _)
theorem Zdl : Tryz.prog.underlying 277 = some (.struct (fsOf (Tryz.prog.underlying 277))) := by kernel_rfl
theorem Zbi : Tryz.prog.underlying 279 = some (.struct (fsOf (Tryz.prog.underlying 279))) := by kernel_rfl
theorem Zcc : Tryz.prog.underlying 153 = some (.struct (fsOf (Tryz.prog.underlying 153))) := by kernel_rfl
theorem infoPl {C : Array Value} (h : C.size = 2 * 12) : (Tryz.prog.info? 277).map (·.size) = some C.size := by rw [h]; kernel_rfl
theorem infoSc {C : Array Value} (h : C.size = 3 * 12) : (Tryz.prog.info? 279).map (·.size) = some C.size := by rw [h]; kernel_rfl
theorem infoPt {C : Array Value} (h : C.size = 2 * 12 + 1) : (Tryz.prog.info? 153).map (·.size) = some C.size := by rw [h]; kernel_rfl
section
variable {w : World} {b t m : Nat} {x y z : K} {i : Bool}
theorem pt_i (h : w.heap[b]? = some (.cells (pt x y i) t (0, 0))) : w.cell? ⟨b, 2 * 12, none⟩ = some (.bool i) := by
 have := ZaS (w := w) (b := b) (t := t) (A := nv x ++ nv y) (B := #[.bool i]) (C := #[]) (o := 2 * 12) (by rw [h, ZaR, Array.append_empty, Array.append_assoc]) (by rw [Array.size_append, Zai, Zai])
 exact this 0 _ rfl
end
theorem ZcN : nv k0 = zn := by first | (rw [Za3]; rfl) | (rw [Za3, P6.Za3, P6.Za3]; rfl)
theorem gqE : Tryz.prog.eqGuardType Tryz.prog.depth 56 = false := by kernel_rfl
theorem gqPl : Tryz.prog.eqGuardType Tryz.prog.depth 277 = false := by kernel_rfl
theorem eqPl {w : World} {p m : Nat} (hg : FOK w p m) (x y x' y' : K) (W : World) : (Op.equalIn 10000 277 (.agg (pl m x y)) (.agg (pl m x' y'))).run Tryz.prog W = .ok (decide (Like m x x') && decide (Like m y y')) W := by
 have iE : (Tryz.prog.info? 56).map (·.size) = some 12 := by rw [infoE (Zau m x), Zau]
 rw [Zbu, Zbu]
 exact Zdt (f1 := (fsOf (Tryz.prog.underlying 277))[0]!) (f2 := (fsOf (Tryz.prog.underlying 277))[1]!) (e1 := 56) (e2 := 56) (d := 9999) (n1 := 12) (n2 := 12) (by kernel_rfl) (by kernel_rfl) (by decide +kernel) (by decide +kernel) (by kernel_rfl) (by kernel_rfl) (by kernel_rfl) (by kernel_rfl)
  underE rfl iE underE rfl iE (Zau _ _) (Zau _ _) (Zau _ _) (Zau _ _) (eqE 9997 hg x x' W) (eqE 9997 hg y y' W)
theorem gqPt : Tryz.prog.eqGuardType Tryz.prog.depth 153 = false := by kernel_rfl
theorem eqB (d : Nat) (a b : Bool) (W : World) : (Op.equalIn (d + 1) 4 (.bool a) (.bool b)).run Tryz.prog W = .ok (a == b) W := by
 unfold Op.equalIn
 simp [go_sem]
theorem eqPt {x y x' y' : K} (hx : Fits x) (hy : Fits y) (hx' : Fits x') (hy' : Fits y') (i i' : Bool) (W : World) : (Op.equalIn 10000 153 (.agg (pt x y i)) (.agg (pt x' y' i'))).run Tryz.prog W = .ok (decide (x = x') && (decide (y = y') && (i == i'))) W := by
 have iE : (Tryz.prog.info? 56).map (·.size) = some 12 := by rw [infoE (Zai x), Zai]
 rw [ZaR, ZaR]
 exact ZbW (f1 := (fsOf (Tryz.prog.underlying 153))[0]!) (f2 := (fsOf (Tryz.prog.underlying 153))[1]!) (f3 := (fsOf (Tryz.prog.underlying 153))[2]!) (e1 := 56) (e2 := 56) (e3 := 4) (d := 9999) (n1 := 12) (n2 := 12) (by kernel_rfl) (by kernel_rfl) (by decide +kernel) (by decide +kernel) (by decide +kernel) (by kernel_rfl) (by kernel_rfl) (by kernel_rfl) (by kernel_rfl) (by kernel_rfl) (by kernel_rfl)
  underE rfl iE underE rfl iE (by kernel_rfl) (Zai _) (Zai _) (Zai _) (Zai _) (eqN 9997 hx hx' W) (eqN 9997 hy hy' W) (eqB 9998 i i' W)
def sz : Nat → Nat
 | 2 => 4
 | _ => 12
noncomputable def likeB (m : Nat) (x y : K) : Bool := Classical.choose (⟨_, rfl⟩ : ∃ c : Bool, c = decide (Like m x y))
theorem Zat (m : Nat) (x y : K) : likeB m x y = decide (Like m x y) := Classical.choose_spec (⟨_, rfl⟩ : ∃ c : Bool, c = decide (Like m x y))
structure Dt where
 m : Nat
 g : Nat
 p : Nat
 b : K
 bx : K
 bY : K
 kw : Nat
 v : Nat → K
 bo : Nat → Bool
 cv : Nat
noncomputable abbrev al (D : Dt) : Al sz where
 K := K
 v := D.v
 c := fun k => match k with
  | 0 => k0
  | 1 => k1
  | 2 => D.b
  | 3 => D.bx
  | _ => D.bY
 u := fun k x => match k with
  | 0 => kneg D.m x
  | 1 => kinv D.m x
  | _ => rest D.m x
 b := fun k x y => match k with
  | 0 => kadd D.m x y
  | 1 => ksub D.m x y
  | _ => kmul D.m x y
 cells := fun k x => match k with
  | 0 => ev D.m x
  | 2 => W4.cs (limb D.kw)
  | _ => nv x
 hs := fun k x => match k with
  | 0 => Zau D.m x
  | 1 => Zai x
  | 2 => rfl
  | _ + 3 => Zai x
 h1 := fun k x => match k with
  | 0 => Zbl D.m x
  | 1 => Zb1 x
  | 2 => W4.one _
  | _ + 3 => Zb1 x
 lk := fun k x y => match k with
  | 0 => likeB D.m x y
  | _ => decide (x = y)
 bo := D.bo
 xb := fun i => match i with
  | 0 => D.g
  | _ => D.cv
 ov := fun _ => ifv D.p
 ho := fun _ => ⟨rfl, rfl⟩
def ft (fl : Nat → Bool) : EX → Bool
 | .v i => fl i
 | .c 0 => true
 | .u 2 _ => true
 | _ => false
def bq : CX → CX → Option CX
 | x, .lit true => some x
 | x, .lit false => some (.no x)
 | .lit true, y => some y
 | .lit false, y => some (.no y)
 | _, _ => none
def eI (fl : Nat → Bool) (s : String) (xs : List SV) : Option SV := match xs with
 | [.one (.ov _), .row [.e 0 x], .row [.e 0 y]] => if s = "Add" then some (.row [.e 0 (.b 0 x y)]) else if s = "Sub" then some (.row [.e 0 (.b 1 x y)]) else if s = "Mul" then some (.row [.e 0 (.b 2 x y)]) else none
 | [.one (.ov _), .row [.e 0 x]] => if s = "Neg" then some (.row [.e 0 (.u 0 x)]) else if s = "Inv" then some (.row [.e 0 (.u 1 x)]) else if s = "Out" then some (.row [.e 1 (.u 2 x)]) else none
 | [.one (.ov _), .row [.e 1 x]] => if s = "In" ∧ ft fl x = true then some (.row [.e 0 x]) else none
 | _ => none
def eX0 (o t : Nat) : Option SV := if o = 0 ∧ t = 255 then some (.one (.ov 0)) else if o = 1 ∧ t = 56 then some (.row [.e 0 (.c 0)]) else if o = 1 + 12 ∧ t = 56 then some (.row [.e 0 (.c 1)]) else if o = 1 + 2 * 12 ∧ t = 56 then some (.row [.e 0 (.c 2)]) else none
def eX (XL : Nat → Nat → Nat → Option SV) (i o t : Nat) : Option SV := match XL i o t with
 | some y => some y
 | none => match i with
  | 0 => eX0 o t
  | _ => none
abbrev zE : Ch := .e 1 (.c 0)
abbrev fE : Ch := .s (.cx (.lit false))
abbrev zI : Ch := .s (.v (.int .u64 0))
def eZ (t : Nat) : Option (List Ch) := if t = 56 then some [zE] else if t = 277 then some [zE, zE] else if t = 279 then some [zE, zE, zE] else if t = 153 then some [zE, zE, fE] else if t = 58 then some [zE, zE, fE] else if t = 155 then some [zE, zE, zE, zE, fE, zI, zI, zI, zI] else if t = 258 then some [.s (.v .nilIface), zE, zE, zE, zE, zE, fE, zI, zI, zI, zI] else none
def eE (fl : Nat → Bool) (t : Nat) (l m : List Ch) : Option CX := match l, m with
 | [.e 0 x], [.e 0 y] => if t = 56 then some (.lk 0 x y) else none
 | [.e 1 x], [.e 1 y] => if t = 56 ∧ ft fl x = true ∧ ft fl y = true then some (.lk 1 x y) else none
 | [.e 0 x, .e 0 y], [.e 0 z, .e 0 u] => if t = 277 then some (.an (.lk 0 x z) (.lk 0 y u)) else none
 | [.e 1 x, .e 1 y, .s (.cx i)], [.e 1 z, .e 1 u, .s (.cx j)] => if t = 153 ∧ ft fl x = true ∧ ft fl y = true ∧ ft fl z = true ∧ ft fl u = true then (bq i j).map fun q => .an (.lk 1 x z) (.an (.lk 1 y u) q) else none
 | _, _ => none
structure FAt (w : World) (p m : Nat) : Prop where
 ok : FOK w p m
 plt : p < w.heap.size
theorem FAt.below {w w' : World} {p m : Nat} (h : FAt w p m) (hb : Below w.heap.size w w') : FAt w' p m := ⟨h.ok.of_same (hb.block _ h.plt), Nat.lt_of_lt_of_le h.plt hb.size⟩
def envF (fl : Nat → Bool) (G : List (CX × Bool)) (X : Nat → List SV → Option SV) (XL : Nat → Nat → Nat → Option SV) (T : Nat → List SV → Option SV) : Env := ⟨aheadT X T, eI fl, XL, eZ, eE fl, G, fun s _ => s == "Add" || (s == "Sub" || (s == "Mul" || (s == "Neg" || (s == "Inv" || (s == "In" || s == "Out")))))⟩
def env (fl : Nat → Bool) (G : List (CX × Bool)) (X : Nat → List SV → Option SV) (XL : Nat → Nat → Nat → Option SV) (T : Nat → List SV → Option SV) : Env := envF fl G X (eX XL) T
theorem Zb5 {w : World} {D : Dt} {fl : Nat → Bool} (HG : FOK w D.p D.m) (hv : ∀ i, fl i = true → Fits (D.v i)) {x : EX} (h : ft fl x = true) : Fits ((al D).d x) := by
 unfold ft at h
 split at h
 ·
  exact hv _ h
 ·
  exact Zbt
 ·
  exact ZbG HG _
 ·
  cases h
theorem Zg8 {A : Al sz} {x y q : CX} (h : bq x y = some q) : A.cx q = (A.cx x == A.cx y) := by
 unfold bq at h
 split at h
 ·
  cases h; simp [Al.cx]
 ·
  cases h; simp [Al.cx]
 ·
  cases h; simp [Al.cx]
 ·
  cases h; simp [Al.cx]
 ·
  cases h
section
variable {D : Dt} {β : Nat → Nat}
theorem rw_e (x : EX) : ((al D).rw β [.e 0 x]).toArray = ev D.m ((al D).d x) := by simp [Al.rw, Al.ch, al]
theorem rw_n (x : EX) : ((al D).rw β [.e 1 x]).toArray = nv ((al D).d x) := by simp [Al.rw, Al.ch, al]
theorem ZbL (x y : EX) : ((al D).rw β [.e 0 x, .e 0 y]).toArray = pl D.m ((al D).d x) ((al D).d y) := by
 rw [Zbu]
 apply Array.toList_inj.1
 simp [Al.rw, Al.ch, al]
theorem Zbz (x y z : EX) : ((al D).rw β [.e 0 x, .e 0 y, .e 0 z]).toArray = sc D.m ((al D).d x) ((al D).d y) ((al D).d z) := by
 rw [Zcb, Zbu]
 apply Array.toList_inj.1
 simp [Al.rw, Al.ch, al]
theorem ZaO (x y : EX) (i : CX) : ((al D).rw β [.e 1 x, .e 1 y, .s (.cx i)]).toArray = pt ((al D).d x) ((al D).d y) ((al D).cx i) := by
 rw [ZaR]
 apply Array.toList_inj.1
 simp [Al.rw, Al.ch, al, Al.sc]
theorem rw_w (x : EX) : ((al D).rw β [.e 2 x]).toArray = W4.cs (limb D.kw) := by simp [Al.rw, Al.ch]
theorem sv_e (x : EX) : (al D).sv β (.row [.e 0 x]) = .agg (ev D.m ((al D).d x)) := by rw [Al.sv, rw_e]
end
theorem x_ok {w : World} {D : Dt} (HG : GAt w D.g D.p D.m D.b) {q t : Nat} {y : SV} (β : Nat → Nat) {V : World} (hV : Below w.heap.size w V) (h : eX0 q t = some y) : (loadVar t ⟨D.g, q, none⟩).run Tryz.prog V = .ok ((al D).sv β y) V := by
 have H := HG.below hV
 unfold eX0 at h
 split at h
 ·
  rename_i hc
  obtain ⟨rfl, rfl⟩ := hc
  cases h
  exact ld1 (by kernel_rfl) H.fld
 ·
  split at h
  ·
   rename_i hc
   obtain ⟨rfl, rfl⟩ := hc
   cases h
   rw [sv_e]
   exact loadC V D.g _ _ _ _ H.zero underE rfl (infoE (Zau _ _))
  ·
   split at h
   ·
    rename_i hc
    obtain ⟨rfl, rfl⟩ := hc
    cases h
    rw [sv_e]
    exact loadC V D.g _ _ _ _ H.one underE rfl (infoE (Zau _ _))
   ·
    split at h
    ·
     rename_i hc
     obtain ⟨rfl, rfl⟩ := hc
     cases h
     rw [sv_e]
     exact loadC V D.g _ _ _ _ H.b underE rfl (infoE (Zau _ _))
    ·
     cases h
def XLOK {sz : Nat → Nat} (A : Al sz) (XL : Nat → Nat → Nat → Option SV) (w : World) : Prop := ∀ i q t y β V, XL i q t = some y → Below w.heap.size w V → (loadVar t ⟨A.xb i, q, none⟩).run Tryz.prog V = .ok (A.sv β y) V
theorem XLOK.mono {sz : Nat → Nat} {A : Al sz} {XL : Nat → Nat → Nat → Option SV} {w V : World} (h : XLOK A XL w) (hV : Below w.heap.size w V) : XLOK A XL V := fun i q t y β U e hU => h i q t y β U e (hV.trans (hU.mono hV.size))
theorem z_ok {D : Dt} {t : Nat} {l : List Ch} (β : Nat → Nat) (V : World) (h : eZ t = some l) : ∃ z, (zeroValue t).run Tryz.prog V = .ok z V ∧ z.cells = ((al D).rw β l).toArray := by
 have hz : ((al D).ch β zE) = zn.toList := by
  show (nv k0).toList = _
  rw [ZcN]
 unfold eZ at h
 split at h
 ·
  rename_i hc
  subst hc
  cases h
  refine ⟨.agg zn, by kernel_rfl, ?_⟩
  simp only [Al.rw, hz]
  rfl
 rename_i hc
 clear hc
 split at h
 ·
  rename_i hc
  subst hc
  cases h
  refine ⟨.agg (zn ++ zn), by kernel_rfl, ?_⟩
  simp only [Al.rw, hz]
  rfl
 rename_i hc
 clear hc
 split at h
 ·
  rename_i hc
  subst hc
  cases h
  refine ⟨.agg (zn ++ zn ++ zn), by kernel_rfl, ?_⟩
  simp only [Al.rw, hz]
  rfl
 rename_i hc
 clear hc
 split at h
 ·
  rename_i hc
  subst hc
  cases h
  refine ⟨.agg (zn ++ zn ++ #[.bool false]), by kernel_rfl, ?_⟩
  simp only [Al.rw, hz]
  rfl
 rename_i hc
 clear hc
 split at h
 ·
  rename_i hc
  subst hc
  cases h
  refine ⟨.agg (zn ++ zn ++ #[.bool false]), by kernel_rfl, ?_⟩
  simp only [Al.rw, hz]
  rfl
 rename_i hc
 clear hc
 split at h
 ·
  rename_i hc
  subst hc
  cases h
  refine ⟨.agg (zn ++ zn ++ zn ++ zn ++ #[.bool false] ++ Array.replicate 4 (.int .u64 0)), by kernel_rfl, ?_⟩
  simp only [Al.rw, hz]
  rfl
 rename_i hc
 clear hc
 split at h
 ·
  rename_i hc
  subst hc
  cases h
  refine ⟨.agg (#[.nilIface] ++ zn ++ zn ++ zn ++ zn ++ zn ++ #[.bool false] ++ Array.replicate 4 (.int .u64 0)), by kernel_rfl, ?_⟩
  simp only [Al.rw, hz]
  rfl
 rename_i hc
 clear hc
 cases h
theorem e_ok {w : World} {D : Dt} {fl : Nat → Bool} (HG : FOK w D.p D.m) (hv : ∀ i, fl i = true → Fits (D.v i)) {t : Nat} {l k : List Ch} {c : CX} (β : Nat → Nat) (V : World) (h : eE fl t l k = some c) : Tryz.prog.eqGuardType Tryz.prog.depth t = false ∧ (Op.equalIn 10000 t (.agg ((al D).rw β l).toArray) (.agg ((al D).rw β k).toArray)).run Tryz.prog V = .ok ((al D).cx c) V := by
 have hF := HG
 unfold eE at h
 split at h
 ·
  split at h
  ·
   rename_i hc
   subst hc
   cases h
   rw [rw_e, rw_e]
   exact ⟨gqE, (eqE 9998 hF _ _ V).trans (by rw [← Zat]; rfl)⟩
  ·
   cases h
 ·
  split at h
  ·
   rename_i hc
   obtain ⟨rfl, h1, h2⟩ := hc
   cases h
   rw [rw_n, rw_n]
   exact ⟨gqE, eqN 9998 (Zb5 HG hv h1) (Zb5 HG hv h2) V⟩
  ·
   cases h
 ·
  split at h
  ·
   rename_i hc
   subst hc
   cases h
   rw [ZbL, ZbL]
   exact ⟨gqPl, (eqPl hF _ _ _ _ V).trans (by rw [← Zat, ← Zat]; rfl)⟩
  ·
   cases h
 ·
  split at h
  ·
   rename_i hc
   obtain ⟨rfl, h1, h2, h3, h4⟩ := hc
   obtain ⟨q, hq, rfl⟩ := Option.map_eq_some_iff.1 h
   rw [ZaO, ZaO]
   refine ⟨gqPt, (eqPt (Zb5 HG hv h1) (Zb5 HG hv h2) (Zb5 HG hv h3) (Zb5 HG hv h4) _ _ V).trans ?_⟩
   simp only [Al.cx, Zg8 hq]
  ·
   cases h
 ·
  cases h
theorem Zcd {w : World} {D : Dt} {fl : Nat → Bool} {G : List (CX × Bool)} {X T : Nat → List SV → Option SV} {XL : Nat → Nat → Nat → Option SV} (HG : FAt w D.p D.m) (hv : ∀ i, fl i = true → Fits (D.v i)) (hG : ∀ x ∈ G, (al D).cx x.1 = x.2) (hX : TOK Tryz.prog (al D) X w) (hL : XLOK (al D) XL w) (hT : TOK Tryz.prog (al D) T w) : EnvOK Tryz.prog (al D) (envF fl G X XL T) w where
 G := hG
 F := fun s i h => by
  refine ⟨_, _, rfl, fun V => ?_⟩
  simp only [envF, Bool.or_eq_true, beq_iff_eq] at h
  rcases h with rfl | rfl | rfl | rfl | rfl | rfl | rfl
  ·
   exact Ze0 D.p V
  ·
   exact Ze1 D.p V
  ·
   exact Ze2 D.p V
  ·
   exact Ze3 D.p V
  ·
   exact Ze4 D.p V
  ·
   exact Zg7 D.p V
  ·
   exact Ze5 D.p V
 T := ZdH hX hT
 I := fun s xs y β V h hV => by
  have hF := (HG.below hV).ok
  have h : eI fl s xs = some y := h
  unfold eI at h
  split at h
  ·
   split at h
   ·
    cases h; rename_i hs; subst hs; exact ⟨_, _, Zev D.p _ _ V, by simpa [Al.sv, Al.rw, Al.ch, al, Al.d] using Zf4 hF _ _⟩
   ·
    split at h
    ·
     cases h; rename_i hs; subst hs; exact ⟨_, _, Zew D.p _ _ V, by simpa [Al.sv, Al.rw, Al.ch, al, Al.d] using Zf5 hF _ _⟩
    ·
     split at h
     ·
      cases h; rename_i hs; subst hs; exact ⟨_, _, Zex D.p _ _ V, by simpa [Al.sv, Al.rw, Al.ch, al, Al.d] using Zf6 hF _ _⟩
     ·
      cases h
  ·
   split at h
   ·
    cases h; rename_i hs; subst hs; exact ⟨_, _, Zey D.p _ V, by simpa [Al.sv, Al.rw, Al.ch, al, Al.d] using Zf7 hF _⟩
   ·
    split at h
    ·
     cases h; rename_i hs; subst hs; exact ⟨_, _, Zez D.p _ V, by simpa [Al.sv, Al.rw, Al.ch, al, Al.d] using Zf8 hF _⟩
    ·
     split at h
     ·
      cases h; rename_i hs; subst hs; exact ⟨_, _, Ze6 D.p _ V, by simpa [Al.sv, Al.rw, Al.ch, al, Al.d] using Zf9 hF _⟩
     ·
      cases h
  ·
   split at h
   ·
    cases h; rename_i hs; obtain ⟨rfl, hx⟩ := hs; exact ⟨_, _, Zg6 D.p _ V, by simpa [Al.sv, Al.rw, Al.ch, al, Al.d] using c_In hF _ (Zb5 HG.ok hv hx)⟩
   ·
    cases h
  ·
   cases h
 X := hL
 Z := fun t l β V h => z_ok β V h
 E := fun t l k c β V h => e_ok HG.ok hv β V h
theorem Zg9 {w : World} {D : Dt} {XL : Nat → Nat → Nat → Option SV} (HG : GAt w D.g D.p D.m D.b) (hL : XLOK (al D) XL w) : XLOK (al D) (eX XL) w := fun i q t y β V h hV => by
 unfold eX at h
 split at h
 ·
  rename_i z hz
  cases h
  exact hL i q t y β V hz hV
 ·
  split at h
  ·
   exact x_ok HG β hV h
  ·
   cases h
noncomputable def ens : List (TEn Tryz.prog) := [⟨241, Tryz.f241, Tryz.func241, enters_of Tryz.func241 (by kernel_rfl) rfl⟩,
 ⟨200, Tryz.f200, Tryz.func200, enters_of Tryz.func200 (by kernel_rfl) rfl⟩,
 ⟨205, Tryz.f205, Tryz.func205, enters_of Tryz.func205 (by kernel_rfl) rfl⟩,
 ⟨235, Tryz.f235, Tryz.func235, enters_of Tryz.func235 (by kernel_rfl) rfl⟩,
 ⟨199, Tryz.f199, Tryz.func199, enters_of Tryz.func199 (by kernel_rfl) rfl⟩,
 ⟨236, Tryz.f236, Tryz.func236, enters_of Tryz.func236 (by kernel_rfl) rfl⟩,
 ⟨202, Tryz.f202, Tryz.func202, enters_of Tryz.func202 (by kernel_rfl) rfl⟩,
 ⟨204, Tryz.f204, Tryz.func204, enters_of Tryz.func204 (by kernel_rfl) rfl⟩,
 ⟨203, Tryz.f203, Tryz.func203, enters_of Tryz.func203 (by kernel_rfl) rfl⟩,
 ⟨130, Tryz.f130, Tryz.func130, enters_of Tryz.func130 (by kernel_rfl) rfl⟩,
 ⟨101, Tryz.f101, Tryz.func101, enters_of Tryz.func101 (by kernel_rfl) rfl⟩,
 ⟨108, Tryz.f108, Tryz.func108, enters_of Tryz.func108 (by kernel_rfl) rfl⟩,
 ⟨131, Tryz.f131, Tryz.func131, enters_of Tryz.func131 (by kernel_rfl) rfl⟩,
 ⟨132, Tryz.f132, Tryz.func132, enters_of Tryz.func132 (by kernel_rfl) rfl⟩,
 ⟨109, Tryz.f109, Tryz.func109, enters_of Tryz.func109 (by kernel_rfl) rfl⟩,
 ⟨99, Tryz.f99, Tryz.func99, enters_of Tryz.func99 (by kernel_rfl) rfl⟩,
 ⟨100, Tryz.f100, Tryz.func100, enters_of Tryz.func100 (by kernel_rfl) rfl⟩,
 ⟨168, Tryz.f168, Tryz.func168, enters_of Tryz.func168 (by kernel_rfl) rfl⟩,
 ⟨201, Tryz.f201, Tryz.func201, enters_of Tryz.func201 (by kernel_rfl) rfl⟩]
noncomputable def tab : Nat → Option Func := tabL ens
theorem Ze8 : TabOK Tryz.prog tab := Zei ens
theorem mixed : Tryz.prog.follows .mixedOrders = true := by kernel_rfl
noncomputable abbrev runG (fl : Nat → Bool) (G : List (CX × Bool)) (X : Nat → List SV → Option SV) (XL : Nat → Nat → Nat → Option SV) (fn : Func) (args : List SV) : Option SV := runS Tryz.prog sz (env fl G X XL (Tk Tryz.prog sz (env fl G X XL) tab 6)) fn 100 args
theorem Ze9 {w : World} {D : Dt} {fl : Nat → Bool} {G : List (CX × Bool)} {X : Nat → List SV → Option SV} {XL : Nat → Nat → Nat → Option SV} (HG : FAt w D.p D.m) (hv : ∀ i, fl i = true → Fits (D.v i)) (hG : ∀ x ∈ G, (al D).cx x.1 = x.2) (hX : TOK Tryz.prog (al D) X w) (hL : XLOK (al D) XL w) : EnvOK Tryz.prog (al D) (envF fl G X XL (Tk Tryz.prog sz (envF fl G X XL) tab 6)) w :=
 Zcd HG hv hG hX hL (Ziv (A := al D) mixed Ze8 (fun _ _ hV hT => Zcd (HG.below hV) hv hG (hX.mono hV) (hL.mono hV) hT) 6 w (Below.refl _ _))
theorem ZbH {w : World} (D : Dt) (fl : Nat → Bool) (G : List (CX × Bool)) {X : Nat → List SV → Option SV} {XL : Nat → Nat → Nat → Option SV} (HG : GAt w D.g D.p D.m D.b) (hv : ∀ i, fl i = true → Fits (D.v i)) (hG : ∀ x ∈ G, (al D).cx x.1 = x.2) (hX : TOK Tryz.prog (al D) X w) (hL : XLOK (al D) XL w) {f : Nat} {fn : Func} (hf : Tryz.prog.funcs[f]? = some fn) {args : List SV} {y : SV} (h : runG fl G X XL fn args = some y) (β : Nat → Nat) :
  Calls Tryz.prog f (args.map ((al D).sv β)).toArray w fun e w' => e = .returned ((al D).sv β y) ∧ Below w.heap.size w w' :=
 Zeh mixed (Ze9 ⟨HG.ok, HG.plt⟩ hv hG hX (Zg9 HG hL)) hf h
theorem noL {A : Al sz} (w : World) : XLOK A (fun _ _ _ => none) w := fun _ _ _ _ _ _ h => by cases h
abbrev T3 := K × K × K
noncomputable def scS (m : Nat) (s : T3) : Array Value := sc m s.1 s.2.1 s.2.2
def red (m : Nat) (s : T3) : T3 := (rest m s.1, rest m s.2.1, rest m s.2.2)
theorem Zbj (m : Nat) (s : T3) : scS m (red m s) = scS m s := by
 unfold scS red
 rw [Zcb, Zcb, Zbu, Zbu, Zbh, Zbh, Zbh]
def dblS (m : Nat) (s : T3) : T3 :=
 let x := s.1
 let y := s.2.1
 let z := s.2.2
 let sq := kmul m y y
 let t1 := kmul m x sq
 let t2 := kadd m t1 t1
 let mid := kadd m t2 t2
 let sl0 := kmul m x x
 let sl := kadd m sl0 (kadd m sl0 sl0)
 let X := ksub m (kmul m sl sl) (kadd m mid mid)
 let q1 := kmul m sq sq
 let q2 := kadd m q1 q1
 let q3 := kadd m q2 q2
 let Y := ksub m (kmul m sl (ksub m mid X)) (kadd m q3 q3)
 (X, Y, kadd m (kmul m y z) (kmul m y z))
def addS (m : Nat) (s : T3) (q : K × K) : T3 :=
 let x := s.1
 let y := s.2.1
 let z := s.2.2
 let sq := kmul m z z
 let X := kmul m q.1 sq
 let Y := kmul m q.2 (kmul m sq z)
 let across := ksub m X x
 let up := ksub m Y y
 let sq2 := kmul m across across
 let cube := kmul m sq2 across
 let mid := kmul m x sq2
 let X3 := ksub m (ksub m (kmul m up up) cube) (kadd m mid mid)
 let Y3 := ksub m (kmul m up (ksub m mid X3)) (kmul m y cube)
 (X3, Y3, kmul m z across)
def plusS (m : Nat) (s : T3) (q : K × K) : T3 :=
 if Like m s.2.2 k0 then (q.1, q.2, k1)
 else if Like m (kmul m q.1 (kmul m s.2.2 s.2.2)) s.1 ∧ Like m (kmul m q.2 (kmul m (kmul m s.2.2 s.2.2) s.2.2)) s.2.1 then dblS m s
 else addS m s q
def nofit : Nat → Bool := fun _ => false
def fit2 : Nat → Bool
 | 0 => true
 | 1 => true
 | _ => false
def noX : Nat → Nat → Nat → Option SV := fun _ _ _ => none
abbrev gp0 : SV := .one (.xp 0 0)
abbrev ptE (x y : EX) (i : CX) : SV := .row [.e 1 x, .e 1 y, .s (.cx i)]
abbrev plE (x y : EX) : SV := .row [.e 0 x, .e 0 y]
abbrev v5 (x y z u t : K) : Nat → K
 | 0 => x
 | 1 => y
 | 2 => z
 | 3 => u
 | _ => t
theorem fits2 {x y z u t : K} (hx : Fits x) (hy : Fits y) : ∀ i, fit2 i = true → Fits (v5 x y z u t i)
 | 0, _ => hx
 | 1, _ => hy
 | _ + 2, h => by cases h
abbrev dt (m g p : Nat) (b : K) (v : Nat → K) (i : Bool) : Dt := ⟨m, g, p, b, b, b, 0, v, fun _ => i, 0⟩
section
variable {w : World} {g p m : Nat} {b : K} (HG : GAt w g p m b) (x y z : K)
include HG
theorem Zbm (v : Nat → K) (G : List (CX × Bool)) (hG : ∀ x ∈ G, (al (dt m g p b v false)).cx x.1 = x.2) {f : Nat} {fn : Func} (hf : Tryz.prog.funcs[f]? = some fn) {args : List SV} {y : SV} (h : runG nofit G noT noX fn args = some y) :
  Calls Tryz.prog f (args.map ((al (dt m g p b v false)).sv fun _ => 0)).toArray w fun e w' => e = .returned ((al (dt m g p b v false)).sv (fun _ => 0) y) ∧ Below w.heap.size w w' := ZbH (dt m g p b v false) nofit G HG (fun _ h => by cases h) hG (ZbS w) (noL w) hf h _
theorem ZcO (v : Nat → K) (i : Bool) (hv : ∀ i, fit2 i = true → Fits (v i)) (G : List (CX × Bool)) (hG : ∀ x ∈ G, (al (dt m g p b v i)).cx x.1 = x.2) {f : Nat} {fn : Func} (hf : Tryz.prog.funcs[f]? = some fn) {args : List SV} {y : SV} (h : runG fit2 G noT noX fn args = some y) :
  Calls Tryz.prog f (args.map ((al (dt m g p b v i)).sv fun _ => 0)).toArray w fun e w' => e = .returned ((al (dt m g p b v i)).sv (fun _ => 0) y) ∧ Below w.heap.size w w' := ZbH (dt m g p b v i) fit2 G HG hv hG (ZbS w) (noL w) hf h _
set_option maxRecDepth 100000
theorem ZaV : Calls Tryz.prog 236 #[.pointer (some ⟨g, 0, none⟩), .agg (sc m x y z)] w fun e w' => e = .returned (.agg (scS m (dblS m (x, y, z)))) ∧ Below w.heap.size w w' := by
 have := Zbm HG (v5 x y z x x) [] (fun _ h => by cases h) Tryz.func236 (args := [gp0, scE (.v 0, .v 1, .v 2)]) (y := scE (dblE (.v 0) (.v 1) (.v 2))) (by kernel_rfl)
 simp only [scE, Al.sv, List.map_cons, List.map_nil, Zbz] at this
 exact this
theorem ZbC (a c : K) : Calls Tryz.prog 203 #[.pointer (some ⟨g, 0, none⟩), .agg (sc m x y z), .agg (pl m a c)] w fun e w' => e = .returned (.agg (scS m (plusS m (x, y, z) (a, c)))) ∧ Below w.heap.size w w' := by
 unfold plusS
 by_cases hz : Like m z k0
 ·
  rw [if_pos hz]
  have := Zbm HG (v5 x y z a c) [(.lk 0 (.v 2) (.c 0), true)] (fun q h => by simp only [List.mem_singleton] at h; subst h; exact (Zat _ _ _).trans (decide_eq_true hz)) Tryz.func203 (args := [gp0, scE (.v 0, .v 1, .v 2), plE (.v 3) (.v 4)]) (y := scE (.v 3, .v 4, .c 1)) (by kernel_rfl)
  simp only [scE, Al.sv, List.map_cons, List.map_nil, Zbz, ZbL] at this
  exact this
 ·
  rw [if_neg hz]
  by_cases hq : Like m (kmul m a (kmul m z z)) x ∧ Like m (kmul m c (kmul m (kmul m z z) z)) y
  ·
   rw [if_pos hq]
   have := Zbm HG (v5 x y z a c) [(.lk 0 (.v 2) (.c 0), false), (.lk 0 (.mu (.v 3) (.mu (.v 2) (.v 2))) (.v 0), true), (.lk 0 (.mu (.v 4) (.mu (.mu (.v 2) (.v 2)) (.v 2))) (.v 1), true)] (fun q h => by
    simp only [List.mem_cons, List.not_mem_nil, or_false] at h
    rcases h with rfl | rfl | rfl
    ·
     exact (Zat _ _ _).trans (decide_eq_false hz)
    ·
     exact (Zat _ _ _).trans (decide_eq_true hq.1)
    ·
     exact (Zat _ _ _).trans (decide_eq_true hq.2)) Tryz.func203 (args := [gp0, scE (.v 0, .v 1, .v 2), plE (.v 3) (.v 4)]) (y := scE (dblE (.v 0) (.v 1) (.v 2))) (by kernel_rfl)
   simp only [scE, Al.sv, List.map_cons, List.map_nil, Zbz, ZbL] at this
   exact this
  ·
   rw [if_neg hq]
   have := Zbm HG (v5 x y z a c) [(.lk 0 (.v 2) (.c 0), false), (.an (.lk 0 (.mu (.v 3) (.mu (.v 2) (.v 2))) (.v 0)) (.lk 0 (.mu (.v 4) (.mu (.mu (.v 2) (.v 2)) (.v 2))) (.v 1)), false)] (fun q h => by
    simp only [List.mem_cons, List.not_mem_nil, or_false] at h
    rcases h with rfl | rfl
    ·
     exact (Zat _ _ _).trans (decide_eq_false hz)
    ·
     show (likeB m _ _ && likeB m _ _) = false
     rw [Zat, Zat, ← Bool.decide_and]
     exact decide_eq_false hq) Tryz.func203 (args := [gp0, scE (.v 0, .v 1, .v 2), plE (.v 3) (.v 4)]) (y := scE (addE (.v 0) (.v 1) (.v 2) (.v 3) (.v 4))) (by kernel_rfl)
   simp only [scE, Al.sv, List.map_cons, List.map_nil, Zbz, ZbL] at this
   exact this
theorem ZeA (i : Bool) (hx : Fits x) (hy : Fits y) : Calls Tryz.prog 205 #[.pointer (some ⟨g, 0, none⟩), .agg (pt x y i)] w fun e w' => e = .returned (.agg (pl m x y)) ∧ Below w.heap.size w w' := by
 have := ZcO HG (v5 x y x x x) i (fits2 hx hy) [] (fun _ h => by cases h) Tryz.func205 (args := [gp0, ptE (.v 0) (.v 1) (.at_ 0)]) (y := plE (.v 0) (.v 1)) (by kernel_rfl)
 simp only [Al.sv, List.map_cons, List.map_nil, ZbL, ZaO] at this
 exact this
theorem Zb6 : Calls Tryz.prog 235 #[.pointer (some ⟨g, 0, none⟩)] w fun e w' => e = .returned (.agg (sc m k1 k1 k0)) ∧ Below w.heap.size w w' := by
 have := Zbm HG (v5 b b b b b) [] (fun _ h => by cases h) Tryz.func235 (args := [gp0]) (y := scE (.c 1, .c 1, .c 0)) (by kernel_rfl)
 simp only [scE, Al.sv, List.map_cons, List.map_nil, Zbz] at this
 exact this
def goodN (m : Nat) (b x y : K) (i : Bool) : Int :=
 if i = true then (if (decide (x = k0) && (decide (y = k0) && (true == true))) = true then 0 else 70)
 else if rest m x = x then (if rest m y = y then (if Like m (kmul m y y) (kadd m (kmul m (kmul m x x) x) b) then 0 else 71) else 70) else 70
theorem Zbe (hx : Fits x) (hy : Fits y) (i : Bool) (G : List (CX × Bool)) (k : Int) (hG : ∀ q ∈ G, (al (dt m g p b (v5 x y x x x) i)).cx q.1 = q.2) (h : runG fit2 G noT noX Tryz.f130 [gp0, ptE (.v 0) (.v 1) (.lit i)] = some (.one (.v (.int .i64 k)))) :
  Calls Tryz.prog 130 #[.pointer (some ⟨g, 0, none⟩), .agg (pt x y i)] w fun e w' => e = .returned (.int .i64 k) ∧ Below w.heap.size w w' := by
 have := ZcO HG (v5 x y x x x) i (fits2 hx hy) G hG Tryz.func130 h
 simp only [Al.sv, List.map_cons, List.map_nil, ZaO] at this
 exact this
theorem Zc6 (hx : Fits x) (hy : Fits y) (i : Bool) : Calls Tryz.prog 130 #[.pointer (some ⟨g, 0, none⟩), .agg (pt x y i)] w fun e w' => e = .returned (.int .i64 (goodN m b x y i)) ∧ Below w.heap.size w w' := by
 unfold goodN
 cases i with
 | true =>
  rw [if_pos rfl]
  by_cases h : (decide (x = k0) && (decide (y = k0) && (true == true))) = true
  ·
   rw [if_pos h]
   have h' : x = k0 ∧ y = k0 := by simpa using h
   exact Zbe HG x y hx hy true [(.lk 1 (.v 0) (.c 0), true), (.lk 1 (.v 1) (.c 0), true)] 0 (fun q hq => by
    simp only [List.mem_cons, List.not_mem_nil, or_false] at hq
    rcases hq with rfl | rfl
    ·
     exact decide_eq_true h'.1
    ·
     exact decide_eq_true h'.2) (by kernel_rfl)
  ·
   rw [if_neg h]
   have h' : ¬ (x = k0 ∧ y = k0) := by simpa using h
   exact Zbe HG x y hx hy true [(.an (.lk 1 (.v 0) (.c 0)) (.lk 1 (.v 1) (.c 0)), false)] 70 (fun q hq => by
    simp only [List.mem_singleton] at hq
    subst hq
    show (decide (x = k0) && decide (y = k0)) = false
    rw [← Bool.decide_and]
    exact decide_eq_false h') (by kernel_rfl)
 | false =>
  rw [if_neg (by decide)]
  by_cases h1 : rest m x = x
  ·
   rw [if_pos h1]
   by_cases h2 : rest m y = y
   ·
    rw [if_pos h2]
    by_cases h3 : Like m (kmul m y y) (kadd m (kmul m (kmul m x x) x) b)
    ·
     rw [if_pos h3]
     exact Zbe HG x y hx hy false [(.lk 1 (.u 2 (.v 0)) (.v 0), true), (.lk 1 (.u 2 (.v 1)) (.v 1), true), (.lk 0 (.mu (.v 1) (.v 1)) (.ad (.mu (.mu (.v 0) (.v 0)) (.v 0)) (.c 2)), true)] 0 (fun q hq => by
      simp only [List.mem_cons, List.not_mem_nil, or_false] at hq
      rcases hq with rfl | rfl | rfl
      ·
       exact decide_eq_true h1
      ·
       exact decide_eq_true h2
      ·
       exact (Zat _ _ _).trans (decide_eq_true h3)) (by kernel_rfl)
    ·
     rw [if_neg h3]
     exact Zbe HG x y hx hy false [(.lk 1 (.u 2 (.v 0)) (.v 0), true), (.lk 1 (.u 2 (.v 1)) (.v 1), true), (.lk 0 (.mu (.v 1) (.v 1)) (.ad (.mu (.mu (.v 0) (.v 0)) (.v 0)) (.c 2)), false)] 71 (fun q hq => by
      simp only [List.mem_cons, List.not_mem_nil, or_false] at hq
      rcases hq with rfl | rfl | rfl
      ·
       exact decide_eq_true h1
      ·
       exact decide_eq_true h2
      ·
       exact (Zat _ _ _).trans (decide_eq_false h3)) (by kernel_rfl)
   ·
    rw [if_neg h2]
    exact Zbe HG x y hx hy false [(.lk 1 (.u 2 (.v 0)) (.v 0), true), (.lk 1 (.u 2 (.v 1)) (.v 1), false)] 70 (fun q hq => by
     simp only [List.mem_cons, List.not_mem_nil, or_false] at hq
     rcases hq with rfl | rfl
     ·
      exact decide_eq_true h1
     ·
      exact decide_eq_false h2) (by kernel_rfl)
  ·
   rw [if_neg h1]
   exact Zbe HG x y hx hy false [(.lk 1 (.u 2 (.v 0)) (.v 0), false)] 70 (fun q hq => by
    simp only [List.mem_singleton] at hq
    subst hq
    exact decide_eq_false h1) (by kernel_rfl)
end
theorem Zc7 {w : World} {g p m : Nat} {b : K} (hG : GAt w g p m b) (s : T3) : Calls Tryz.prog 236 #[.pointer (some ⟨g, 0, none⟩), .agg (scS m s)] w fun e w' => e = .returned (.agg (scS m (dblS m s))) ∧ Below w.heap.size w w' :=
 ZaV hG s.1 s.2.1 s.2.2
theorem ZeB {w : World} {g p m : Nat} {b : K} (hG : GAt w g p m b) (s : T3) (q : K × K) : Calls Tryz.prog 203 #[.pointer (some ⟨g, 0, none⟩), .agg (scS m s), .agg (pl m q.1 q.2)] w fun e w' => e = .returned (.agg (scS m (plusS m s q))) ∧ Below w.heap.size w w' :=
 ZbC hG s.1 s.2.1 s.2.2 q.1 q.2
def stepS (m : Nat) (q : K × K) (bit : Bool) (s : T3) : T3 := red m (if bit = true then plusS m (red m (dblS m s)) q else dblS m s)
def timesJ (m : Nat) (q : K × K) (k : Nat) : Nat → T3
 | 0 => (k1, k1, k0)
 | j + 1 => stepS m q (bitq k j) (timesJ m q k j)
def timesS (m : Nat) (q : K × K) (k : Nat) : T3 := timesJ m q k (bl k)
end Go.Proofs.YtcbdbnfgnonacaaGreat.Q6
