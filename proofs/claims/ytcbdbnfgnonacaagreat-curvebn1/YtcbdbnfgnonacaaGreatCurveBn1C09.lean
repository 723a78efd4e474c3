/-
 A sum below twice the modulus, brought below it.
-/
import Derived.Test.YtcbdbnfgnonacaaGreatCurveBn1C08
set_option maxHeartbeats 2000000
set_option maxRecDepth 100000
namespace Go.Proofs.YtcbdbnfgnonacaaGreat
abbrev EX.ad := EX.b 0
abbrev EX.su := EX.b 1
abbrev EX.mu := EX.b 2
def dblE (x y z : EX) : EX × EX × EX :=
 let sq := EX.mu y y
 let t1 := EX.mu x sq
 let t2 := EX.ad t1 t1
 let mid := EX.ad t2 t2
 let sl0 := EX.mu x x
 let sl := EX.ad sl0 (EX.ad sl0 sl0)
 let X := EX.su (EX.mu sl sl) (EX.ad mid mid)
 let q1 := EX.mu sq sq
 let q2 := EX.ad q1 q1
 let q3 := EX.ad q2 q2
 let Y := EX.su (EX.mu sl (EX.su mid X)) (EX.ad q3 q3)
 (X, Y, EX.ad (EX.mu y z) (EX.mu y z))
def addE (x y z u v : EX) : EX × EX × EX :=
 let sq := EX.mu z z
 let X := EX.mu u sq
 let Y := EX.mu v (EX.mu sq z)
 let across := EX.su X x
 let up := EX.su Y y
 let sq2 := EX.mu across across
 let cube := EX.mu sq2 across
 let mid := EX.mu x sq2
 let X3 := EX.su (EX.su (EX.mu up up) cube) (EX.ad mid mid)
 let Y3 := EX.su (EX.mu up (EX.su mid X3)) (EX.mu y cube)
 (X3, Y3, EX.mu z across)
def scE (s : EX × EX × EX) : SV := .row [.e 0 s.1, .e 0 s.2.1, .e 0 s.2.2]
end Go.Proofs.YtcbdbnfgnonacaaGreat
namespace Go.Proofs.YtcbdbnfgnonacaaGreat.W4
open Go.RowKit Go.Shelf
def cs (g : Nat → Nat) : Array Value := #[.int .u64 (g 0), .int .u64 (g 1), .int .u64 (g 2), .int .u64 (g 3)]
theorem get (g : Nat → Nat) {j : Nat} (h : j < 4) : (cs g)[j]? = some (.int .u64 (g j)) := by
 match j, h with
 | 0, _ => rfl
 | 1, _ => rfl
 | 2, _ => rfl
 | 3, _ => rfl
 | k + 4, h => exact absurd h (by omega)
theorem set (g : Nat → Nat) {j : Nat} (v : Nat) (h : j < 4) : (cs g).setIfInBounds j (.int .u64 v) = cs (fun i => if i = j then v else g i) := by
 match j, h with
 | 0, _ => rfl
 | 1, _ => rfl
 | 2, _ => rfl
 | 3, _ => rfl
 | k + 4, h => exact absurd h (by omega)
theorem under : Tryz.prog.underlying 32 = some (.array 4 27) := by kernel_rfl
theorem info (g : Nat → Nat) : (Tryz.prog.info? 32).map (·.size) = some (cs g).size := by kernel_rfl
theorem one (g : Nat → Nat) : (cs g).all (·.oneCell') = true := by simp [cs, Value.oneCell']
theorem Za6 (g : Nat → Nat) : (cs g).size = 4 := rfl
def R : Nat := 115792089237316195423570985008687907853269984665640564039457584007913129639936
theorem R_eq : R = 18446744073709551616 ^ 4 := by decide
theorem ZiN : ∃ k, R = 2 ^ k := ⟨64 * 4, by rw [R_eq, show (18446744073709551616 : Nat) = 2 ^ 64 by decide, ← Nat.pow_mul]⟩
theorem R_pos : 0 < R := by decide
def wv (X : Nat) : Value := .agg (cs (limb X))
theorem ZiO (X : Nat) : wv X = .agg #[.int .u64 (limb X 0), .int .u64 (limb X 1), .int .u64 (limb X 2), .int .u64 (limb X 3)] := rfl
theorem Zbe {f g : Nat → Nat} (h : ∀ j, j < 4 → f j = g j) : cs f = cs g := by
 unfold cs
 rw [h 0 (by omega), h 1 (by omega), h 2 (by omega), h 3 (by omega)]
theorem Zcf {g : Nat → Nat} (h : ∀ j, j < 4 → g j < 18446744073709551616) : Value.agg (cs g) = wv (val g 4) := by
 unfold wv
 rw [Zbe (fun j hj => (Zcq 4 h hj).symm)]
theorem Zal {X : Nat} (h : X < R) : val (limb X) 4 = X := by
 rw [ZeM, ← R_eq, Nat.mod_eq_of_lt h]
theorem Zbn {g : Nat → Nat} (h : ∀ j, j < 4 → g j < 18446744073709551616) : val g 4 < R := by
 rw [R_eq]; exact ZbK _ h
theorem cells {w : World} {b t : Nat} {g : Nat → Nat} (h : w.heap[b]? = some (.cells (cs g) t (0, 0))) : w.cell? ⟨b, 0, none⟩ = some (.int .u64 (g 0)) ∧ w.cell? ⟨b, 1, none⟩ = some (.int .u64 (g 1)) ∧ w.cell? ⟨b, 2, none⟩ = some (.int .u64 (g 2)) ∧ w.cell? ⟨b, 3, none⟩ = some (.int .u64 (g 3)) :=
 ⟨Zac h rfl, Zac h rfl, Zac h rfl, Zac h rfl⟩
end Go.Proofs.YtcbdbnfgnonacaaGreat.W4
namespace Go.Proofs.YtcbdbnfgnonacaaGreat
open Go.RowKit Go.Shelf
section
variable {P : Program} {md : Region.Mode} {ops : Array Oper} {Q : Exit → Act → World → Prop} {S : World → Prop} {Z : List Nat}
def wpAnyZ (P : Program) (md : Region.Mode) (ops : Array Oper) (Q : Exit → Act → World → Prop) (S : World → Prop) (Z : List Nat) : Nat → Array Bool → Act → World → Prop
 | 0, listed, a, w => Region.ready md ops listed = [] ∧ Q .normal a w
 | f + 1, listed, a, w => (Region.ready md ops listed = [] → Q .normal a w) ∧ ∀ i ∈ Region.ready md ops listed, wpOp P ops Q i (fun a' w' => (i ∉ Z → S w') ∧ wpAnyZ P md ops Q S Z f (listed.setIfInBounds i true) a' w') a w
theorem Zhw : ∀ (f : Nat) (listed : Array Bool) (a : Act) (w : World), wpAnyZ P md ops Q S Z f listed a w → wpAny P md ops Q f listed a w
 | 0, _, _, _, h => h
 | f + 1, _, _, _, h => ⟨h.1, fun i hi => wpOp_mono (fun a' w' h' => Zhw f _ a' w' h'.2) (h.2 i hi)⟩
def Zcz (md : Region.Mode) (ops : Array Oper) : Nat → Nat → Nat → Bool
 | 0, _, _ => false
 | f + 1, z, i => match ops[z]? with
  | some o => o.after.any fun e => Region.binds md e && (e.on == i || Zcz md ops f e.on i)
  | none => false
def Closed (md : Region.Mode) (ops : Array Oper) (listed : Array Bool) : Prop :=
 ∀ j oj, ops[j]? = some oj → listed.getD j false = true → ∀ e ∈ oj.after, Region.binds md e = true → listed.getD e.on false = true
def Zg9 (md : Region.Mode) (ops : Array Oper) (listed : Array Bool) : Bool :=
 (List.range ops.size).all fun j => !listed.getD j false || (match ops[j]? with | some o => o.after.all fun e => !Region.binds md e || listed.getD e.on false | none => true)
theorem ZiP {listed : Array Bool} (h : Zg9 md ops listed = true) : Closed md ops listed := by
 intro j oj hj hl e he hb
 unfold Zg9 at h
 rw [List.all_eq_true] at h
 have h1 := h j (List.mem_range.2 (Array.getElem?_eq_some_iff.1 hj).1)
 rw [hj, hl] at h1
 simp only [Bool.not_true, Bool.false_or, Array.all_eq_true] at h1
 obtain ⟨k, hk, rfl⟩ := Array.mem_iff_getElem.1 he
 have h2 := h1 k hk
 rw [hb] at h2
 simpa using h2
theorem Closed.waits {listed : Array Bool} (hc : Closed md ops listed) {i : Nat} : ∀ (f z : Nat) (oz : Oper), ops[z]? = some oz → (∀ e ∈ oz.after, Region.binds md e = true → listed.getD e.on false = true) → Zcz md ops f z i = true → listed.getD i false = true
 | 0, _, _, _, _, h => by cases h
 | f + 1, z, oz, hz, hl, h => by
  unfold Zcz at h
  rw [hz] at h
  simp only [Array.any_eq_true, Bool.and_eq_true, Bool.or_eq_true, beq_iff_eq] at h
  obtain ⟨k, hk, hb, he | he⟩ := h
  ·
   rw [← he]; exact hl _ (Array.getElem_mem hk) hb
  ·
   cases ho : ops[oz.after[k].on]? with
   | none =>
    cases f with
    | zero => cases he
    | succ f => unfold Zcz at he; rw [ho] at he; cases he
   | some o => exact hc.waits f _ o ho (hc _ _ ho (hl _ (Array.getElem_mem hk) hb)) he
theorem Closed.set {listed : Array Bool} (hc : Closed md ops listed) {j : Nat} {oj : Oper} (hj : ops[j]? = some oj) (hl : ∀ e ∈ oj.after, Region.binds md e = true → listed.getD e.on false = true) : Closed md ops (listed.setIfInBounds j true) := by
 have up : ∀ k, listed.getD k false = true → (listed.setIfInBounds j true).getD k false = true := fun k hk => by
  rcases Decidable.em (j = k) with rfl | hne
  ·
   have hlt : j < listed.size := by
    rcases Nat.lt_or_ge j listed.size with h | h
    ·
     exact h
    ·
     simp [Array.getElem?_eq_none h] at hk
   simp [hlt]
  ·
   rwa [getD_set_ne false hne]
 intro k ok hk hkl e he hb
 refine up _ ?_
 rcases Decidable.em (j = k) with rfl | hne
 ·
  rw [hj] at hk
  cases hk
  exact hl e he hb
 ·
  rw [getD_set_ne false hne] at hkl
  exact hc k ok hk hkl e he hb
theorem ZhI {i : Nat} {oi : Oper} {v : Value} (hi : ops[i]? = some oi) (hsel : ∀ (j : Nat) (o : Oper) cs b, ops[j]? = some o → o.op ≠ .select cs b)
  (hQ : ∀ c a w, Q (.panic c) (a.put oi.dst v) w → Q (.panic c) a w) {T : World → Prop} (hT : (i ∈ Z ∧ ∀ w, T w) ∨ ((∀ w, S w → T w) ∧ ∃ g, ∀ z ∈ Z, Zcz md ops g z i = true)) :
  ∀ (f : Nat) (listed : Array Bool) (a : Act) (w : World), Closed md ops listed →
   (∀ j oj, ops[j]? = some oj → j ≠ i → listed.getD j true = false → (∀ e ∈ oj.after, Region.binds md e = true → e.on ≠ i) → oi.apart ops oj = true) →
   i ∈ Region.ready md ops listed → YieldsIf P ops T oi v a → T w → (i ∉ Z → S w) →
   wpAnyZ P md ops Q S Z f (listed.setIfInBounds i true) (a.put oi.dst v) w → wpAnyZ P md ops Q S Z (f + 1) listed a w := by
 intro f
 induction f with
 | zero =>
  intro listed a w _ _ hr hy hTw hS H
  refine ⟨fun h0 => absurd hr (by rw [h0]; simp), fun j hj => ?_⟩
  rcases Decidable.em (j = i) with rfl | hne
  ·
   exact hy.wpOp hi hTw ⟨hS, H⟩
  ·
   exact absurd (ready_mono hj hne) (by rw [H.1]; simp)
 | succ f ih =>
  intro listed a w hcl hfree hr hy hTw hS H
  refine ⟨fun h0 => absurd hr (by rw [h0]; simp), fun j hj => ?_⟩
  rcases Decidable.em (j = i) with rfl | hne
  ·
   exact hy.wpOp hi hTw ⟨hS, H⟩
  ·
   obtain ⟨hun, oj, hoj, hall⟩ := mem_ready.1 hj
   have hnot : ∀ e ∈ oj.after, Region.binds md e = true → e.on ≠ i := fun e he hb heq => by
    have t := hall e he hb
    have t0 := (mem_ready.1 hr).1
    rw [heq] at t
    rcases Nat.lt_or_ge i listed.size with h' | h'
    ·
     simp [h'] at t0 t; rw [t0] at t; cases t
    ·
     simp [Array.getElem?_eq_none h'] at t
   have hTj : ∀ w', (j ∉ Z → S w') → T w' ∧ (i ∉ Z → S w') := fun w' hs => by
    rcases hT with ⟨hiZ, h⟩ | ⟨h, g, hz⟩
    ·
     exact ⟨h w', fun hn => absurd hiZ hn⟩
    ·
     have hS' : S w' := hs fun hjZ => by
      have t := hcl.waits g j oj hoj (fun e he hb => by simpa using hall e he hb) (hz j hjZ)
      have t0 := (mem_ready.1 hr).1
      rcases Nat.lt_or_ge i listed.size with h' | h'
      ·
       simp [h'] at t0 t; rw [t0] at t; cases t
      ·
       simp [Array.getElem?_eq_none h'] at t
     exact ⟨h w' hS', fun _ => hS'⟩
   have hfree' : ∀ k ok, ops[k]? = some ok → k ≠ i → (listed.setIfInBounds j true).getD k true = false →
     (∀ e ∈ ok.after, Region.binds md e = true → e.on ≠ i) → oi.apart ops ok = true := fun k ok hk hki hun' hno => by
    refine hfree k ok hk hki ?_ hno
    rcases Decidable.em (j = k) with rfl | hjk
    ·
     exact hun
    ·
     rwa [getD_set_ne true hjk] at hun'
   refine wpOp_mono (fun a' w' h3 => ⟨h3.2.1, ih _ a' w' (hcl.set hoj (fun e he hb => by simpa using hall e he hb)) hfree' (ready_mono hr (Ne.symm hne)) h3.1 (hTj w' h3.2.1).1 (hTj w' h3.2.1).2 ?_⟩)
    (wpOp_putIf hoj (hfree j oj hoj hne hun hnot) (fun cs b => hsel i oi cs b hi) (fun cs b => hsel j oj cs b hoj) hQ hy (H.2 j (ready_mono hj hne)))
   rw [Array.setIfInBounds_comm _ _ hne]
   exact h3.2.2
def ZiQ (md : Region.Mode) (ops : Array Oper) (g : Nat) (Z : List Nat) (i : Nat) : Bool := Z.all fun z => Zcz md ops g z i
theorem Zbw {l : List Oper} {i : Nat} {oi : Oper} {v : Value} {f : Nat} {listed : Array Bool} {a : Act} {w : World} (hi : l[i]? = some oi)
  (hs : Region.noSelect l.toArray = true) (hf : Region.free md l.toArray listed i = true) (hr : (Region.ready md l.toArray listed).contains i = true) {g : Nat} (hz : ZiQ md l.toArray g Z i = true) (hc : Zg9 md l.toArray listed = true)
  (hQ : ∀ c a w, Q (.panic c) (a.put oi.dst v) w → Q (.panic c) a w) (hy : YieldsIf P l.toArray S oi v a) (hS : S w)
  (h : wpAnyZ P md l.toArray Q S Z f (listed.setIfInBounds i true) (a.put oi.dst v) w) : wpAnyZ P md l.toArray Q S Z (f + 1) listed a w :=
 ZhI (by simpa using hi) (Region.noSelect_spec hs) hQ (.inr ⟨fun _ h => h, g, by unfold ZiQ at hz; simpa using hz⟩) f listed a w (ZiP hc) (Region.free_spec (by simpa using hi) hf) (by simpa using hr) hy hS (fun _ => hS) h
theorem Zhx {i : Nat} {o : Oper} {f : Nat} {listed : Array Bool} {a : Act} {w : World} (hr : Region.ready md ops listed = [i]) (ho : ops[i]? = some o)
  (h : ∀ K : Act → World → Prop, Shut (∀ a w, (i ∉ Z → S w) → wpAnyZ P md ops Q S Z f (listed.setIfInBounds i true) a w → K a w) → if Region.wanted o (yielded ops a.tmps) = true then Oper.wp P o a w K Q else K (a.put o.dst undef) w) :
  wpAnyZ P md ops Q S Z (f + 1) listed a w :=
 ⟨fun h0 => absurd (hr ▸ h0) (by simp), fun j hj => by
  rw [hr] at hj
  obtain rfl : j = i := by simpa using hj
  exact wpOp_step ho (fun K hK => h K (fun a w hS hW => hK a w ⟨hS, hW⟩))⟩
theorem ZfR {listed : Array Bool} {a : Act} {w : World} (hr : Region.ready md ops listed = []) (h : Q .normal a w) : ∀ f, wpAnyZ P md ops Q S Z f listed a w
 | 0 => ⟨hr, h⟩
 | _ + 1 => ⟨fun _ => h, by rw [hr]; simp⟩
theorem ZdO {id : Nat} {a : Act} {w : World} (Z : List Nat) (S : World → Prop) (hm : P.follows .mixedOrders = true) (hS : S w.drew)
  (h : S w.drew → wpAnyZ P .any ops Q S Z ops.size (Array.replicate ops.size false) a w.drew) : (Code.region id ops true).wp P Q a w :=
 wp_region_any hm (Zhw _ _ _ _ (h hS))
end
theorem Zdz {K : Act → World → Prop} {Q : Exit → Act → World → Prop} {a : Act} {w : World} (h : Q .ret a w) : Exit.then K Q .ret a w := h
theorem ZkA {P : Program} {op : Oper} {a : Act} (t t2 : TypeId) (x y : Operand) (ho : op.op = .binOp .eql t x y t2) {A B : Array Value} (hx : a.eval x = .agg A) (hy : a.eval y = .agg B) {b : Bool}
  (hq : P.eqGuardType P.depth t = false) (w : World) (he : (Op.equalIn 10000 t (.agg A) (.agg B)).run P w = .ok b w) : (execOp a.eval op).run P w = .ok (.value (.bool b)) w := by
 unfold execOp
 have hp : (program : Sem Program).run P w = .ok P w := rfl
 have hg : (eqGuard BinOp.eql t x y (.agg A) (.agg B)).run P w = .ok () w := by
  unfold eqGuard
  simp [Sem.run_bind, hp, Result.andThen, hq]
 simp only [ho, hx, hy, Sem.run_bind, hg, Result.andThen]
 have hb : (binOp BinOp.eql t (.agg A) (.agg B)).run P w = .ok (.bool b) w := by
  simp only [binOp, Op.equal, Op.maxDepth, Sem.run_bind, he, Result.andThen, Sem.run_pure]
 rw [hb]
 rfl
theorem Zm6 {P : Program} {op : Oper} {l : List Value} {ds : List Deferred} {w : World} {K : Act → World → Prop} {Q : Exit → Act → World → Prop} (t t2 : TypeId) (x y : Operand) (d : Nat) (ho : op.op = .binOp .eql t x y t2) (hd : op.dst = some d) {A B : Array Value} (hx : Act.eval { tmps := l.toArray, defers := ds } x = .agg A) (hy : Act.eval { tmps := l.toArray, defers := ds } y = .agg B) {b : Bool}
  (hq : P.eqGuardType P.depth t = false) (he : (Op.equalIn 10000 t (.agg A) (.agg B)).run P w = .ok b w) (h : K { tmps := (l.set d (.bool b)).toArray, defers := ds } w) : op.wp P { tmps := l.toArray, defers := ds } w K Q := by
 unfold Oper.wp
 rw [ZkA t t2 x y ho hx hy hq w he]
 show K _ _
 rw [hd, Zaa]
 exact h
theorem ZaO {P : Program} {t : TypeId} {w : World} {A X C : Array Value} {off n : Nat} {d : TypeDesc} (hu : P.underlying t = some d) (hd : d.isRow = true) (hi : (P.info? t).map (·.size) = some n) (hA : A.size = off) (hX : X.size = n) : (part t (A ++ (X ++ C)) off).run P w = .ok (.agg X) w := by
 cases hq : P.info? t with
 | none => simp [hq] at hi
 | some i =>
  have hs : i.size = n := by simpa [hq] using hi
  have hagg : (isAgg t).run P w = .ok true w := by
   unfold isAgg
   rw [Sem.run_bind, run_underlying hu w]
   cases d <;> simp_all
  have e : (A ++ (X ++ C)).extract off (off + n) = X := by
   refine Array.ext_getElem? fun j => ?_
   rw [Array.getElem?_extract]
   by_cases h : j < n
   ·
    rw [if_pos (by simp; omega), Array.getElem?_append_right (by omega), show off + j - A.size = j by omega, Array.getElem?_append_left (by omega)]
   ·
    rw [if_neg (by omega), Array.getElem?_eq_none (by omega)]
  unfold part
  simp only [Sem.run_bind, hagg, Result.andThen, if_true, sizeOf, typeInfo]
  have hp : (program : Sem Program).run P w = .ok P w := rfl
  simp only [hp, hq, Sem.run_pure, hs, e]
theorem ZiR {P : Program} {t e1 e2 : TypeId} {d n1 n2 : Nat} {f1 f2 : Field} {d1 d2 : TypeDesc} {X1 Y1 X2 Y2 : Array Value} {b1 b2 : Bool} {w : World} (hu : P.underlying t = some (.struct #[f1, f2])) (hst : P.stoodInHeld t = false) (hn1 : f1.name ≠ "_") (hn2 : f2.name ≠ "_") (ht1 : f1.type = e1) (ht2 : f2.type = e2) (ho1 : f1.offset = 0) (ho2 : f2.offset = n1)
  (hu1 : P.underlying e1 = some d1) (hd1 : d1.isRow = true) (hi1 : (P.info? e1).map (·.size) = some n1) (hu2 : P.underlying e2 = some d2) (hd2 : d2.isRow = true) (hi2 : (P.info? e2).map (·.size) = some n2)
  (hX1 : X1.size = n1) (hX2 : X2.size = n1) (hY1 : Y1.size = n2) (hY2 : Y2.size = n2) (h1 : (Op.equalIn d e1 (.agg X1) (.agg X2)).run P w = .ok b1 w) (h2 : (Op.equalIn d e2 (.agg Y1) (.agg Y2)).run P w = .ok b2 w) :
  (Op.equalIn (d + 1) t (.agg (X1 ++ Y1)) (.agg (X2 ++ Y2))).run P w = .ok (b1 && b2) w := by
 have hp : (program : Sem Program).run P w = .ok P w := rfl
 have p1 := ZaO (P := P) (w := w) (A := #[]) (off := 0) (X := X1) (C := Y1) hu1 hd1 hi1 rfl hX1
 have p2 := ZaO (P := P) (w := w) (A := #[]) (off := 0) (X := X2) (C := Y2) hu1 hd1 hi1 rfl hX2
 have q1 := ZaO (P := P) (w := w) (A := X1) (X := Y1) (C := #[]) hu2 hd2 hi2 hX1 hY1
 have q2 := ZaO (P := P) (w := w) (A := X2) (X := Y2) (C := #[]) hu2 hd2 hi2 hX2 hY2
 rw [Array.empty_append] at p1 p2
 rw [Array.append_empty] at q1 q2
 unfold Op.equalIn
 simp only [Sem.run_bind, run_underlying hu w, Result.andThen, hp, hst]
 cases b1 <;> cases b2 <;> simp [Sem.run_bind, hn1, hn2, ht1, ht2, ho1, ho2, p1, p2, q1, q2, h1, h2, Result.andThen]
theorem ZdP {P : Program} {t e1 e2 e3 : TypeId} {d n1 n2 : Nat} {f1 f2 f3 : Field} {d1 d2 : TypeDesc} {X1 Y1 X2 Y2 : Array Value} {i1 i2 b1 b2 : Bool} {w : World} (hu : P.underlying t = some (.struct #[f1, f2, f3])) (hst : P.stoodInHeld t = false) (hn1 : f1.name ≠ "_") (hn2 : f2.name ≠ "_") (hn3 : f3.name ≠ "_") (ht1 : f1.type = e1) (ht2 : f2.type = e2) (ht3 : f3.type = e3) (ho1 : f1.offset = 0) (ho2 : f2.offset = n1) (ho3 : f3.offset = n1 + n2)
  (hu1 : P.underlying e1 = some d1) (hd1 : d1.isRow = true) (hi1 : (P.info? e1).map (·.size) = some n1) (hu2 : P.underlying e2 = some d2) (hd2 : d2.isRow = true) (hi2 : (P.info? e2).map (·.size) = some n2) (hk : P.plainKey e3 = true)
  (hX1 : X1.size = n1) (hX2 : X2.size = n1) (hY1 : Y1.size = n2) (hY2 : Y2.size = n2) (h1 : (Op.equalIn d e1 (.agg X1) (.agg X2)).run P w = .ok b1 w) (h2 : (Op.equalIn d e2 (.agg Y1) (.agg Y2)).run P w = .ok b2 w) (h3 : (Op.equalIn d e3 (.bool i1) (.bool i2)).run P w = .ok (i1 == i2) w) :
  (Op.equalIn (d + 1) t (.agg (X1 ++ (Y1 ++ #[.bool i1]))) (.agg (X2 ++ (Y2 ++ #[.bool i2])))).run P w = .ok (b1 && (b2 && (i1 == i2))) w := by
 have hp : (program : Sem Program).run P w = .ok P w := rfl
 have p1 := ZaO (P := P) (w := w) (A := #[]) (off := 0) (X := X1) (C := Y1 ++ #[.bool i1]) hu1 hd1 hi1 rfl hX1
 have p2 := ZaO (P := P) (w := w) (A := #[]) (off := 0) (X := X2) (C := Y2 ++ #[.bool i2]) hu1 hd1 hi1 rfl hX2
 have q1 := ZaO (P := P) (w := w) (A := X1) (X := Y1) (C := #[.bool i1]) hu2 hd2 hi2 hX1 hY1
 have q2 := ZaO (P := P) (w := w) (A := X2) (X := Y2) (C := #[.bool i2]) hu2 hd2 hi2 hX2 hY2
 have r1 : (part e3 (X1 ++ (Y1 ++ #[.bool i1])) (n1 + n2)).run P w = .ok (.bool i1) w := run_part_plain _ hk (by rw [Array.getElem?_append_right (by omega), Array.getElem?_append_right (by omega), show n1 + n2 - X1.size - Y1.size = 0 by omega]; rfl)
 have r2 : (part e3 (X2 ++ (Y2 ++ #[.bool i2])) (n1 + n2)).run P w = .ok (.bool i2) w := run_part_plain _ hk (by rw [Array.getElem?_append_right (by omega), Array.getElem?_append_right (by omega), show n1 + n2 - X2.size - Y2.size = 0 by omega]; rfl)
 rw [Array.empty_append] at p1 p2
 generalize hA : X1 ++ (Y1 ++ #[.bool i1]) = A at *
 generalize hB : X2 ++ (Y2 ++ #[.bool i2]) = B at *
 unfold Op.equalIn
 simp only [Sem.run_bind, run_underlying hu w, Result.andThen, hp, hst]
 generalize hc : (i1 == i2) = c at *
 cases b1 <;> cases b2 <;> cases c <;> simp [Sem.run_bind, hn1, hn2, hn3, ht1, ht2, ht3, ho1, ho2, ho3, p1, p2, q1, q2, r1, r2, h1, h2, h3, Result.andThen]
theorem Za1 {P : Program} {ops : Array Oper} {rest : List Oper} {op : Oper} {a : Act} {w : World} {Q : Exit → Act → World → Prop} (hw : Region.wanted op (yielded ops a.tmps) = true) (h : ∀ K : Act → World → Prop, (∀ a w, wpList P ops Q rest a w → K a w) → op.wp P a w K Q) : wpList P ops Q (op :: rest) a w :=
 wpList_step fun K hK => by rw [if_pos hw]; exact h K hK
theorem Zfh {P : Program} {fn : Func} {R : Ending → World → Prop} {Q : Exit → Act → World → Prop} {a : Act} {w : World} {id R0 j k k2 c ty ty1 ty2 ty3 ty4 : Nat} {C : Array Value} {v : Value} {d : TypeDesc} {pos1 pos2 pos3 pos4 aft1 aft2 aft3 aft4} (hQ : ∀ a w, bodyPost P fn R .ret a w → Q .ret a w) (hf : fn.results = #[.cell j ty, .tmp c]) (hj : a.eval (.tmp j) = .pointer (some ⟨R0, 0, none⟩)) (hc : a.eval (.tmp c) = v)
  (n1 : k ≠ j) (n2 : k2 ≠ j) (n3 : c ≠ j) (n4 : k ≠ c) (n5 : k2 ≠ k) (hk : k < a.tmps.size) (hk2 : k2 < a.tmps.size) (hcs : c < a.tmps.size) (hd : a.defers = [])
  (hu : P.underlying ty = some d) (hr : d.isRow = true) (hs : (P.info? ty).map (·.size) = some C.size) (h1 : C.all (·.oneCell') = true)
  (hL : w.rangeAt R0 0 C.toList) (hR : w.there R0 0 C.size) (h : ∀ wS, But R0 w wS → R (.returned (.tuple #[.agg C, v])) wS) :
  ((Code.region id #[{ dst := some k, op := .load ty (.tmp j), type := ty1, pos := pos1, after := aft1, guard := none }, { dst := some k2, op := .move (.tmp c), type := ty2, pos := pos2, after := aft2, guard := none }, { dst := none, op := .store ty (.tmp j) (.tmp k), type := ty3, pos := pos3, after := aft3, guard := none }, { dst := some c, op := .assign (.tmp k2), type := ty4, pos := pos4, after := aft4, guard := none }] false).seq .ret).wp P Q a w := by
 refine wp_seq ?_
 refine wp_region_list ?_
 have hs' : (P.info? ty).map (·.size) = some C.toList.length := by rw [Array.length_toList]; exact hs
 refine wpList_load_mid rfl ty (.tmp j) rfl R0 0 hj C.toList _ hL hu hr hs' ?_
 have e1 : (a.put (some k) (.agg C)).eval (.tmp c) = v := by rw [Zdi _ _ n4, hc]
 refine wpList_plain rfl fun K hK => ?_
 refine hK ((a.put (some k) (.agg C)).put (some k2) v) _ ?_ |> fun h => by
  unfold Oper.wp
  simp only [execOp, Array.toArray_toList, e1]
  exact h
 have e2 : ((a.put (some k) (.agg C)).put (some k2) v).eval (.tmp j) = .pointer (some ⟨R0, 0, none⟩) := by rw [Zdi _ _ n2, Zdi _ _ n1, hj]
 have e3 : ((a.put (some k) (.agg C)).put (some k2) v).eval (.tmp k) = .agg C := by rw [Zdi _ _ n5, Zcr _ _ _ hk]
 have e4 : ((a.put (some k) (.agg C)).put (some k2) v).eval (.tmp k2) = v := Zcr _ _ _ (by simp [Act.put]; exact hk2)
 refine wpList_store_mid rfl ty (.tmp j) (.tmp k) rfl R0 0 C e2 e3 hR hs h1 ?_
 refine wpList_plain rfl fun K hK => ?_
 rw [Zas]
 have hb := World.rangeAt_setCells_same w R0 0 C.toList (by rw [Array.length_toList]; exact hR)
 refine hK ((((a.put (some k) (.agg C)).put (some k2) v)).put (some c) v) _ ?_ |> fun h => by
  unfold Oper.wp
  simp only [execOp, e4]
  exact h
 have hj2 : (((a.put (some k) (.agg C)).put (some k2) v).put (some c) v).eval (.tmp j) = .pointer (some ⟨R0, 0, none⟩) := by rw [Zdi _ _ n3]; exact e2
 have hc2 : (((a.put (some k) (.agg C)).put (some k2) v).put (some c) v).eval (.tmp c) = v := Zcr _ _ _ (by simp [Act.put]; exact hcs)
 exact wpList_nil (wp_ret (hQ _ _ (bodyPost_ret_by (Zbs hf hj2 hc2 (run_loadVar_mid _ R0 0 ty C.toList _ hb hu hr hs')) hd (h _ (But.sets _ _ (But.refl _ _))))))
end Go.Proofs.YtcbdbnfgnonacaaGreat
namespace Go.Proofs.YtcbdbnfgnonacaaGreat.W4
open Go.RowKit Go.Shelf
structure MI (W wr : World) (D : Nat) (x y gk : Nat → Nat) (k c : Nat) : Prop where
 lt : ∀ j, gk j < 18446744073709551616
 sum : val x k + 18446744073709551616 ^ k * c = val gk k + val y k
 c : c ≤ 1
 cells : wr.heap[D]? = some (.cells (cs gk) 32 (0, 0))
 but : But D W wr
theorem MI.put {W wr : World} {D : Nat} {x y gk : Nat → Nat} {k c s c' : Nat} (I : MI W wr D x y gk k c) (hk : k < 4) (hs : s < 18446744073709551616) (hc : c' ≤ 1)
  (e : x k + 18446744073709551616 * c' = s + y k + c) :
  MI W (wr.drew.setCell ⟨D, k, none⟩ (.int .u64 s)) D x y (fun i => if i = k then s else gk i) (k + 1) c' := by
 refine ⟨fun j => ?_, ?_, hc, ?_, I.but.drew.set _ _⟩
 ·
  split
  ·
   exact hs
  ·
   exact I.lt j
 ·
  have h1 : val (fun j => if j = k then s else gk j) k = val gk k := Za0 k (fun j hj => by rw [if_neg (by omega)])
  show val x k + x k * 18446744073709551616 ^ k + 18446744073709551616 ^ (k + 1) * c' = val (fun j => if j = k then s else gk j) k + (if k = k then s else gk k) * 18446744073709551616 ^ k + (val y k + y k * 18446744073709551616 ^ k)
  rw [h1, if_pos rfl, Nat.pow_succ]
  have h2 := I.sum
  grind
 ·
  have h3 : wr.drew.heap[D]? = some (.cells (cs gk) 32 (0, 0)) := I.cells
  have := Zaw (o := k) h3 (.int .u64 s)
  rw [set gk s hk] at this
  exact this
theorem ZdQ (x y : Nat → Nat) (hx : ∀ j, x j < 18446744073709551616) (hy : ∀ j, y j < 18446744073709551616) (w : World) :
  Calls Tryz.prog 217 #[.agg (cs x), .agg (cs y)] w fun e w' => ∃ (g : Nat → Nat) (c : Nat), e = .returned (.tuple #[.agg (cs g), .int .u64 c]) ∧ (∀ j, g j < 18446744073709551616) ∧ c ≤ 1 ∧
   val x 4 + R * c = val g 4 + val y 4 ∧ Below w.heap.size w w' := by
 have HX := hideP hx
 have HY := hideP hy
 clear hx hy
 unfold cs
 go_enter Tryz.func217, Tryz.ntmps217
 go_wp2_with fail
 rename_i Q' K hK
 have HK := hideP hK
 clear hK
 refine Zaj (fun W0 hW0 => ?_)
 have hA : W0.heap[w.heap.size]? = some (.cells (cs x) 32 (0, 0)) := by
  rw [hW0]
  exact (Zah _ _ (by simp <;> omega)).trans ((Zah _ _ (by simp)).trans (Zaf _ _))
 have hB : W0.heap[w.heap.size + 1]? = some (.cells (cs y) 32 (0, 0)) := by
  rw [hW0]
  exact (Zah _ _ (by simp)).trans (Zat _ _ _)
 have hD : W0.heap[w.heap.size + 1 + 1]? = some (.cells (cs (fun _ => 0)) 32 (0, 0)) := by
  rw [hW0]
  exact ZaG _ _ _ _
 have HBW : Hid (Below w.heap.size w W0) := by
  show Below _ _ _
  rw [hW0]
  repeat first | exact Below.refl _ _ | (refine Below.alloc ?_ (by simp <;> omega) _)
 clear hW0
 have HI0 : Hid (MI W0 W0 (w.heap.size + 1 + 1) x y (fun _ => 0) 0 0) := ⟨fun _ => by decide, by simp [val], by omega, hD, But.refl _ _⟩
 have HA := hideP hA
 have HB := hideP hB
 clear hA hB hD
 go_loopw [5, 9] (fun c i wr => ∃ (k cv : Nat) (gk : Nat → Nat), k ≤ 4 ∧ i = .int .i64 k ∧ c = .int .u64 cv ∧ MI W0 wr (w.heap.size + 1 + 1) x y gk k cv) (fun _ i _ => 4 - (intOf i).toNat)
 case atStart => exact ⟨0, 0, fun _ => 0, Nat.zero_le _, rfl, rfl, HI0.out⟩
 case round =>
  obtain ⟨k, cv, gk, hk, rfl, rfl, I⟩ := hrel
  have HI := hideP I
  clear I
  by_cases hlt : k < 4
  ·
   obtain ⟨s, c', hs, hc', e2, hsb⟩ := Zds (x k) (y k) cv (HX.out _) (HY.out _) HI.out.c
   have ca := (HI.out.but.cell (o := k) (show w.heap.size ≠ w.heap.size + 1 + 1 by omega)).trans (Zac HA.out (get x hlt))
   have cb := (HI.out.but.cell (o := k) (show w.heap.size + 1 ≠ w.heap.size + 1 + 1 by omega)).trans (Zac HB.out (get y hlt))
   have fr : ∀ o, wr.frozen? ⟨w.heap.size + 1 + 1, o, none⟩ = false := fun o => Zap HI.out.cells
   have cd := Zac HI.out.cells (get gk hlt)
   have HN := hideP (HI.out.put hlt hs hc' e2)
   have hlt' : (k : Int) < 4 := by omega
   have e4 : IntKind.i64.wrap ((k : Int) + 1) = (k : Int) + 1 := by rw [IntKind.wrap_i64]; omega
   have HKS : Hid (k + 1 ≤ 4) := hlt
   clear e2 hs hc' hk hlt
   go_wp2_with fail
   go_region
   go_wp2_with fail
   refine ⟨⟨k + 1, c', _, HKS.out, by go_num, rfl, HN.out⟩, by have := HKS.out; simp [intOf]; omega⟩
  ·
   have hkn : k = 4 := by omega
   have hnl : ¬ (k : Int) < 4 := by omega
   have HJ : Hid (MI W0 wr (w.heap.size + 1 + 1) x y gk 4 cv) := hkn ▸ HI.out
   clear hk hlt hkn HI
   go_wp2_with fail
   refine HK.out _ _ ?_
   refine Zfh (fun _ _ h => h) rfl rfl rfl (by decide) (by decide) (by decide) (by decide) (by decide) (by show 26 < 28; decide) (by show 27 < 28; decide) (by show 5 < 28; decide) rfl under rfl (info _) (one _) (Zag HJ.out.cells) (ZcT HJ.out.cells) ?_
   intro wS hBut
   refine ⟨gk, cv, rfl, HJ.out.lt, HJ.out.c, by rw [R_eq]; exact HJ.out.sum, HBW.out.trans ((HJ.out.but.below.trans hBut.below).mono (by omega))⟩
structure PI (W wr : World) (D : Nat) (x y gk : Nat → Nat) (k c : Nat) : Prop where
 lt : ∀ j, gk j < 18446744073709551616
 sum : val x k + val y k = val gk k + 18446744073709551616 ^ k * c
 c : c ≤ 1
 cells : wr.heap[D]? = some (.cells (cs gk) 32 (0, 0))
 but : But D W wr
theorem PI.put {W wr : World} {D : Nat} {x y gk : Nat → Nat} {k c s c' : Nat} (I : PI W wr D x y gk k c) (hk : k < 4) (hs : s < 18446744073709551616) (hc : c' ≤ 1)
  (e : x k + y k + c = s + 18446744073709551616 * c') :
  PI W (wr.drew.setCell ⟨D, k, none⟩ (.int .u64 s)) D x y (fun i => if i = k then s else gk i) (k + 1) c' := by
 refine ⟨fun j => ?_, ?_, hc, ?_, I.but.drew.set _ _⟩
 ·
  split
  ·
   exact hs
  ·
   exact I.lt j
 ·
  have h1 : val (fun j => if j = k then s else gk j) k = val gk k := Za0 k (fun j hj => by rw [if_neg (by omega)])
  show val x k + x k * 18446744073709551616 ^ k + (val y k + y k * 18446744073709551616 ^ k) = val (fun j => if j = k then s else gk j) k + (if k = k then s else gk k) * 18446744073709551616 ^ k + 18446744073709551616 ^ (k + 1) * c'
  rw [h1, if_pos rfl, Nat.pow_succ]
  have h2 := I.sum
  grind
 ·
  have h3 : wr.drew.heap[D]? = some (.cells (cs gk) 32 (0, 0)) := I.cells
  have := Zaw (o := k) h3 (.int .u64 s)
  rw [set gk s hk] at this
  exact this
theorem ZkB (x y : Nat → Nat) (hx : ∀ j, x j < 18446744073709551616) (hy : ∀ j, y j < 18446744073709551616) (w : World) :
  Calls Tryz.prog 285 #[.agg (cs x), .agg (cs y)] w fun e w' => ∃ (g : Nat → Nat) (c : Nat), e = .returned (.tuple #[.agg (cs g), .int .u64 c]) ∧ (∀ j, g j < 18446744073709551616) ∧ c ≤ 1 ∧
   val x 4 + val y 4 = val g 4 + R * c ∧ Below w.heap.size w w' := by
 have HX := hideP hx
 have HY := hideP hy
 clear hx hy
 unfold cs
 go_enter Tryz.func285, Tryz.ntmps285
 go_wp2_with fail
 rename_i Q' K hK
 have HK := hideP hK
 clear hK
 refine Zaj (fun W0 hW0 => ?_)
 have hA : W0.heap[w.heap.size]? = some (.cells (cs x) 32 (0, 0)) := by
  rw [hW0]
  exact (Zah _ _ (by simp <;> omega)).trans ((Zah _ _ (by simp)).trans (Zaf _ _))
 have hB : W0.heap[w.heap.size + 1]? = some (.cells (cs y) 32 (0, 0)) := by
  rw [hW0]
  exact (Zah _ _ (by simp)).trans (Zat _ _ _)
 have hD : W0.heap[w.heap.size + 1 + 1]? = some (.cells (cs (fun _ => 0)) 32 (0, 0)) := by
  rw [hW0]
  exact ZaG _ _ _ _
 have HBW : Hid (Below w.heap.size w W0) := by
  show Below _ _ _
  rw [hW0]
  repeat first | exact Below.refl _ _ | (refine Below.alloc ?_ (by simp <;> omega) _)
 clear hW0
 have HI0 : Hid (PI W0 W0 (w.heap.size + 1 + 1) x y (fun _ => 0) 0 0) := ⟨fun _ => by decide, by simp [val], by omega, hD, But.refl _ _⟩
 have HA := hideP hA
 have HB := hideP hB
 clear hA hB hD
 go_loopw [5, 9] (fun c i wr => ∃ (k cv : Nat) (gk : Nat → Nat), k ≤ 4 ∧ i = .int .i64 k ∧ c = .int .u64 cv ∧ PI W0 wr (w.heap.size + 1 + 1) x y gk k cv) (fun _ i _ => 4 - (intOf i).toNat)
 case atStart => exact ⟨0, 0, fun _ => 0, Nat.zero_le _, rfl, rfl, HI0.out⟩
 case round =>
  obtain ⟨k, cv, gk, hk, rfl, rfl, I⟩ := hrel
  have HI := hideP I
  clear I
  by_cases hlt : k < 4
  ·
   obtain ⟨s, c', hs, hc', e2, hsb⟩ := ZeJ (x k) (y k) cv (HX.out _) (HY.out _) HI.out.c
   have ca := (HI.out.but.cell (o := k) (show w.heap.size ≠ w.heap.size + 1 + 1 by omega)).trans (Zac HA.out (get x hlt))
   have cb := (HI.out.but.cell (o := k) (show w.heap.size + 1 ≠ w.heap.size + 1 + 1 by omega)).trans (Zac HB.out (get y hlt))
   have fr : ∀ o, wr.frozen? ⟨w.heap.size + 1 + 1, o, none⟩ = false := fun o => Zap HI.out.cells
   have cd := Zac HI.out.cells (get gk hlt)
   have HN := hideP (HI.out.put hlt hs hc' e2)
   have hlt' : (k : Int) < 4 := by omega
   have e4 : IntKind.i64.wrap ((k : Int) + 1) = (k : Int) + 1 := by rw [IntKind.wrap_i64]; omega
   have HKS : Hid (k + 1 ≤ 4) := hlt
   clear e2 hs hc' hk hlt
   go_wp2_with fail
   go_region
   go_wp2_with fail
   refine ⟨⟨k + 1, c', _, HKS.out, by go_num, rfl, HN.out⟩, by have := HKS.out; simp [intOf]; omega⟩
  ·
   have hkn : k = 4 := by omega
   have hnl : ¬ (k : Int) < 4 := by omega
   have HJ : Hid (PI W0 wr (w.heap.size + 1 + 1) x y gk 4 cv) := hkn ▸ HI.out
   clear hk hlt hkn HI
   go_wp2_with fail
   refine HK.out _ _ ?_
   refine Zfh (fun _ _ h => h) rfl rfl rfl (by decide) (by decide) (by decide) (by decide) (by decide) (by show 26 < 28; decide) (by show 27 < 28; decide) (by show 5 < 28; decide) rfl under rfl (info _) (one _) (Zag HJ.out.cells) (ZcT HJ.out.cells) ?_
   intro wS hBut
   refine ⟨gk, cv, rfl, HJ.out.lt, HJ.out.c, by rw [R_eq]; exact HJ.out.sum, HBW.out.trans ((HJ.out.but.below.trans hBut.below).mono (by omega))⟩
def less1 (X Y : Nat) : Nat := if X < Y then 1 else 0
theorem Zb7 (X Y : Nat) (hX : X < R) (hY : Y < R) (w : World) :
  Calls Tryz.prog 217 #[wv X, wv Y] w fun e w' => e = .returned (.tuple #[wv (X + R * less1 X Y - Y), .int .u64 (less1 X Y)]) ∧ Below w.heap.size w w' := by
 refine (ZdQ (limb X) (limb Y) (Zaz X) (Zaz Y) w).mono ?_
 rintro e w' ⟨g, c, rfl, hg, hc, hs, hb⟩
 refine ⟨?_, hb⟩
 rw [Zal hX, Zal hY] at hs
 have hl := Zbn (fun j _ => hg j)
 rw [Zcf (fun j _ => hg j)]
 generalize val g 4 = Z at hs hl
 have hR : c = less1 X Y ∧ Z = X + R * less1 X Y - Y := by
  unfold less1
  have hc' : c = 0 ∨ c = 1 := by omega
  rcases hc' with rfl | rfl
  ·
   rw [if_neg (by omega)]; omega
  ·
   rw [if_pos (by omega)]; omega
 rw [hR.1, hR.2]
theorem ZkC {X Y : Nat} (hX : X < R) (hY : Y < R) : X + R * less1 X Y - Y < R := by
 unfold less1; split <;> omega
theorem Zd0 (X Y : Nat) (hX : X < R) (hY : Y < R) (w : World) :
  Calls Tryz.prog 285 #[wv X, wv Y] w fun e w' => e = .returned (.tuple #[wv ((X + Y) % R), .int .u64 ((X + Y) / R : Nat)]) ∧ Below w.heap.size w w' := by
 refine (ZkB (limb X) (limb Y) (Zaz X) (Zaz Y) w).mono ?_
 rintro e w' ⟨g, c, rfl, hg, hc, hs, hb⟩
 refine ⟨?_, hb⟩
 rw [Zal hX, Zal hY] at hs
 have hl := Zbn (fun j _ => hg j)
 rw [Zcf (fun j _ => hg j)]
 generalize val g 4 = Z at hs hl
 have h1 : (X + Y) % R = Z := by rw [hs, Nat.add_mul_mod_self_left, Nat.mod_eq_of_lt hl]
 have h2 : (X + Y) / R = c := by rw [hs, Nat.add_mul_div_left _ _ R_pos, Nat.div_eq_of_lt hl, Nat.zero_add]
 rw [h1, h2]
theorem ZaZ (g' g : Nat → Nat) : putAll (cs g') 0 (cs g).toList = cs g := by
 simp [cs, putAll]
theorem Zar {w : World} {b t : Nat} {g : Nat → Nat} (h : w.heap[b]? = some (.cells (cs g) t (0, 0))) (g' : Nat → Nat) : w.there b 0 (cs g').size := by
 have h1 := ZcT h
 rw [Za6] at h1 ⊢
 exact h1
def rc (m f o r : Nat) : Array Value := #[.int .u64 (limb m 0), .int .u64 (limb m 1), .int .u64 (limb m 2), .int .u64 (limb m 3), .int .u64 f, .int .u64 (limb o 0), .int .u64 (limb o 1), .int .u64 (limb o 2), .int .u64 (limb o 3), .int .u64 (limb r 0), .int .u64 (limb r 1), .int .u64 (limb r 2), .int .u64 (limb r 3)]
structure RingAt (w : World) (p m f o r : Nat) : Prop where
 heap : w.heap[p]? = some (.cells (rc m f o r) 226 (0, 0))
section
variable {w w' : World} {p m f o r : Nat}
theorem RingAt.below (h : RingAt w p m f o r) (hb : Below w.heap.size w w') : RingAt w' p m f o r := ⟨(hb.block p (Zab h.heap)).trans h.heap⟩
theorem RingAt.belowN (h : RingAt w p m f o r) {N : Nat} (hp : p < N) (hb : Below N w w') : RingAt w' p m f o r := ⟨(hb.block p hp).trans h.heap⟩
theorem RingAt.drew (h : RingAt w p m f o r) : RingAt w.drew p m f o r := ⟨h.heap⟩
theorem RingAt.lt (h : RingAt w p m f o r) : p < w.heap.size := Zab h.heap
theorem RingAt.mod (h : RingAt w p m f o r) : w.rangeAt p 0 (cs (limb m)).toList := World.rangeAt_of_block h.heap 0 4
theorem RingAt.one (h : RingAt w p m f o r) : w.rangeAt p (4 + 1) (cs (limb o)).toList := World.rangeAt_of_block h.heap (4 + 1) 4
theorem RingAt.radix (h : RingAt w p m f o r) : w.rangeAt p (2 * 4 + 1) (cs (limb r)).toList := World.rangeAt_of_block h.heap (2 * 4 + 1) 4
theorem RingAt.fill (h : RingAt w p m f o r) : w.cell? ⟨p, 4, none⟩ = some (.int .u64 f) := Zac h.heap rfl
theorem RingAt.limbAt (h : RingAt w p m f o r) {j : Nat} (hj : j < 4) : w.cell? ⟨p, j, none⟩ = some (.int .u64 (limb m j)) := by
 have h1 := h.mod j (.int .u64 (limb m j)) (by rw [Array.getElem?_toList]; exact get _ hj)
 rwa [Nat.zero_add] at h1
end
theorem ZdR {Z m c : Nat} (hZ : Z < R) (hm : m < R) (hc : Z + R * c < 2 * m) : (Z + R * c) % m = if c = 0 ∧ less1 Z m = 1 then Z else Z + R * less1 Z m - m := by
 unfold less1
 by_cases h0 : c = 0
 ·
  subst h0
  by_cases h1 : Z < m
  ·
   simp [h1, Nat.mod_eq_of_lt h1]
  ·
   have : Z % m = Z - m := by rw [Nat.mod_eq_sub_mod (by omega), Nat.mod_eq_of_lt (by omega)]
   simp [h1, this]
 ·
  have hR : R * 1 ≤ R * c := Nat.mul_le_mul_left _ (by omega)
  have hc1 : c = 1 := by
   apply Nat.le_antisymm _ (by omega)
   apply Nat.le_of_not_lt
   intro h
   have := Nat.mul_le_mul_left R (show 2 ≤ c by omega)
   omega
  subst hc1
  have hl : Z < m := by omega
  rw [Nat.mod_eq_sub_mod (by omega), Nat.mod_eq_of_lt (by omega)]
  simp [hl]
theorem ZcZ (p m f o r Z c : Nat) (w : World) (hr : RingAt w p m f o r) (hm : m < R) (hZ : Z < R) (hc : Z + R * c < 2 * m) :
  Calls Tryz.prog 222 #[.pointer (some ⟨p, 0, none⟩), wv Z, .int .u64 c] w fun e w' => e = .returned (wv ((Z + R * c) % m)) ∧ Below w.heap.size w w' := by
 have HC := hideP (fun w => Zb7 Z m hZ hm w)
 have hc2 : c ≤ 1 := by
  apply Nat.le_of_not_lt
  intro h
  have := Nat.mul_le_mul_left R (show 2 ≤ c by omega)
  omega
 rw [ZdR hZ hm hc]
 have hl1 : less1 Z m = 0 ∨ less1 Z m = 1 := by unfold less1; split <;> simp
 clear hm hZ hc
 generalize Z + R * less1 Z m - m = D at *
 generalize less1 Z m = b at *
 have hp : p < w.heap.size := hr.lt
 have HR := hideP hr
 clear hr
 unfold wv at HC ⊢
 go_enter Tryz.func222, Tryz.ntmps222
 go_wp2_with fail
 rename_i Q' K hK
 have HK := hideP hK
 clear hK
 refine Zaj (fun W0 hW0 => ?_)
 have hA : W0.heap[w.heap.size]? = some (.cells (cs (limb Z)) 32 (0, 0)) := by
  rw [hW0]
  exact (Zah _ _ (by simp)).trans (Zaf _ _)
 have hD : W0.heap[w.heap.size + 1]? = some (.cells (cs (fun _ => 0)) 32 (0, 0)) := by
  rw [hW0]
  exact Zat _ _ _
 have HBW : Hid (Below w.heap.size w W0) := by
  show Below _ _ _
  rw [hW0]
  repeat first | exact Below.refl _ _ | (refine Below.alloc ?_ (by simp <;> omega) _)
 clear hW0
 have HR0 := hideP (HR.out.belowN hp HBW.out)
 have HA := hideP hA
 have HD := hideP hD
 clear hA hD HR
 refine Zai (S := fun V => Below W0.heap.size W0 V) (by kernel_rfl) ((Below.refl _ _).drew) (fun hS => ?_)
 refine Zak (i := 0) (v := .agg (cs (limb Z))) rfl (by kernel_rfl) (by kernel_rfl) (by kernel_rfl) (fun _ _ _ h => h) (yieldsIf_load_mid (by kernel_rfl) 32 _ rfl (w.heap.size) (0) rfl (cs (limb Z)).toList _ (fun V hV => Zag ((hV.block _ (Zab HA.out)).trans HA.out)) under rfl (info _)) hS ?_
 simp only [Zaa, Zs, Zz]
 refine tkG 1 hS ?_
 simp only [Zaa, Zs, Zz]
 refine tkG 2 hS ?_
 simp only [Zaa, Zs, Zz]
 refine tkG 3 hS ?_
 simp only [Zaa, Zs, Zz]
 refine Zak (i := 4) (v := .agg (cs (limb m))) rfl (by kernel_rfl) (by kernel_rfl) (by kernel_rfl) (fun _ _ _ h => h) (yieldsIf_load_mid (by kernel_rfl) 32 _ rfl (p) (0) rfl (cs (limb m)).toList _ (fun V hV => (HR0.out.below hV).mod) under rfl (info _)) hS ?_
 simp only [Zaa, Zs, Zz]
 refine wpAnyH_ready (rs := [5, 9]) (by kernel_rfl) (by simp) (AllReadyH.cons rfl (fun K hK => ?_) (AllReadyH.cons rfl (fun K hK => ?_) AllReadyH.nil))
 ·
  go_simp
  refine (HC.out _).mono ?_
  rintro e w1 ⟨rfl, hbc⟩
  refine hK.out _ _ (hS.trans (hbc.mono hS.size)) (fun hS => ?_)
  clear hK K hbc
  refine tkG 6 hS ?_
  simp only [Zaa, Zs, Zz]
  refine tkG 7 hS ?_
  simp only [Zaa, Zs, Zz]
  refine tkG 8 hS ?_
  simp only [Zaa, Zs, Zz]
  refine rd1 9 (fun K hK => ?_)
  go_simp
  refine hK.out _ _ (hS.alloc hS.size _) (fun hS2 => ?_)
  clear hK K
  refine Zb5 (fun w2 hw2 => ?_)
  have h1 : w2.heap[w1.heap.size]? = some (.cells (cs (fun _ => 0)) 32 (0, 0)) := by rw [hw2]; exact Zaf _ _
  have l1 := hS.size
  rw [← hw2] at hS2
  clear hw2 hS
  have hS := hS2
  clear hS2
  generalize hbb : w1.heap.size = b1 at h1 l1 ⊢
  clear hbb
  refine rd1 10 (fun K hK => ?_)
  refine Za7 (by kernel_rfl) ?_
  refine Zan 32 (.tmp 7) (.tmp 16) rfl rfl b1 0 (cs (limb D)) rfl rfl (Zar h1 _) (info _) (one _) ?_
  have g1 := Za9 (cs (limb D)).toList 0 h1
  rw [ZaZ] at g1
  have hB1 := But.sets (cs (limb D)).toList 0 (But.refl b1 w2)
  have hSB := hS.trans (hB1.below.mono l1)
  clear h1 hB1
  generalize w2.setCells b1 0 (cs (limb D)).toList = w3 at g1 hSB ⊢
  refine hK.out _ _ hSB (fun hS => ?_)
  clear hK K hSB
  refine rd1 11 (fun K hK => ?_)
  go_simp
  refine hK.out _ _ hS (fun hS => ?_)
  clear hK K
  refine wpAnyH_done (by kernel_rfl) ?_ _
  (try simp only [Zas])
  have HBS := hideP (HBW.out.trans (hS.mono HBW.out.size))
  have HA3 := hideP ((hS.block _ (Zab HA.out)).trans HA.out)
  have HD3 := hideP ((hS.block _ (Zab HD.out)).trans HD.out)
  have HG := hideP g1
  clear g1 hS l1
  refine HK.out _ _ ?_
  refine Zae (fun K1 HK1 => ?_)
  refine Zae (fun K2 HK2 => ?_)
  by_cases hc0 : c = 0
  ·
   subst hc0
   rcases hl1 with rfl | rfl
   ·
    go_wp2_with fail
    refine HK2.out _ _ ?_
    refine wp_cond_false rfl (wp_skip ?_)
    refine HK1.out _ _ ?_
    refine Za4 (fun _ _ h => h) rfl rfl rfl (by decide) (by show 25 < 26; decide) rfl under rfl (info _) (one _) (Zag HG.out) (Zar HD3.out _) ?_
    intro wS hBut
    exact ⟨rfl, HBS.out.trans (hBut.below.mono (by omega))⟩
   ·
    go_wp2_with fail
    refine HK2.out _ _ ?_
    refine wp_cond_true rfl ?_
    have hQ : ∀ a w, Q' .ret a w → Exit.then K1 Q' .ret a w := fun _ _ h => h
    refine Za4 hQ rfl rfl rfl (by decide) (by show 24 < 26; decide) rfl under rfl (info _) (one _) (Zag HA3.out) (Zar HD3.out _) ?_
    intro wS hBut
    exact ⟨rfl, HBS.out.trans (hBut.below.mono (by omega))⟩
  ·
   have hc1 : c = 1 := by omega
   subst hc1
   clear hc0 hc2
   go_wp2_with fail
   refine HK2.out _ _ ?_
   refine wp_cond_false rfl (wp_skip ?_)
   refine HK1.out _ _ ?_
   refine Za4 (fun _ _ h => h) rfl rfl rfl (by decide) (by show 25 < 26; decide) rfl under rfl (info _) (one _) (Zag HG.out) (Zar HD3.out _) ?_
   intro wS hBut
   exact ⟨rfl, HBS.out.trans (hBut.below.mono (by omega))⟩
 ·
  go_simp
  refine hK.out _ _ (hS.alloc hS.size _) (fun hS2 => ?_)
  clear hK K
  refine Zb5 (fun w1 hw1 => ?_)
  have h1 : w1.heap[W0.heap.size]? = some (.cells (cs (fun _ => 0)) 32 (0, 0)) := by rw [hw1]; exact Zaf _ _
  have l1 := Nat.le_refl W0.heap.size
  rw [← hw1] at hS2
  clear hw1 hS
  have hS := hS2
  clear hS2
  refine rd1 5 (fun K hK => ?_)
  go_simp
  refine (HC.out _).mono ?_
  rintro e w2 ⟨rfl, hbc⟩
  have h2 := (hbc.block _ (Zab h1)).trans h1
  refine hK.out _ _ (hS.trans (hbc.mono hS.size)) (fun hS2 => ?_)
  clear hK K hbc h1 hS
  have hS := hS2
  have h1 := h2
  clear hS2 h2
  refine tkG 6 hS ?_
  simp only [Zaa, Zs, Zz]
  refine tkG 7 hS ?_
  simp only [Zaa, Zs, Zz]
  refine tkG 8 hS ?_
  simp only [Zaa, Zs, Zz]
  refine rd1 10 (fun K hK => ?_)
  refine Za7 (by kernel_rfl) ?_
  refine Zan 32 (.tmp 7) (.tmp 16) rfl rfl (W0.heap.size) 0 (cs (limb D)) rfl rfl (Zar h1 _) (info _) (one _) ?_
  have g1 := Za9 (cs (limb D)).toList 0 h1
  rw [ZaZ] at g1
  have hB1 := But.sets (cs (limb D)).toList 0 (But.refl (W0.heap.size) w2)
  have hSB := hS.trans (hB1.below.mono l1)
  clear h1 hB1
  generalize w2.setCells (W0.heap.size) 0 (cs (limb D)).toList = w3 at g1 hSB ⊢
  refine hK.out _ _ hSB (fun hS => ?_)
  clear hK K hSB
  refine rd1 11 (fun K hK => ?_)
  go_simp
  refine hK.out _ _ hS (fun hS => ?_)
  clear hK K
  refine wpAnyH_done (by kernel_rfl) ?_ _
  (try simp only [Zas])
  have HBS := hideP (HBW.out.trans (hS.mono HBW.out.size))
  have HA3 := hideP ((hS.block _ (Zab HA.out)).trans HA.out)
  have HD3 := hideP ((hS.block _ (Zab HD.out)).trans HD.out)
  have HG := hideP g1
  clear g1 hS l1
  refine HK.out _ _ ?_
  refine Zae (fun K1 HK1 => ?_)
  refine Zae (fun K2 HK2 => ?_)
  by_cases hc0 : c = 0
  ·
   subst hc0
   rcases hl1 with rfl | rfl
   ·
    go_wp2_with fail
    refine HK2.out _ _ ?_
    refine wp_cond_false rfl (wp_skip ?_)
    refine HK1.out _ _ ?_
    refine Za4 (fun _ _ h => h) rfl rfl rfl (by decide) (by show 25 < 26; decide) rfl under rfl (info _) (one _) (Zag HG.out) (Zar HD3.out _) ?_
    intro wS hBut
    exact ⟨rfl, HBS.out.trans (hBut.below.mono (by omega))⟩
   ·
    go_wp2_with fail
    refine HK2.out _ _ ?_
    refine wp_cond_true rfl ?_
    have hQ : ∀ a w, Q' .ret a w → Exit.then K1 Q' .ret a w := fun _ _ h => h
    refine Za4 hQ rfl rfl rfl (by decide) (by show 24 < 26; decide) rfl under rfl (info _) (one _) (Zag HA3.out) (Zar HD3.out _) ?_
    intro wS hBut
    exact ⟨rfl, HBS.out.trans (hBut.below.mono (by omega))⟩
  ·
   have hc1 : c = 1 := by omega
   subst hc1
   clear hc0 hc2
   go_wp2_with fail
   refine HK2.out _ _ ?_
   refine wp_cond_false rfl (wp_skip ?_)
   refine HK1.out _ _ ?_
   refine Za4 (fun _ _ h => h) rfl rfl rfl (by decide) (by show 25 < 26; decide) rfl under rfl (info _) (one _) (Zag HG.out) (Zar HD3.out _) ?_
   intro wS hBut
   exact ⟨rfl, HBS.out.trans (hBut.below.mono (by omega))⟩
end Go.Proofs.YtcbdbnfgnonacaaGreat.W4
