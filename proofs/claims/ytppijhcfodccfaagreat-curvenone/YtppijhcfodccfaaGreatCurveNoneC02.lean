/-
  What is held over regions that write into one box, whatever its size; structs out of parts.
-/
import Derived.Test.YtppijhcfodccfaaGreatCurveNoneC01
namespace Go.Proofs.YtppijhcfodccfaaGreat
open Go.RowKit Go.Shelf

namespace MN
theorem round {B Bi S S' A V q M t b : Nat} (h : S * Bi = A * V + q * M) (e : S' * B = S + A * b + t * M) :
    S' * (Bi * B) = A * (V + b * Bi) + (q + t * Bi) * M := by
  grind

theorem bound {Bi S A V q M : Nat} (h : S * Bi = A * V + q * M) (hV : V < Bi) (hq : q < Bi) (hM : 0 < M) : S < A + M := by
  apply Nat.lt_of_mul_lt_mul_right (a := Bi)
  rw [h, Nat.add_mul]
  have h1 : A * V ≤ A * Bi := Nat.mul_le_mul_left _ (by omega)
  have h2 : q * M < M * Bi := by rw [Nat.mul_comm M]; exact Nat.mul_lt_mul_of_pos_right hq hM
  omega

theorem q_lt {B Bi q t : Nat} (hq : q < Bi) (ht : t < B) : q + t * Bi < Bi * B := by
  have h : (t + 1) * Bi ≤ B * Bi := Nat.mul_le_mul_right _ ht
  rw [Nat.add_mul, Nat.mul_comm B] at h
  omega

theorem mulstep {B Bk V C S A a b s h l : Nat} (hV : V + C * Bk = S + A * b) (e : a * b + s + C = l + B * h) :
    (V + l * Bk) + h * (Bk * B) = (S + s * Bk) + (A + a * Bk) * b := by
  grind

theorem fin {B Bl W V X S s top over above c1 c2 c A b t M : Nat} (h1 : V + c1 * (Bl * B) = X + A * b) (h2 : above + c1 = top + B * over)
    (h3 : B * W + c2 * (Bl * B) = V + t * M) (h4 : top + c2 = s + B * c) (hS : S = X + above * (Bl * B)) :
    (W + s * Bl + (over + c) * (Bl * B)) * B = S + A * b + t * M := by
  grind

/-- The last sum is below twice the modulus, if one of both factors is below it. -/
theorem last {R S A V q M : Nat} (h : S * R = A * V + q * M) (hAV : A * V < R * M) (hq : q < R) (hM : 0 < M) : S < 2 * M := by
  apply Nat.lt_of_mul_lt_mul_right (a := R)
  have h2 : q * M < R * M := Nat.mul_lt_mul_of_pos_right hq hM
  rw [h, Nat.mul_assoc, Nat.mul_comm M R]
  omega

theorem half_le {m P Q : Nat} (ho : m % 2 = 1) (hle : P ≤ Q) (h : P * 2 % m = Q * 2 % m) : P % m = Q % m := by
  have hc : Nat.Coprime m 2 := by
    unfold Nat.Coprime
    rw [Nat.gcd_comm, Nat.gcd_rec, ho]
    rfl
  have hd : m ∣ Q * 2 - P * 2 := Nat.dvd_of_mod_eq_zero (Nat.sub_mod_eq_zero_of_mod_eq h.symm)
  rw [← Nat.sub_mul] at hd
  obtain ⟨k, hk⟩ := hc.dvd_of_dvd_mul_right hd
  have : Q = P + m * k := by omega
  rw [this, Nat.add_mul_mod_self_left]

theorem half {m P Q : Nat} (ho : m % 2 = 1) (h : P * 2 % m = Q * 2 % m) : P % m = Q % m := by
  rcases Nat.le_total P Q with hle | hle
  · exact half_le ho hle h
  · exact (half_le ho hle h.symm).symm

theorem halves {m P Q : Nat} (ho : m % 2 = 1) : ∀ k, P * 2 ^ k % m = Q * 2 ^ k % m → P % m = Q % m := by
  intro k
  induction k with
  | zero => intro h; simpa using h
  | succ k ih =>
    intro h
    apply ih
    apply half ho
    rw [Nat.mul_assoc, Nat.mul_assoc, ← Nat.pow_succ]
    exact h

theorem uniq {m P Q : Nat} (ho : m % 2 = 1) (k : Nat) (hP : P < m) (hQ : Q < m) (h : P * 2 ^ k % m = Q * 2 ^ k % m) : P = Q := by
  have := halves ho k h
  rwa [Nat.mod_eq_of_lt hP, Nat.mod_eq_of_lt hQ] at this

theorem inv_step (n x d K : Int) (h : (1 - n * x) % K = d % K) : (1 - n * (x * (2 - n * x))) % K = (d * d) % K := by
  have e : 1 - n * (x * (2 - n * x)) = (1 - n * x) * (1 - n * x) := by grind
  rw [e, Int.mul_emod, h, ← Int.mul_emod]

end MN
end Go.Proofs.YtppijhcfodccfaaGreat

namespace Go.Proofs.YtppijhcfodccfaaGreat
open Go.RowKit Go.Shelf

theorem wp_seqH {P : Program} {Q : Exit → Act → World → Prop} {a : Act} {w : World} {x y : Code} (h : ∀ K : Act → World → Prop, Hid (∀ a w, y.wp P Q a w → K a w) → x.wp P (Exit.then K Q) a w) : (Code.seq x y).wp P Q a w :=
  wp_seq_k fun K hK => h K hK

theorem at_worldH {P : Program} {md : Region.Mode} {ops : Array Oper} {Q : Exit → Act → World → Prop} {S : World → Prop} {fuel : Nat} {listed : Array Bool} {a : Act} {w : World} (h : ∀ W0, W0 = w → wpAnyH P md ops Q S fuel listed a W0) : wpAnyH P md ops Q S fuel listed a w := h w rfl

theorem endRowQ {P : Program} {fn : Func} {R : Ending → World → Prop} {Q : Exit → Act → World → Prop} {a : Act} {w : World} {id L o R0 i j k ty ty1 ty2 : Nat} {C : Array Value} {d : TypeDesc} {pos1 pos2 aft1 aft2} (hQ : ∀ a w, bodyPost P fn R .ret a w → Q .ret a w) (hf : fn.results = #[.cell j ty]) (hi : a.eval (.tmp i) = .pointer (some ⟨L, o, none⟩)) (hj : a.eval (.tmp j) = .pointer (some ⟨R0, 0, none⟩)) (hjk : k ≠ j) (hk : k < a.tmps.size) (hd : a.defers = [])
    (hu : P.underlying ty = some d) (hr : d.isRow = true) (hs : (P.info? ty).map (·.size) = some C.size) (h1 : C.all (·.oneCell') = true)
    (hL : w.rangeAt L o C.toList) (hR : w.there R0 0 C.size) (h : ∀ wS, But R0 w wS → R (.returned (.agg C)) wS) :
    ((Code.region id #[{ dst := some k, op := .load ty (.tmp i), type := ty1, pos := pos1, after := aft1, guard := none }, { dst := none, op := .store ty (.tmp j) (.tmp k), type := ty2, pos := pos2, after := aft2, guard := none }] false).seq .ret).wp P Q a w := by
  refine wp_seq ?_
  refine wp_region_list ?_
  have hj' : (a.put (some k) (.agg C)).eval (.tmp j) = .pointer (some ⟨R0, 0, none⟩) := by rw [put_ne _ _ hjk, hj]
  have hs' : (P.info? ty).map (·.size) = some C.toList.length := by rw [Array.length_toList]; exact hs
  refine wpList_load_mid rfl ty (.tmp i) rfl L o hi C.toList _ hL hu hr hs' ?_
  refine wpList_store_mid rfl ty (.tmp j) (.tmp k) rfl R0 0 C hj' (put_same _ _ _ hk) hR hs h1 ?_
  refine wpList_nil ?_
  refine wp_ret ?_
  have hb := World.rangeAt_setCells_same w R0 0 C.toList (by rw [Array.length_toList]; exact hR)
  exact hQ _ _ (bodyPost_ret_by (results_cell hf hj' (run_loadVar_mid _ R0 0 ty C.toList _ hb hu hr hs')) hd (h _ (But.sets _ _ (But.refl _ _))))

/-- What is in a slot goes into the result's box. -/
theorem endSlotQ {P : Program} {fn : Func} {R : Ending → World → Prop} {Q : Exit → Act → World → Prop} {K : Act → World → Prop} {a : Act} {w : World} {R0 j k ty ty2 : Nat} {C : Array Value} {d : TypeDesc} {pos2 aft2} {ops : Array Oper} (hK : ∀ a w, Code.ret.wp P Q a w → K a w) (hQ : ∀ a w, bodyPost P fn R .ret a w → Q .ret a w) (hf : fn.results = #[.cell j ty]) (hk : a.eval (.tmp k) = .agg C) (hj : a.eval (.tmp j) = .pointer (some ⟨R0, 0, none⟩)) (hd : a.defers = [])
    (hu : P.underlying ty = some d) (hr : d.isRow = true) (hs : (P.info? ty).map (·.size) = some C.size) (h1 : C.all (·.oneCell') = true)
    (hR : w.there R0 0 C.size) (h : ∀ wS, But R0 w wS → R (.returned (.agg C)) wS) :
    wpList P ops (Exit.then K Q) [{ dst := none, op := .store ty (.tmp j) (.tmp k), type := ty2, pos := pos2, after := aft2, guard := none }] a w := by
  have hs' : (P.info? ty).map (·.size) = some C.toList.length := by rw [Array.length_toList]; exact hs
  refine wpList_store_mid rfl ty (.tmp j) (.tmp k) rfl R0 0 C hj hk hR hs h1 ?_
  refine wpList_nil ?_
  refine hK _ _ (wp_ret ?_)
  have hb := World.rangeAt_setCells_same w R0 0 C.toList (by rw [Array.length_toList]; exact hR)
  exact hQ _ _ (bodyPost_ret_by (results_cell hf hj (run_loadVar_mid _ R0 0 ty C.toList _ hb hu hr hs')) hd (h _ (But.sets _ _ (But.refl _ _))))

theorem results_pair {P : Program} {fn : Func} {ts : Array Value} {w : World} {j c ty : Nat} {p : Addr} {v x : Value} (hf : fn.results = #[.cell j ty, .tmp c]) (hj : ts.getD j undef = .pointer (some p)) (hc : ts.getD c undef = x) (h : (loadVar ty p).run P w = .ok v w) :
    (results fn ts).run P w = .ok (.tuple #[v, x]) w := by
  unfold results
  rw [hf]
  rw [Array.getD_eq_getD_getElem?] at hj hc
  simp [hj, hc, asAddr, h]

theorem endPairQ {P : Program} {fn : Func} {R : Ending → World → Prop} {Q : Exit → Act → World → Prop} {a : Act} {w : World} {id L R0 i j k c ty ty1 ty2 ty3 : Nat} {C : Array Value} {v : Value} {d : TypeDesc} {pos1 pos2 pos3 aft1 aft2 aft3} (hQ : ∀ a w, bodyPost P fn R .ret a w → Q .ret a w) (hf : fn.results = #[.cell j ty, .tmp c]) (hi : a.eval (.tmp i) = .pointer (some ⟨L, 0, none⟩)) (hj : a.eval (.tmp j) = .pointer (some ⟨R0, 0, none⟩)) (hjk : k ≠ j) (hjc : c ≠ j) (hk : k < a.tmps.size) (hcs : c < a.tmps.size) (hd : a.defers = [])
    (hu : P.underlying ty = some d) (hr : d.isRow = true) (hs : (P.info? ty).map (·.size) = some C.size) (h1 : C.all (·.oneCell') = true)
    (hL : w.rangeAt L 0 C.toList) (hR : w.there R0 0 C.size) (h : ∀ wS, But R0 w wS → R (.returned (.tuple #[.agg C, v])) wS) :
    ((Code.region id #[{ dst := some k, op := .load ty (.tmp i), type := ty1, pos := pos1, after := aft1, guard := none }, { dst := none, op := .store ty (.tmp j) (.tmp k), type := ty2, pos := pos2, after := aft2, guard := none }, { dst := some c, op := .assign (.const v), type := ty3, pos := pos3, after := aft3, guard := none }] false).seq .ret).wp P Q a w := by
  refine wp_seq ?_
  refine wp_region_list ?_
  have hj' : (a.put (some k) (.agg C)).eval (.tmp j) = .pointer (some ⟨R0, 0, none⟩) := by rw [put_ne _ _ hjk, hj]
  have hs' : (P.info? ty).map (·.size) = some C.toList.length := by rw [Array.length_toList]; exact hs
  refine wpList_load_mid rfl ty (.tmp i) rfl L 0 hi C.toList _ hL hu hr hs' ?_
  refine wpList_store_mid rfl ty (.tmp j) (.tmp k) rfl R0 0 C hj' (put_same _ _ _ hk) hR hs h1 ?_
  refine wpList_plain rfl fun K hK => ?_
  have hb := World.rangeAt_setCells_same w R0 0 C.toList (by rw [Array.length_toList]; exact hR)
  have hj2 : (((a.put (some k) (.agg C)).put none undef).put (some c) v).eval (.tmp j) = .pointer (some ⟨R0, 0, none⟩) := by rw [put_ne _ _ hjc, put_none]; exact hj'
  have hc2 : (((a.put (some k) (.agg C)).put none undef).put (some c) v).eval (.tmp c) = v := put_same _ _ _ (by simp [Act.put]; exact hcs)
  refine hK (((a.put (some k) (.agg C)).put none undef).put (some c) v) _ (wpList_nil (wp_ret (hQ _ _ (bodyPost_ret_by (results_pair hf hj2 hc2 (run_loadVar_mid _ R0 0 ty C.toList _ hb hu hr hs')) hd (h _ (But.sets _ _ (But.refl _ _)))))))

theorem wp_store_midN {P : Program} {op : Oper} {a : Act} {w : World} {K : Act → World → Prop} {Q : Exit → Act → World → Prop} (ty : TypeId) (x y : Operand) (ho : op.op = .store ty x y) (hdst : op.dst = none)
    (b o : Nat) (cells : Array Value) (hx : a.eval x = .pointer (some ⟨b, o, none⟩)) (hy : a.eval y = .agg cells)
    (ht : w.there b o cells.size) (hi : (P.info? ty).map (·.size) = some cells.size) (h1 : cells.all (·.oneCell') = true)
    (h : K a (w.setCells b o cells.toList)) : op.wp P a w K Q :=
  wp_store_mid ty x y ho b o cells hx hy ht hi h1 (by rw [hdst]; exact h)

theorem wp_load_midD {P : Program} {op : Oper} {l : List Value} {ds : List Deferred} {w : World} {K : Act → World → Prop} {Q : Exit → Act → World → Prop} (ty : TypeId) (x : Operand) (k : Nat) (ho : op.op = .load ty x) (hdst : op.dst = some k)
    (b o : Nat) (cells : Array Value) (hx : Act.eval { tmps := l.toArray, defers := ds } x = .pointer (some ⟨b, o, none⟩)) (d : TypeDesc) (hc : w.rangeAt b o cells.toList)
    (hu : P.underlying ty = some d) (hd : d.isRow = true) (hi : (P.info? ty).map (·.size) = some cells.toList.length)
    (h : K { tmps := (l.set k (.agg cells)).toArray, defers := ds } w) : op.wp P { tmps := l.toArray, defers := ds } w K Q :=
  wp_load_mid ty x ho b o hx cells.toList d hc hu hd hi (by rw [hdst, put_list, Array.toArray_toList]; exact h)

theorem ite_wp {c : Prop} [Decidable c] {a b : Prop} (h : c) (ha : a) : if c then a else b := by rw [if_pos h]; exact ha

theorem add64_ex0b (x y : Nat) (hx : x ≤ 1) (hy : y < 18446744073709551616) : ∃ s d : Nat, s < 18446744073709551616 ∧ d ≤ 1 ∧ x + y = s + 18446744073709551616 * d ∧
    ∀ w, (callFunc 221 #[.int .u64 x, .int .u64 y, .int .u64 0]).run Tryz.prog w = .ok (.value (.tuple #[.int .u64 s, .int .u64 d])) w :=
  add64_ex0 x y (by omega) hy

end Go.Proofs.YtppijhcfodccfaaGreat

namespace Go.Proofs.YtppijhcfodccfaaGreat
open Go.RowKit Go.Shelf

def setM (PV : Nat → Value) (d : Nat) (p : Option Nat) (t : List Value) : List Value := match p with | none => t | some b => t.set d (PV b)

theorem setM_set {PV : Nat → Value} {d c : Nat} {p : Option Nat} {t : List Value} {v : Value} (h : d ≠ c) : (setM PV d p t).set c v = setM PV d p (t.set c v) := by
  cases p with
  | none => rfl
  | some b => exact List.set_comm _ _ h

theorem TM_get {PV : Nat → Value} {d s : Nat} {p : Option Nat} {t : List Value} (h : s ≠ d) : (setM PV d p t)[s]? = t[s]? := by
  cases p with
  | none => rfl
  | some b => exact List.getElem?_set_ne (Ne.symm h)

/-- A state of the calls. -/
structure StM (PV : Nat → Value) (zc : Array Value) (t d1 : Nat) (cd : Nat → Nat) (V : Nat → Value) (L : Nat → Bool → Array Bool) (l : List Value) (ds : List Deferred) (W0 : World) (n m k : Nat) (listed : Array Bool) (a : Act) (w : World) (i : Nat) (p : Option Nat) : Prop where
  i2 : i ≤ n
  k : k + i + one? p = m
  listed : listed = L i p.isSome
  a : a = { tmps := (setM PV d1 p (TC cd V l i)).toArray, defers := ds }
  b : Below W0.heap.size W0 w
  fp : FreshZ zc t W0.heap.size w p

theorem TC_get {cd : Nat → Nat} {V : Nat → Value} {l : List Value} {x n : Nat} (hx : ∀ i, i < n → x ≠ cd i) : ∀ i, i ≤ n → (TC cd V l i)[x]? = l[x]?
  | 0, _ => rfl
  | i + 1, h => by
    show ((TC cd V l i).set (cd i) (V i))[x]? = l[x]?
    rw [List.getElem?_set_ne (Ne.symm (hx i (by omega)))]
    exact TC_get hx i (by omega)

theorem regionM {P : Program} {md : Region.Mode} {ops : Array Oper} {Q : Exit → Act → World → Prop} {W0 w : World} {l : List Value} {ds : List Deferred} {r : Nat} {listed : Array Bool} (PV : Nat → Value) (n : Nat) (ci cd : Nat → Nat) (V : Nat → Value) (L : Nat → Bool → Array Bool) (zc : Array Value) (t a1 d1 : Nat)
    (hchk : chkO md ops n ci a1 L = true) (hcd : ∀ i, i < n → d1 ≠ cd i) (hlisted : listed = L 0 false) (hw : Below W0.heap.size W0 w)
    (hc : ∀ i, i < n → ∀ (T : List Value) (w : World) (K : Act → World → Prop), Below W0.heap.size W0 w → (∀ x, x ≠ d1 → T[x]? = (TC cd V l i)[x]?) → (∀ w', Below w.heap.size w w' → K { tmps := (T.set (cd i) (V i)).toArray, defers := ds } w') → wpOp P ops Q (ci i) K { tmps := T.toArray, defers := ds } w)
    (h1 : ∀ (T : List Value) (w : World) (K : Act → World → Prop), (∀ x, (∀ i, i < n → x ≠ cd i) → T[x]? = l[x]?) → K { tmps := (T.set d1 (PV w.heap.size)).toArray, defers := ds } (w.alloc (.cells zc t (0, 0))) → wpOp P ops Q a1 K { tmps := T.toArray, defers := ds } w)
    (hend : ∀ (w : World) (b1 : Nat), Below W0.heap.size W0 w → W0.heap.size ≤ b1 → w.heap[b1]? = some (.cells zc t (0, 0)) →
      wpAnyH P md ops Q (fun V => Below W0.heap.size W0 V) r (L n true) { tmps := ((TC cd V l n).set d1 (PV b1)).toArray, defers := ds } w) :
    wpAnyH P md ops Q (fun V => Below W0.heap.size W0 V) (r + 1 + n) listed { tmps := l.toArray, defers := ds } w := by
  refine wpAnyH_stageE (Φ := fun k listed a w => ∃ i p, StM PV zc t d1 cd V L l ds W0 n (r + 1 + n) k listed a w i p) ?_ (r + 1 + n) listed _ w ⟨0, none, ⟨by omega, by simp [one?], hlisted, rfl, hw, FreshZ.none⟩⟩
  rintro k listed a w ⟨i, p, I⟩
  obtain ⟨hi2, hk, hli, ha, hb, fp⟩ := I
  subst hli ha
  unfold chkO at hchk
  simp only [Bool.and_eq_true, decide_eq_true_eq] at hchk
  obtain ⟨⟨hchk, hE⟩, hE2⟩ := hchk
  have hone : one? p ≤ 1 := by unfold one?; split <;> omega
  by_cases hin : i = n
  · subst hin
    cases p with
    | some b1 =>
      have e : k = r := by simp [one?] at hk; omega
      subst e
      exact Or.inl (hend w b1 hb (fp b1 rfl).1 (fp b1 rfl).2)
    | none =>
      obtain ⟨k', rfl⟩ : ∃ k', k = k' + 1 := ⟨k - 1, by simp [one?] at hk; omega⟩
      refine Or.inr ⟨k', rfl, by show Region.ready md ops (L i false) ≠ []; rw [hE]; simp, fun j hj => ?_⟩
      replace hj : j ∈ Region.ready md ops (L i false) := hj
      rw [hE, List.mem_singleton] at hj
      subst hj
      exact h1 _ w _ (fun x hx => TC_get hx i hi2) ⟨hb.alloc hb.size _, i, some w.heap.size, ⟨hi2, by simp [one?] at hk ⊢; omega, hE2, rfl, hb.alloc hb.size _, FreshZ.new hb.size⟩⟩
  · have hlt : i < n := by omega
    have hbb : ∀ b : Bool, b ∈ [false, true] := fun b => by cases b <;> simp
    have g := List.all_eq_true.1 (List.all_eq_true.1 hchk i (List.mem_range.2 hlt)) p.isSome (hbb _)
    simp only [Bool.and_eq_true, decide_eq_true_eq] at g
    obtain ⟨⟨⟨g1, g2⟩, g3⟩, g4⟩ := g
    obtain ⟨k', rfl⟩ : ∃ k', k = k' + 1 := ⟨k - 1, by omega⟩
    refine Or.inr ⟨k', rfl, not_isEmpty g1, fun j hj => ?_⟩
    have g6 := List.all_eq_true.1 g2 j hj
    simp only [Bool.or_eq_true, Bool.and_eq_true, beq_iff_eq, Bool.not_eq_true'] at g6
    rcases g6 with rfl | ⟨rfl, hn⟩
    · refine hc i hlt _ w _ hb (fun x x1 => TM_get x1) (fun w' hb' => ⟨hb.trans (hb'.mono hb.size), i + 1, p, ⟨hlt, by omega, g3, by rw [setM_set (hcd i hlt)]; rfl, hb.trans (hb'.mono hb.size), fp.call hb'⟩⟩)
    · have e : p = none := by cases p with | none => rfl | some _ => cases hn
      subst e
      refine h1 _ w _ (fun x hx => TC_get hx i hi2) ⟨hb.alloc hb.size _, i, some w.heap.size, ⟨hi2, by simp [one?] at hk ⊢; omega, g4, rfl, hb.alloc hb.size _, FreshZ.new hb.size⟩⟩

/-- The slots of two variables. -/
def TF2 (d1 d2 : Nat) (l : List Value) (p q : Option Nat) : List Value := setO d2 q (setO d1 p l)

section
variable {d1 d2 : Nat} {l : List Value} {p q : Option Nat}
theorem TF2_get {x : Nat} (h1 : x ≠ d1) (h2 : x ≠ d2) : (TF2 d1 d2 l p q)[x]? = l[x]? := by
  unfold TF2
  rw [setO_get (Ne.symm h2), setO_get (Ne.symm h1)]

theorem TF2_set {d : Nat} {v : Value} (h1 : d1 ≠ d) (h2 : d2 ≠ d) : (TF2 d1 d2 l p q).set d v = TF2 d1 d2 (l.set d v) p q := by
  unfold TF2
  rw [setO_set h2, setO_set h1]

theorem TF2_p (h12 : d1 ≠ d2) (b : Nat) : (TF2 d1 d2 l none q).set d1 (.pointer (some ⟨b, 0, none⟩)) = TF2 d1 d2 l (some b) q := by
  unfold TF2
  rw [setO_set (Ne.symm h12)]
  rfl

theorem TF2_q (b : Nat) : (TF2 d1 d2 l p none).set d2 (.pointer (some ⟨b, 0, none⟩)) = TF2 d1 d2 l p (some b) := rfl

end

/-- Two variables that are made are two. -/
def Apart2 (p q : Option Nat) : Prop := ∀ b c, p = some b → q = some c → b ≠ c

theorem Apart2.none1 {q : Option Nat} : Apart2 none q := fun _ _ h => by cases h

/-- Which operations may come up, state by state. -/
def chk2v (md : Region.Mode) (ops : Array Oper) (n : Nat) (ci : Nat → Nat) (a1 a2 : Nat) (L : Nat → Bool → Bool → Array Bool) : Bool :=
  (List.range (n + 1)).all fun i => [false, true].all fun p => [false, true].all fun q =>
    (decide (i = n) && p && q) ||
    (!(Region.ready md ops (L i p q)).isEmpty && ((Region.ready md ops (L i p q)).all fun j => (j == ci i && decide (i < n)) || (j == a1 && !p) || (j == a2 && !q)) &&
      (decide (i = n) || decide ((L i p q).setIfInBounds (ci i) true = L (i + 1) p q)) &&
      (p || decide ((L i p q).setIfInBounds a1 true = L i true q)) && (q || decide ((L i p q).setIfInBounds a2 true = L i p true)))

/-- A state of the calls. -/
structure St2v (zc : Array Value) (t d1 d2 : Nat) (cd : Nat → Nat) (V : Nat → Value) (L : Nat → Bool → Bool → Array Bool) (l : List Value) (ds : List Deferred) (W0 : World) (n m k : Nat) (listed : Array Bool) (a : Act) (w : World) (i : Nat) (p q : Option Nat) : Prop where
  i2 : i ≤ n
  k : k + i + one? p + one? q = m
  listed : listed = L i p.isSome q.isSome
  a : a = { tmps := (TF2 d1 d2 (TC cd V l i) p q).toArray, defers := ds }
  b : Below W0.heap.size W0 w
  fp : FreshZ zc t W0.heap.size w p
  fq : FreshZ zc t W0.heap.size w q
  pq : Apart2 p q

theorem FreshZ.apart2 {zc : Array Value} {t N : Nat} {w : World} {p : Option Nat} (h : FreshZ zc t N w p) : Apart2 (some w.heap.size) p := fun b c e1 e2 => by
  cases e1
  have := lt_of_block (h c e2).2
  omega

theorem Apart2.symm {p q : Option Nat} (h : Apart2 p q) : Apart2 q p := fun b c e1 e2 => (h c b e2 e1).symm

theorem regionQ {P : Program} {md : Region.Mode} {ops : Array Oper} {Q : Exit → Act → World → Prop} {W0 w : World} {l : List Value} {ds : List Deferred} {r0 : Nat} {listed : Array Bool} (n : Nat) (ci cd : Nat → Nat) (V : Nat → Value) (L : Nat → Bool → Bool → Array Bool) (zc : Array Value) (t a1 a2 d1 d2 : Nat)
    (hchk : chk2v md ops n ci a1 a2 L = true) (hd : d1 ≠ d2) (hcd : ∀ i, i < n → d1 ≠ cd i ∧ d2 ≠ cd i) (hlisted : listed = L 0 false false) (hw : Below W0.heap.size W0 w)
    (hc : ∀ i, i < n → ∀ (T : List Value) (w : World) (K : Act → World → Prop), Below W0.heap.size W0 w → (∀ x, x ≠ d1 → x ≠ d2 → T[x]? = (TC cd V l i)[x]?) → (∀ w', Below w.heap.size w w' → K { tmps := (T.set (cd i) (V i)).toArray, defers := ds } w') → wpOp P ops Q (ci i) K { tmps := T.toArray, defers := ds } w)
    (h1 : ∀ (T : List Value) (w : World) (K : Act → World → Prop), K { tmps := (T.set d1 (.pointer (some ⟨w.heap.size, 0, none⟩))).toArray, defers := ds } (w.alloc (.cells zc t (0, 0))) → wpOp P ops Q a1 K { tmps := T.toArray, defers := ds } w)
    (h2 : ∀ (T : List Value) (w : World) (K : Act → World → Prop), K { tmps := (T.set d2 (.pointer (some ⟨w.heap.size, 0, none⟩))).toArray, defers := ds } (w.alloc (.cells zc t (0, 0))) → wpOp P ops Q a2 K { tmps := T.toArray, defers := ds } w)
    (hend : ∀ (w : World) (b1 b2 : Nat), Below W0.heap.size W0 w → W0.heap.size ≤ b1 → W0.heap.size ≤ b2 → w.heap[b1]? = some (.cells zc t (0, 0)) → w.heap[b2]? = some (.cells zc t (0, 0)) → b1 ≠ b2 →
      wpAnyH P md ops Q (fun V => Below W0.heap.size W0 V) r0 (L n true true) { tmps := (((TC cd V l n).set d1 (.pointer (some ⟨b1, 0, none⟩))).set d2 (.pointer (some ⟨b2, 0, none⟩))).toArray, defers := ds } w) :
    wpAnyH P md ops Q (fun V => Below W0.heap.size W0 V) (r0 + 2 + n) listed { tmps := l.toArray, defers := ds } w := by
  refine wpAnyH_stageE (Φ := fun k listed a w => ∃ i p q, St2v zc t d1 d2 cd V L l ds W0 n (r0 + 2 + n) k listed a w i p q) ?_ (r0 + 2 + n) listed _ w ⟨0, none, none, ⟨by omega, by simp [one?], hlisted, rfl, hw, FreshZ.none, FreshZ.none, Apart2.none1⟩⟩
  rintro k listed a w ⟨i, p, q, I⟩
  obtain ⟨hi2, hk, hli, ha, hb, fp, fq, pq⟩ := I
  subst hli ha
  have hbb : ∀ b : Bool, b ∈ [false, true] := fun b => by cases b <;> simp
  have g := List.all_eq_true.1 (List.all_eq_true.1 (List.all_eq_true.1 hchk i (List.mem_range.2 (by omega))) p.isSome (hbb _)) q.isSome (hbb _)
  have o1 : one? p ≤ 1 := by unfold one?; split <;> omega
  have o2 : one? q ≤ 1 := by unfold one?; split <;> omega
  by_cases hdone : i = n ∧ p.isSome = true ∧ q.isSome = true
  · obtain ⟨rfl, hp, hq⟩ := hdone
    obtain ⟨b1, rfl⟩ := Option.isSome_iff_exists.1 hp
    obtain ⟨b2, rfl⟩ := Option.isSome_iff_exists.1 hq
    have e : k = r0 := by simp [one?] at hk; omega
    subst e
    exact Or.inl (hend w b1 b2 hb (fp b1 rfl).1 (fq b2 rfl).1 (fp b1 rfl).2 (fq b2 rfl).2 (pq b1 b2 rfl rfl))
  · have hnd : (decide (i = n) && p.isSome && q.isSome) = false := by
      rw [Bool.eq_false_iff]
      intro h
      simp only [Bool.and_eq_true, decide_eq_true_eq] at h
      exact hdone ⟨h.1.1, h.1.2, h.2⟩
    rw [hnd, Bool.false_or] at g
    simp only [Bool.and_eq_true] at g
    obtain ⟨⟨⟨⟨g1, g2⟩, gc⟩, gp⟩, gq⟩ := g
    have hk0 : 0 < k := by
      apply Nat.pos_of_ne_zero
      intro e
      subst e
      have h1' : i = n := by omega
      have h2' : one? p = 1 := by omega
      have h3' : one? q = 1 := by omega
      unfold one? at h2' h3'
      exact hdone ⟨h1', by split at h2' <;> simp_all, by split at h3' <;> simp_all⟩
    obtain ⟨k', rfl⟩ : ∃ k', k = k' + 1 := ⟨k - 1, by omega⟩
    refine Or.inr ⟨k', rfl, not_isEmpty g1, fun j hj => ?_⟩
    have g6 := List.all_eq_true.1 g2 j hj
    simp only [Bool.or_eq_true, Bool.and_eq_true, beq_iff_eq, Bool.not_eq_true', decide_eq_true_eq] at g6
    rcases g6 with (⟨rfl, hlt⟩ | ⟨rfl, hn⟩) | ⟨rfl, hn⟩
    · have hg3 : (L i p.isSome q.isSome).setIfInBounds (ci i) true = L (i + 1) p.isSome q.isSome := by
        rcases Bool.or_eq_true .. ▸ gc with h | h
        · have := of_decide_eq_true h
          omega
        · exact of_decide_eq_true h
      obtain ⟨e1, e2⟩ := hcd i hlt
      refine hc i hlt _ w _ hb (fun x x1 x2 => TF2_get x1 x2) (fun w' hb' => ⟨hb.trans (hb'.mono hb.size), i + 1, p, q, ⟨hlt, by omega, hg3, by rw [TF2_set e1 e2]; rfl, hb.trans (hb'.mono hb.size), fp.call hb', fq.call hb', pq⟩⟩)
    · have e : p = none := by cases p with | none => rfl | some _ => cases hn
      subst e
      rw [show (none : Option Nat).isSome = false from rfl, Bool.false_or] at gp
      refine h1 _ w _ ⟨hb.alloc hb.size _, i, some w.heap.size, q, ⟨hi2, by simp [one?] at hk ⊢; omega, of_decide_eq_true gp, by rw [TF2_p hd], hb.alloc hb.size _, FreshZ.new hb.size, fq.alloc _, fq.apart2⟩⟩
    · have e : q = none := by cases q with | none => rfl | some _ => cases hn
      subst e
      rw [show (none : Option Nat).isSome = false from rfl, Bool.false_or] at gq
      refine h2 _ w _ ⟨hb.alloc hb.size _, i, p, some w.heap.size, ⟨hi2, by simp [one?] at hk ⊢; omega, of_decide_eq_true gq, by rw [TF2_q], hb.alloc hb.size _, fp.alloc _, FreshZ.new hb.size, fp.apart2.symm⟩⟩

end Go.Proofs.YtppijhcfodccfaaGreat

namespace Go.Proofs.YtppijhcfodccfaaGreat
open Go.RowKit Go.Shelf

theorem putAll_all : ∀ (vs pre rest : List Value), rest.length = vs.length → putAll (pre ++ rest).toArray pre.length vs = (pre ++ vs).toArray
  | [], pre, rest, h => by
    obtain rfl := List.eq_nil_of_length_eq_zero (by simpa using h)
    rfl
  | v :: vs, pre, [], h => by simp at h
  | v :: vs, pre, x :: rest, h => by
    have e : (pre ++ x :: rest).toArray.setIfInBounds pre.length v = ((pre ++ [v]) ++ rest).toArray := by simp
    rw [putAll, e]
    have := putAll_all vs (pre ++ [v]) rest (by simpa using h)
    rw [List.length_append, List.length_singleton] at this
    rw [this, List.append_assoc]
    rfl

theorem putAll_eq {C C' : Array Value} (h : C.size = C'.size) : putAll C 0 C'.toList = C' := by
  have := putAll_all C'.toList [] C.toList (by simpa using h)
  simpa using this

theorem there_of {w : World} {b t n : Nat} {C : Array Value} (h : w.heap[b]? = some (.cells C t (0, 0))) (hn : C.size = n) : w.there b 0 n := fun j hj => by
  refine ⟨?_, blk_free h⟩
  rw [Nat.zero_add, blk_cell h (Array.getElem?_eq_getElem (by omega))]
  rfl

/-- All older blocks but R0 are as they were; R0 is a box of n cells. -/
structure KQ (W : World) (R0 n ty : Nat) (V : World) : Prop where
  same : ∀ b, b < W.heap.size → b ≠ R0 → V.heap[b]? = W.heap[b]?
  below : Below R0 W V
  res : ∃ C : Array Value, V.heap[R0]? = some (.cells C ty (0, 0)) ∧ C.size = n

section
variable {W V V' : World} {R0 n ty : Nat}
theorem KQ.start {C : Array Value} (h : W.heap[R0]? = some (.cells C ty (0, 0))) (hn : C.size = n) : KQ W R0 n ty W := ⟨fun _ _ _ => rfl, Below.refl _ _, C, h, hn⟩

theorem KQ.init {C : Array Value} (h : W.heap[R0]? = some (.cells C ty (0, 0))) (hn : C.size = n) : KQ W R0 n ty W.drew := ⟨fun _ _ _ => rfl, (Below.refl _ _).drew, C, h, hn⟩

theorem KQ.size (h : KQ W R0 n ty V) : W.heap.size ≤ V.heap.size := h.below.size

theorem KQ.call (h : KQ W R0 n ty V) (hb : Below V.heap.size V V') : KQ W R0 n ty V' := by
  obtain ⟨g, hg, hn⟩ := h.res
  have hlt := lt_of_block hg
  exact ⟨fun b h1 h2 => (hb.block b (Nat.lt_of_lt_of_le h1 h.size)).trans (h.same b h1 h2), h.below.trans (hb.mono (Nat.le_of_lt hlt)), g, (hb.block _ hlt).trans hg, hn⟩

theorem KQ.there (h : KQ W R0 n ty V) {C : Array Value} (hC : C.size = n) : V.there R0 0 C.size := by
  obtain ⟨g, hg, hn⟩ := h.res
  exact there_of hg (by omega)

theorem KQ.put (h : KQ W R0 n ty V) {C : Array Value} (hC : C.size = n) : (V.setCells R0 0 C.toList).heap[R0]? = some (.cells C ty (0, 0)) := by
  obtain ⟨g, hg, hn⟩ := h.res
  have h1 := blk_sets C.toList 0 hg
  rwa [putAll_eq (by omega)] at h1

theorem KQ.store (h : KQ W R0 n ty V) {C : Array Value} (hC : C.size = n) : KQ W R0 n ty (V.setCells R0 0 C.toList) := by
  have hB := But.sets C.toList 0 (But.refl R0 V)
  exact ⟨fun b h1 h2 => (hB.same b h2).trans (h.same b h1 h2), h.below.trans hB.below, C, h.put hC, hC⟩

theorem KQ.box (h : KQ W R0 n ty V) {b t : Nat} {C : Array Value} (hb : W.heap[b]? = some (.cells C t (0, 0))) (hne : b ≠ R0) : V.heap[b]? = some (.cells C t (0, 0)) := (h.same b (lt_of_block hb) hne).trans hb

end

/-- Cells in the middle of a block. -/
theorem range_mid {w : World} {b t : Nat} {A B C : Array Value} (h : w.heap[b]? = some (.cells (A ++ (B ++ C)) t (0, 0))) {o : Nat} (ho : A.size = o) : w.rangeAt b o B.toList := fun j v hv => by
  have hj : j < B.size := by simpa using (List.getElem?_eq_some_iff.1 hv).1
  refine blk_cell h ?_
  rw [Array.getElem?_append_right (by omega), show o + j - A.size = j by omega, Array.getElem?_append_left hj, ← Array.getElem?_toList]
  exact hv

end Go.Proofs.YtppijhcfodccfaaGreat
