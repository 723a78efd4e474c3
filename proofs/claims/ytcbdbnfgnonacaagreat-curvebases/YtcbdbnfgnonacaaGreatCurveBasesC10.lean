/-
 Regions of exact values and new boxes: what is known goes in one piece.
-/
import Derived.Test.YtcbdbnfgnonacaaGreatCurveBasesC08
import Derived.Test.YtcbdbnfgnonacaaGreatCurveBasesC09
namespace Go.Proofs.YtcbdbnfgnonacaaGreat
open Go.RowKit Go.Shelf
def isI : Value → Bool
 | .int _ _ => true
 | _ => false
def isS : Value → Bool
 | .slice (some _) _ _ => true
 | _ => false
structure Safe (w w' : World) : Prop where
 size : w.heap.size ≤ w'.heap.size
 sl : ∀ g o u, w.cell? ⟨g, o, none⟩ = some u → isS u = true → w'.cell? ⟨g, o, none⟩ = some u
 two : ∀ g o u u', w.cell? ⟨g, o, none⟩ = some u → w.cell? ⟨g, o + 1, none⟩ = some u' → isI u = true → isI u' = true → w'.cell? ⟨g, o, none⟩ = some u ∧ w'.cell? ⟨g, o + 1, none⟩ = some u'
theorem LW.safe {w w' : World} {v : Value} {n : Nat} {f : Nat → Nat} (hn : 2 ≤ n) (h : LW w v n f) (hs : Safe w w') : LW w' v n f := by
 obtain ⟨g, o, c, e, h1, h2, hg, hc⟩ := h.ex
 refine ⟨g, o, c, e, h1, h2, Nat.lt_of_lt_of_le hg hs.size, fun j hj => ?_⟩
 by_cases hj1 : j + 1 < n
 ·
  exact (hs.two g (o + j) _ _ (hc j hj) (hc (j + 1) hj1) rfl rfl).1
 ·
  obtain ⟨i, rfl⟩ : ∃ i, j = i + 1 := ⟨j - 1, by omega⟩
  exact (hs.two g (o + i) _ _ (hc i (by omega)) (hc (i + 1) hj) rfl rfl).2
theorem LL.safe {w w' : World} {v : Value} {n : Nat} {xs : List Nat} (hn : 2 ≤ n) (h : LL w v n xs) (hs : Safe w w') : LL w' v n xs := by
 obtain ⟨g, o, c, e, h1, h2, hg, hc⟩ := h.ex
 refine ⟨g, o, c, e, h1, h2, Nat.lt_of_lt_of_le hg hs.size, fun j x hj => ?_⟩
 obtain ⟨u, hu, hL⟩ := hc j x hj
 refine ⟨u, hs.sl _ _ _ hu ?_, hL.safe hn hs⟩
 obtain ⟨g', o', c', rfl, _⟩ := hL.ex
 rfl
theorem FF.safe {w w' : World} {fv : Value} {n M : Nat} (hn : 2 ≤ n) (h : FF w fv n M) (hs : Safe w w') : FF w' fv n M := by
 obtain ⟨mv, fo, tv, e, h1, h2, h3⟩ := h.ex
 exact ⟨mv, fo, tv, e, h1.safe hn hs, h2.safe hn hs, h3⟩
def okB (C : Array Value) (k n : Nat) : Bool := (List.range n).all fun i => match C[k + i]? with
 | some (.slice none _ _) => true
 | some (.bool _) => true
 | some (.int _ _) => !((C.getD (k + i + 1) (.bool false) matches .int _ _)) && (k + i == 0 || !((C.getD (k + i - 1) (.bool false) matches .int _ _)))
 | _ => false
theorem ZeO : ∀ (vs : List Value) (C : Array Value) (k j : Nat), j < k ∨ k + vs.length ≤ j → (putAll C k vs)[j]? = C[j]?
 | [], _, _, _, _ => rfl
 | v :: vs, C, k, j, h => by
  rw [putAll, ZeO vs _ (k + 1) j (by simp only [List.length_cons] at h; omega), Array.getElem?_setIfInBounds_ne (by simp only [List.length_cons] at h; omega)]
theorem ZcG {w : World} {b t : Nat} {C : Array Value} (h : w.heap[b]? = some (.cells C t (0, 0))) (o : Nat) : w.cell? ⟨b, o, none⟩ = C[o]? := by
 cases hc : C[o]? with
 | some v => exact Zae h hc
 | none =>
  unfold World.cell?
  simp [h, hc]
theorem Zbp {w w' : World} {b k t : Nat} {C : Array Value} {D : List Value} (hC : BX w b C t) (hok : okB C k D.length = true) (hb : But b w w') (hx : BX w' b (putAll C k D) t) : Safe w w' := by
 have hold : ∀ o, (∀ i, i < D.length → o ≠ k + i) → w'.cell? ⟨b, o, none⟩ = w.cell? ⟨b, o, none⟩ := fun o ho => by
  rw [ZcG hx.heap, ZcG hC.heap, ZeO]
  rcases Nat.lt_or_ge o k with h | h
  ·
   exact Or.inl h
  ·
   refine Or.inr (Nat.le_of_not_lt fun h2 => ho (o - k) (by omega) (by omega))
 have hsame : ∀ g o, g ≠ b → w'.cell? ⟨g, o, none⟩ = w.cell? ⟨g, o, none⟩ := fun g o hg => by
  unfold World.cell?
  simp only [hb.same g hg]
 have hk : ∀ i, i < D.length → ∃ u, C[k + i]? = some u ∧ isS u = false ∧ (isI u = true → (∀ u', C[k + i + 1]? = some u' → isI u' = false) ∧ (∀ u', 0 < k + i → C[k + i - 1]? = some u' → isI u' = false)) := fun i hi => by
  have h := List.all_eq_true.1 hok i (List.mem_range.2 hi)
  cases hc : C[k + i]? with
  | none => rw [hc] at h; cases h
  | some u =>
   rw [hc] at h
   refine ⟨u, rfl, ?_⟩
   match u, h with
   | .slice none _ _, _ => exact ⟨rfl, fun h => by cases h⟩
   | .bool _, _ => exact ⟨rfl, fun h => by cases h⟩
   | .int _ _, h =>
    simp only [Bool.and_eq_true, Bool.not_eq_true', Bool.or_eq_true, beq_iff_eq] at h
    refine ⟨rfl, fun _ => ⟨fun u' hu' => ?_, fun u' h0 hu' => ?_⟩⟩
    ·
     have h1 := h.1
     rw [Array.getD_eq_getD_getElem?, hu'] at h1
     cases u' <;> first | rfl | (simp at h1)
    ·
     have h2 := h.2
     rcases h2 with h2 | h2
     ·
      omega
     ·
      rw [Array.getD_eq_getD_getElem?, hu'] at h2
      cases u' <;> first | rfl | (simp at h2)
 refine ⟨hb.below.size, fun g o u hu hs => ?_, fun g o u u' hu hu' hi hi' => ?_⟩
 ·
  by_cases hg : g = b
  ·
   subst hg
   rw [hold o fun i hi e => ?_]
   ·
    exact hu
   ·
    obtain ⟨u2, h1, h2, _⟩ := hk i hi
    rw [ZcG hC.heap, e, h1] at hu
    cases hu
    rw [hs] at h2
    cases h2
  ·
   rw [hsame g o hg]
   exact hu
 ·
  by_cases hg : g = b
  ·
   subst hg
   rw [hold o fun i hiD e => ?_, hold (o + 1) fun i hiD e => ?_]
   ·
    exact ⟨hu, hu'⟩
   ·
    obtain ⟨u2, h1, h2, h3⟩ := hk i hiD
    rw [ZcG hC.heap] at hu hu'
    rw [e, h1] at hu'
    cases hu'
    have h4 := (h3 hi').2 u (by omega) (by rw [← e]; exact hu)
    rw [hi] at h4
    cases h4
   ·
    obtain ⟨u2, h1, h2, h3⟩ := hk i hiD
    rw [ZcG hC.heap] at hu hu'
    rw [e] at hu hu'
    rw [h1] at hu
    cases hu
    have h4 := (h3 hi).1 u' hu'
    rw [hi'] at h4
    cases h4
  ·
   rw [hsame g o hg, hsame g (o + 1) hg]
   exact ⟨hu, hu'⟩
def AllC : List Value → Prop
 | [] => True
 | v :: vs => v.oneCell' = true ∧ AllC vs
theorem ZhZ : ∀ {vs : List Value}, AllC vs → vs.toArray.all (·.oneCell') = true
 | [], _ => by simp
 | v :: vs, h => by
  have := ZhZ h.2
  simp only [List.all_toArray', List.all_cons, Bool.and_eq_true] at this ⊢
  exact ⟨h.1, this⟩
theorem LW.oneC {w : World} {v : Value} {n : Nat} {f : Nat → Nat} (h : LW w v n f) : v.oneCell' = true := by
 obtain ⟨g, o, c, rfl, _⟩ := h.ex
 rfl
theorem LL.oneC {w : World} {v : Value} {n : Nat} {xs : List Nat} (h : LL w v n xs) : v.oneCell' = true := by
 obtain ⟨g, o, c, rfl, _⟩ := h.ex
 rfl
theorem ZbR {P : Program} {ops : List Oper} {Q : Exit → Act → World → Prop} {i : Nat} {o : Oper} {K : Act → World → Prop} {a : Act} {w : World} (ho : ops[i]? = some o) (hg : o.guard = none) (ty : TypeId) (x y : Operand) (hop : o.op = .store ty x y) (hd : o.dst = none)
  (b k : Nat) (C : Array Value) (D : List Value) (t : TypeId) {v : Value} (hx : a.eval x = .pointer (some ⟨b, k, none⟩)) (hy : a.eval y = v) (hv : v.cells = D.toArray) (hC : BX w b C t) (hk : k + D.length ≤ C.size) (hi : (P.info? ty).map (·.size) = some D.length) (h1 : AllC D)
  (h : ∀ w', But b w w' → BX w' b (putAll C k D) t → K a w') : wpOp P ops.toArray Q i K a w := by
 refine Zbx ho (fun K' hK' => ?_)
 have hw : Region.wanted o (yielded ops.toArray a.tmps) = true := by
  unfold Region.wanted
  rw [hg]
 rw [if_pos hw]
 have hput : K a (w.setCells b k D) := h _ (But.sets D k (But.refl b w)) ⟨ZaE D k hC.heap⟩
 have hst : (storeVar ty ⟨b, k, none⟩ v).run P w = .ok () (w.setCells b k D) := by
  have e : storeVar ty ⟨b, k, none⟩ v = storeVar ty ⟨b, k, none⟩ (.agg D.toArray) := by
   unfold storeVar
   rw [hv]
   rfl
  rw [e]
  have := run_storeVar_mid (P := P) w b k ty D.toArray (ZhQ hC.heap (by simpa using hk)) (by simpa using hi) (ZhZ h1)
  simpa using this
 unfold Oper.wp execOp
 simp only [hop, hx, hy, Instr.storeAt, Instr.sureAddr, Sem.run_bind, Sem.run_pure, Result.andThen, hst]
 show K' _ _
 rw [hd]
 exact hK' _ _ hput
theorem FF.oneT {w : World} {m f t : Value} {n M : Nat} (h : FF w (.agg #[m, f, t]) n M) : t.oneCell' = true := by
 obtain ⟨mv, fo, tv, e, h1, h2, h3⟩ := h.ex
 injection e with e
 injection e with e
 injection e with e1 e2
 injection e2 with e2 e3
 injection e3 with e3 e4
 rw [e3]
 exact h2.oneC
structure FG (w : World) (v : Value) (n M : Nat) : Prop where
 ex : ∃ mv fo tv, v = .agg #[mv, .int .u64 ((fo : Nat) : Int), tv] ∧ FF w v n M ∧ LW w mv n (limb M) ∧ tv.oneCell' = true
theorem FG.moved {w w' : World} {v : Value} {n M : Nat} (h : FG w v n M) (hb : Below w.heap.size w w') : FG w' v n M := by
 obtain ⟨mv, fo, tv, e, h1, h2, h3⟩ := h.ex
 exact ⟨mv, fo, tv, e, h1.moved hb, h2.moved hb, h3⟩
theorem Zfl (n M : Nat) : Stab (fun v w => FG w v n M) := fun _ _ _ h hb => h.moved hb
structure PT (w : World) (v : Value) (n : Nat) (X Y : List Nat) (i : Bool) : Prop where
 ex : ∃ xv yv, v = .agg #[xv, yv, .bool i] ∧ LL w xv n X ∧ LL w yv n Y
theorem PT.moved {w w' : World} {v : Value} {n : Nat} {X Y : List Nat} {i : Bool} (h : PT w v n X Y i) (hb : Below w.heap.size w w') : PT w' v n X Y i := by
 obtain ⟨xv, yv, e, h1, h2⟩ := h.ex
 exact ⟨xv, yv, e, h1.moved hb, h2.moved hb⟩
theorem ZcH (n : Nat) (X Y : List Nat) (i : Bool) : Stab (fun v w => PT w v n X Y i) := fun _ _ _ h hb => h.moved hb
structure CC (w : World) (v : Value) (n M d : Nat) (B : List Nat) (R : Nat) (X Y : List Nat) : Prop where
 ex : ∃ mv fo tv bv rv xv yv, v = .agg #[mv, .int .u64 ((fo : Nat) : Int), tv, .int .i64 (d : Int), bv, rv, xv, yv, .bool false] ∧ FF w (.agg #[mv, .int .u64 ((fo : Nat) : Int), tv]) n M ∧ LW w mv n (limb M) ∧ LL w bv n B ∧ LW w rv 4 (limb R) ∧ LL w xv n X ∧ LL w yv n Y
theorem CC.moved {w w' : World} {v : Value} {n M d : Nat} {B : List Nat} {R : Nat} {X Y : List Nat} (h : CC w v n M d B R X Y) (hb : Below w.heap.size w w') : CC w' v n M d B R X Y := by
 obtain ⟨mv, fo, tv, bv, rv, xv, yv, e, h1, h2, h3, h4, h5, h6⟩ := h.ex
 exact ⟨mv, fo, tv, bv, rv, xv, yv, e, h1.moved hb, h2.moved hb, h3.moved hb, h4.moved hb, h5.moved hb, h6.moved hb⟩
theorem Zdj (n M d : Nat) (B : List Nat) (R : Nat) (X Y : List Nat) : Stab (fun v w => CC w v n M d B R X Y) := fun _ _ _ h hb => h.moved hb
structure DC (w : World) (v : Value) (n M d R : Nat) : Prop where
 ex : ∃ mv fo tv rv, v = .agg #[mv, .int .u64 ((fo : Nat) : Int), tv, .int .i64 (d : Int), .slice none 0 0, rv, .slice none 0 0, .slice none 0 0, .bool false] ∧ FF w (.agg #[mv, .int .u64 ((fo : Nat) : Int), tv]) n M ∧ LW w mv n (limb M) ∧ LW w rv 4 (limb R) ∧ CF w v n M d
theorem DC.moved {w w' : World} {v : Value} {n M d R : Nat} (h : DC w v n M d R) (hb : Below w.heap.size w w') : DC w' v n M d R := by
 obtain ⟨mv, fo, tv, rv, e, h1, h2, h4, h5⟩ := h.ex
 exact ⟨mv, fo, tv, rv, e, h1.moved hb, h2.moved hb, h4.moved hb, h5.moved hb⟩
theorem Zkg (n M d R : Nat) : Stab (fun v w => DC w v n M d R) := fun _ _ _ h hb => h.moved hb
theorem CF.safe {w w' : World} {cv : Value} {n M d : Nat} (hn : 2 ≤ n) (h : CF w cv n M d) (hs : Safe w w') : CF w' cv n M d := by
 obtain ⟨mv, fo, tv, x4, x5, x6, x7, x8, e, hF, hm⟩ := h.ex
 exact ⟨mv, fo, tv, x4, x5, x6, x7, x8, e, hF.safe hn hs, hm.safe hn hs⟩
theorem Zha {a b : Value} (ha : a.cells = #[a]) (hb : b.cells = #[b]) (w : World) : (Instr.build 42 #[(0, a), (1, b)]).run Tryz.prog w = .ok (.agg #[a, b, .bool false]) w :=
 Zb8 (fs := fsOf (Tryz.prog.underlying 42)) (z := #[.slice none 0 0, .slice none 0 0, .bool false]) (places := #[(0, 1), (1, 1), (2, 1)]) (by kernel_rfl) (by kernel_rfl) (by kernel_rfl) (by simp [Instr.fill, ha, hb])
theorem Zkh {m f t b r x y : Value} (d : Nat) (hb : b.cells = #[b]) (hr : r.cells = #[r]) (w : World) : (Instr.build 44 #[(0, .agg #[m, f, t]), (1, .int .i64 (d : Int)), (2, b), (3, r), (4, .agg #[x, y, .bool false])]).run Tryz.prog w = .ok (.agg #[m, f, t, .int .i64 (d : Int), b, r, x, y, .bool false]) w :=
 Zb8 (fs := fsOf (Tryz.prog.underlying 44)) (z := #[.slice none 0 0, .int .u64 0, .slice none 0 0, .int .i64 0, .slice none 0 0, .slice none 0 0, .slice none 0 0, .slice none 0 0, .bool false]) (places := #[(0, 3), (3, 1), (4, 1), (5, 1), (6, 3)]) (by kernel_rfl) (by kernel_rfl) (by kernel_rfl) (by
  have h1 : (Value.agg #[m, f, t]).cells = #[m, f, t] := rfl
  have h2 : (Value.agg #[x, y, .bool false]).cells = #[x, y, .bool false] := rfl
  have h3 : (Value.int .i64 (d : Int)).cells = #[.int .i64 (d : Int)] := rfl
  simp [Instr.fill, h1, h2, h3, hb, hr])
theorem bd_cv2 {m f t r : Value} (d : Nat) (hr : r.cells = #[r]) (w : World) : (Instr.build 44 #[(0, .agg #[m, f, t]), (1, .int .i64 (d : Int)), (3, r)]).run Tryz.prog w = .ok (.agg #[m, f, t, .int .i64 (d : Int), .slice none 0 0, r, .slice none 0 0, .slice none 0 0, .bool false]) w :=
 Zb8 (fs := fsOf (Tryz.prog.underlying 44)) (z := #[.slice none 0 0, .int .u64 0, .slice none 0 0, .int .i64 0, .slice none 0 0, .slice none 0 0, .slice none 0 0, .slice none 0 0, .bool false]) (places := #[(0, 3), (3, 1), (4, 1), (5, 1), (6, 3)]) (by kernel_rfl) (by kernel_rfl) (by kernel_rfl) (by
  have h1 : (Value.agg #[m, f, t]).cells = #[m, f, t] := rfl
  have h3 : (Value.int .i64 (d : Int)).cells = #[.int .i64 (d : Int)] := rfl
  simp [Instr.fill, h1, h3, hr])
theorem ZjB (w : World) : Calls Tryz.prog 87 #[] w fun r w' => (∃ v, r = .returned v ∧ LW w' v 4 (limb nBnP)) ∧ Below w.heap.size w w' := by
 refine (Zjl w).mono ?_
 rintro r w' ⟨⟨g, rfl, hg⟩, hb⟩
 exact ⟨⟨_, rfl, ZbP (by decide) hg⟩, hb⟩
theorem ZjC (w : World) : Calls Tryz.prog 69 #[] w fun r w' => (∃ v, r = .returned v ∧ LW w' v 4 (limb nBnR)) ∧ Below w.heap.size w w' := by
 refine (Zjm w).mono ?_
 rintro r w' ⟨⟨g, rfl, hg⟩, hb⟩
 exact ⟨⟨_, rfl, ZbP (by decide) hg⟩, hb⟩
theorem Zia (w : World) : Calls Tryz.prog 98 #[] w fun r w' => (∃ v, r = .returned v ∧ LW w' v 6 (limb nBlsP)) ∧ Below w.heap.size w w' := by
 refine (ZhW w).mono ?_
 rintro r w' ⟨⟨g, rfl, hg⟩, hb⟩
 exact ⟨⟨_, rfl, ZbP (by decide) hg⟩, hb⟩
theorem Zib (w : World) : Calls Tryz.prog 70 #[] w fun r w' => (∃ v, r = .returned v ∧ LW w' v 4 (limb nBlsR)) ∧ Below w.heap.size w w' := by
 refine (ZhX w).mono ?_
 rintro r w' ⟨⟨g, rfl, hg⟩, hb⟩
 exact ⟨⟨_, rfl, ZbP (by decide) hg⟩, hb⟩
theorem Zhb (s : ByteArray) (N : Nat) (hs : Zbg s) (hL : s.size ≤ 16 * 4) (hN : hxv s s.size = N) (w : World) : Calls Tryz.prog 94 #[.string s, .int .i64 4] w fun r w' => (∃ v, r = .returned v ∧ LW w' v 4 (limb N)) ∧ Below w.heap.size w w' := by
 refine (W4.Zdi s hs hL w).mono ?_
 rintro r w' ⟨⟨g, rfl, hg⟩, hb⟩
 rw [hN] at hg
 exact ⟨⟨_, rfl, ZbP (by decide) hg⟩, hb⟩
theorem ZeP (s : ByteArray) (N : Nat) (hs : Zbg s) (hL : s.size ≤ 16 * 6) (hN : hxv s s.size = N) (w : World) : Calls Tryz.prog 94 #[.string s, .int .i64 6] w fun r w' => (∃ v, r = .returned v ∧ LW w' v 6 (limb N)) ∧ Below w.heap.size w w' := by
 refine (W6.Zdi s hs hL w).mono ?_
 rintro r w' ⟨⟨g, rfl, hg⟩, hb⟩
 rw [hN] at hg
 exact ⟨⟨_, rfl, ZbP (by decide) hg⟩, hb⟩
theorem Zhc {n M : Nat} (hn2 : 2 ≤ n) (hM : FM n M) (w : World) (m : Value) (hm : LW w m n (limb M)) : Calls Tryz.prog 86 #[m] w fun r w' => (∃ v, r = .returned v ∧ FG w' v n M) ∧ Below w.heap.size w w' := by
 refine (Zjo hn2 hM w m hm).mono ?_
 rintro r w' ⟨⟨fo, tv, rfl, hL, h0⟩, hb⟩
 exact ⟨⟨_, rfl, m, fo, tv, rfl, ⟨m, fo, tv, rfl, hm.moved hb, hL, h0⟩, hm.moved hb, hL.oneC⟩, hb⟩
theorem ZcW {P : Program} {fn : Func} {R : Ending → World → Prop} {l : List Value} {w : World} (j ty : Nat) (b : Nat) (C : Array Value) {d : TypeDesc} (hf : fn.results = #[.cell j ty]) (hl : l[j]? = some (.pointer (some ⟨b, 0, none⟩))) (hB : BX w b C ty) (hu : P.underlying ty = some d) (hd : d.isRow = true) (hi : (P.info? ty).map (·.size) = some C.size) (h : R (.returned (.agg C)) w) : bodyPost P fn R .ret { tmps := l.toArray, defers := [] } w :=
 bodyPost_ret_by (ZaH hf (by simp [Array.getD_eq_getD_getElem?, hl]) (loadC _ b 0 ty C d (Zah hB.heap) hu hd hi)) rfl h
theorem hFM4 : FM 4 nBnP := ⟨by decide, by decide, by decide +kernel, by decide +kernel, by decide +kernel⟩
theorem hFM6 : FM 6 nBlsP := ⟨by decide, by decide, by decide +kernel, by decide +kernel, by decide +kernel⟩
abbrev Bxs := List (Nat × Array Value × TypeId)
inductive GD where
 | ex (v : Value)
 | nb (C : Array Value) (t : TypeId)
def GD.pd (N : Nat) : GD → PD
 | .ex v => .ex v
 | .nb C t => .pr (NB N C t)
def GDs (N : Nat) (Gs : List GD) : List PD := Gs.map (GD.pd N)
theorem Zdq (N : Nat) : ∀ Gs : List GD, StabD (GDs N Gs)
 | [] => trivial
 | .ex _ :: Gs => Zdq N Gs
 | .nb _ _ :: Gs => ⟨Zbb _ _ _, Zdq N Gs⟩
theorem Zef (N : Nat) (Gs : List GD) : (GDs N Gs).length = Gs.length := by simp [GDs]
structure GS (w W : World) (L : List Value) (n : Nat) (kn : List (Nat × Value)) (bl : Bxs) : Prop where
 up : Up w W
 len : L.length = n
 ks : KS L kn
 bx : BXs W bl
 nw : ∀ x ∈ bl, w.heap.size ≤ x.1
structure GT (w W : World) (L : List Value) (n : Nat) (nk : List Nat → List (Nat × Value)) (bl : Bxs) : Prop where
 up : Up w W
 len : L.length = n
 ks : ∀ live, KS L (nk live)
 bx : BXs W bl
 nw : ∀ x ∈ bl, w.heap.size ≤ x.1
def EndG (w V : World) (n : Nat) (nk : List Value → List Nat → List (Nat × Value)) (R : List Value → Prop) : List GD → List Value → Bxs → Prop
 | [], vals, bl => ∀ L, GT w V L n (nk vals.reverse) bl → R L
 | .ex v :: Gs, vals, bl => EndG w V n nk R Gs (v :: vals) bl
 | .nb C t :: Gs, vals, bl => ∀ B, EndG w V n nk R Gs (pv B 0 :: vals) ((B, C, t) :: bl)
def alB (ops : Array Oper) : Nat → List GD → Bool
 | _, [] => true
 | i, .ex _ :: Gs => alB ops (i + 1) Gs
 | i, .nb _ _ :: Gs => isAl ops i && alB ops (i + 1) Gs
structure GI (V : World) (N : Nat) (ops : Array Oper) (acc : List Value) (nbl : List (Nat × Nat × Array Value × TypeId)) : Prop where
 all : ∀ x ∈ nbl, BX V x.2.1 x.2.2.1 x.2.2.2 ∧ N ≤ x.2.1 ∧ isAl ops x.1 = true ∧ x.1 < acc.length ∧ acc.reverse[x.1]? = some (pv x.2.1 0)
 nd : (nbl.map (·.1)).Nodup
theorem GI.more {V : World} {N : Nat} {ops : Array Oper} {acc : List Value} {nbl : List (Nat × Nat × Array Value × TypeId)} (h : GI V N ops acc nbl) (v : Value) : GI V N ops (v :: acc) nbl := ⟨fun x hx => by
 obtain ⟨h1, h2, h3, h4, h5⟩ := h.all x hx
 exact ⟨h1, h2, h3, by simp; omega, by rw [List.reverse_cons, List.getElem?_append_left (by simpa using h4)]; exact h5⟩, h.nd⟩
theorem EndG.to {w W V : World} {ops : Array Oper} {n M : Nat} {nk : List Value → List Nat → List (Nat × Value)} {R : List Value → Prop} {bl : Bxs} (hup : Up w V) (hV : Up W V) (hw : w.heap.size ≤ W.heap.size) (hbx : BXs W bl) (hnw : ∀ x ∈ bl, w.heap.size ≤ x.1) :
  ∀ (Gs : List GD) (acc : List Value) (nbl : List (Nat × Nat × Array Value × TypeId)), acc.length + Gs.length = M → alB ops acc.length Gs = true → GI V W.heap.size ops acc nbl → EndG w V n nk R Gs acc (nbl.map (·.2) ++ bl) →
   EndP V (PDs (GDs W.heap.size Gs)) (fun vs => Apt ops M (acc.reverse ++ vs) → ∀ L, L.length = n → (∀ live, KS L (nk (acc.reverse ++ vs) live)) → R L)
 | [], acc, nbl, hM, _, hI, h => fun hA L hl hk => by
  rw [List.append_nil] at hA hk
  refine h L ⟨hup, hl, hk, ⟨fun j b C t hj => ?_, ?_⟩, fun x hx => ?_⟩
  ·
   rcases List.mem_append.1 (List.mem_of_getElem? hj) with hm | hm
   ·
    obtain ⟨x, hx, e⟩ := List.mem_map.1 hm
    have := (hI.all x hx).1
    rw [e] at this
    exact this
   ·
    obtain ⟨j', hj'⟩ := List.mem_iff_getElem?.1 hm
    exact (hbx.all j' b C t hj').moved hV
  ·
   rw [List.map_append, List.nodup_append]
   refine ⟨?_, hbx.nd, ?_⟩
   ·
    rw [List.map_map]
    unfold List.Nodup
    rw [List.pairwise_map]
    have := hI.nd
    unfold List.Nodup at this
    rw [List.pairwise_map] at this
    refine this.imp_of_mem fun {x y} hx hy hne e => ?_
    obtain ⟨_, _, h3, h4, h5⟩ := hI.all x hx
    obtain ⟨_, _, g3, g4, g5⟩ := hI.all y hy
    have e' : x.2.1 = y.2.1 := e
    refine hA x.1 y.1 ?_ (by rw [h5, g5, e'])
    simp only [List.length_nil, Nat.add_zero] at hM
    simp [h3, g3, hne, ← hM, h4, g4]
   ·
    intro a ha b hb e
    obtain ⟨x, hx, rfl⟩ := List.mem_map.1 ha
    obtain ⟨z, hz, rfl⟩ := List.mem_map.1 hx
    obtain ⟨y, hy, rfl⟩ := List.mem_map.1 hb
    obtain ⟨j, hj⟩ := List.mem_iff_getElem?.1 hy
    have h1 := Zaa (hbx.all j y.1 y.2.1 y.2.2 hj).heap
    have h2 := (hI.all z hz).2.1
    omega
  ·
   rcases List.mem_append.1 hx with hm | hm
   ·
    obtain ⟨z, hz, rfl⟩ := List.mem_map.1 hm
    have h2 := (hI.all z hz).2.1
    omega
   ·
    exact hnw x hm
 | .ex v :: Gs, acc, nbl, hM, ha, hI, h => by
  rintro _ rfl
  refine EndP.mono (EndG.to (M := M) hup hV hw hbx hnw Gs (v :: acc) nbl (by simp at hM ⊢; omega) ha (hI.more v) h) fun vs hk => ?_
  rw [List.reverse_cons, List.append_assoc] at hk
  exact hk
 | .nb C t :: Gs, acc, nbl, hM, ha, hI, h => by
  rintro _ ⟨b, rfl, hle, hb⟩
  simp only [alB, Bool.and_eq_true] at ha
  have hI' := hI.more (pv b 0)
  refine EndP.mono (EndG.to (M := M) hup hV hw hbx hnw Gs (pv b 0 :: acc) ((acc.length, b, C, t) :: nbl) (by simp at hM ⊢; omega) ha.2 ⟨fun x hx => ?_, ?_⟩ (h b)) fun vs hk => ?_
  ·
   rcases List.mem_cons.1 hx with rfl | hx
   ·
    exact ⟨hb, hle, ha.1, by simp, by simp⟩
   ·
    exact hI'.all x hx
  ·
   rw [List.map_cons, List.nodup_cons]
   refine ⟨fun hm => ?_, hI.nd⟩
   obtain ⟨x, hx, e⟩ := List.mem_map.1 hm
   have := (hI.all x hx).2.2.2.1
   omega
  ·
   rw [List.reverse_cons, List.append_assoc] at hk
   exact hk
section
variable {P : Program} {id : Nat} {ops : Array Oper} {b : Bool} {Q : Exit → Act → World → Prop} {c : Code} {w W : World} {L : List Value} {n : Nat} {kn : List (Nat × Value)} {bl : Bxs}
def nkOf (ops : Array Oper) (k : Nat) (kn : List (Nat × Value)) (vals : List Value) (live : List Nat) : List (Nat × Value) := nextK ((List.range k).map (dOf ops)) vals kn live
abbrev Tm (L : List Value) : Act := { tmps := L.toArray, defers := [] }
theorem GS.last {V : World} {R : List Value → Prop} {Gs : List GD} (S : GS w W L n kn bl) (hV : Up W V) (ha : alB ops 0 Gs = true) (hc : chkD .any ops Gs.length n = true) (h : EndG w V n (nkOf ops Gs.length kn) R Gs [] bl) :
  EndP V (PDs (GDs W.heap.size Gs)) (fun vl => Apt ops Gs.length vl → ∀ l', l' = TV ((List.range Gs.length).map (dOf ops)) vl L → R l') := by
 obtain ⟨h1, h2⟩ := Zeb hc
 have hk := S.ks
 refine EndP.mono (EndG.to (ops := ops) (M := Gs.length) (S.up.trans (hV.mono S.up.size)) hV S.up.size S.bx S.nw Gs [] [] (by simp) ha ⟨fun _ h => (by cases h), List.nodup_nil⟩ h) fun vs hk' hA l' e => ?_
 subst e
 exact hk' hA _ (by rw [ZgT, S.len]) fun live => hk.next h1 (by rw [S.len]; exact h2) live
end
section
variable {P : Program} {ops : List Oper} {Q : Exit → Act → World → Prop} {w W : World} {Gs : List GD} {kn : List (Nat × Value)} {L : List Value} {n i : Nat} {bl : Bxs} (S : GS w W L n kn bl)
include S
end
def offB (ops : List Oper) (Ds : List PD) (i : Nat) : Bool := match ops[i]? with
 | some o => o.dst.isSome && !isAlO o && (match o.guard with
  | none => false
  | some (g, b) => decide (g < Ds.length) && wts ops i g && (match Ds[g]? with | some (.ex (.bool c)) => c != b | _ => false) && (match ops[g]? with | some og => og.dst.isSome | none => false))
 | none => false
theorem ok_off {P : Program} {ops : List Oper} {Q : Exit → Act → World → Prop} {I : World → Prop} {Ds : List PD} {L : List Value} {ds : List Deferred} {i : Nat} (hc : offB ops Ds i = true := by kernel_rfl) (hpd : Ds[i]? = some (.ex undef) := by rfl) : OpOK P .any ops.toArray Q I (PDs Ds) L ds i := by
 intro T V K hI hO hW hK
 unfold offB at hc
 cases ho : ops[i]? with
 | none => rw [ho] at hc; cases hc
 | some o =>
  rw [ho] at hc
  simp only [Bool.and_eq_true] at hc
  obtain ⟨⟨hd, ha⟩, hg⟩ := hc
  obtain ⟨d, hd⟩ := Option.isSome_iff_exists.1 hd
  cases hgd : o.guard with
  | none => rw [hgd] at hg; cases hg
  | some gb =>
   obtain ⟨g, b⟩ := gb
   rw [hgd] at hg
   simp only [Bool.and_eq_true, decide_eq_true_eq] at hg
   obtain ⟨⟨⟨h1, h2⟩, h3⟩, h4⟩ := hg
   cases hog : ops[g]? with
   | none => rw [hog] at h4; cases h4
   | some og =>
    rw [hog] at h4
    obtain ⟨dg, hdg⟩ := Option.isSome_iff_exists.1 h4
    obtain ⟨v, hv, hp⟩ := hW g (by rw [Zco, ZgQ]; simp [h1, h2])
    have hdo : dOf ops.toArray g = dg := by
     unfold dOf
     rw [List.getElem?_toArray, hog]
     simp [hdg]
    rw [hdo] at hv
    split at h3
    ·
     rename_i c hc
     rw [ZdZ hc] at hp
     have e : Value.bool c = v := hp
     subst e
     have hcb : c ≠ b := by simpa using h3
     have hw : Region.wanted o (yielded ops.toArray T.toArray) = false := by
      unfold Region.wanted
      rw [hgd]
      simp [yielded, hog, hdg, hv, hcb]
     refine Zbx ho (fun K' hK' => ?_)
     rw [if_neg (by rw [hw]; exact Bool.false_ne_true)]
     have hdd : dOf ops.toArray i = d := by
      unfold dOf
      rw [List.getElem?_toArray, ho]
      simp [hd]
     show K' (Act.put _ o.dst undef) V
     rw [hd, Zab]
     have := hK undef V (Below.refl _ _) (by rw [ZdZ hpd]; rfl) (fun h => by
      unfold isAl at h
      rw [List.getElem?_toArray, ho] at h
      have h' : isAlO o = true := h
      rw [h'] at ha
      cases ha)
     rw [hdd] at this
     exact hK' _ _ this
    ·
     cases h3
end Go.Proofs.YtcbdbnfgnonacaaGreat
