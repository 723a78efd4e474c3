/-
  A sum below twice the modulus, brought below it.
-/
import Derived.Laws.IdiomCopy
import Derived.Test.YtcbdbnfgnonacaaGreatCurveBn1C22
set_option maxHeartbeats 4000000
set_option maxRecDepth 100000
namespace Go.Proofs.YtcbdbnfgnonacaaGreat
open Go.RowKit Go.Shelf
theorem zpn : (#[.int .u64 0, .int .u64 0, .int .u64 0, .int .u64 0, .int .u64 0, .int .u64 0, .int .u64 0, .int .u64 0, .int .u64 0, .int .u64 0, .int .u64 0, .int .u64 0, .int .u64 0, .int .u64 0, .int .u64 0, .int .u64 0, .int .u64 0, .int .u64 0, .int .u64 0, .int .u64 0, .int .u64 0, .int .u64 0, .int .u64 0, .int .u64 0, .bool false] : Array Value) = pn 0 0 0 0 false := by
  rw [Zcg]
  rfl
theorem ZjT {x : Nat} (hx : x < W4.R) (j : Nat) (hj : 4 ≤ j) : limb x j = 0 := by
  unfold limb
  have e : W4.R ≤ 18446744073709551616 ^ j := by
    rw [show W4.R = 18446744073709551616 ^ 4 by decide +kernel]
    exact Nat.pow_le_pow_right (by decide) hj
  rw [Nat.div_eq_of_lt (by omega)]
theorem Zen : ∀ (vs pre old rest : List Value), old.length = vs.length → putAll (pre ++ (old ++ rest)).toArray pre.length vs = (pre ++ (vs ++ rest)).toArray
  | [], pre, old, rest, h => by
    obtain rfl := List.eq_nil_of_length_eq_zero (by simpa using h)
    rfl
  | v :: vs, pre, [], rest, h => by simp at h
  | v :: vs, pre, x :: old, rest, h => by
    have e : (pre ++ (x :: old ++ rest)).toArray.setIfInBounds pre.length v = ((pre ++ [v]) ++ (old ++ rest)).toArray := by simp
    rw [putAll, e]
    have := Zen vs (pre ++ [v]) old rest (by simpa using h)
    rw [List.length_append, List.length_singleton] at this
    rw [this]
    simp
theorem ZbU {A B B' C : Array Value} {o : Nat} (hA : A.size = o) (hB : B.size = B'.size) : putAll (A ++ (B ++ C)) o B'.toList = A ++ (B' ++ C) := by
  subst hA
  have h := Zen B'.toList A.toList B.toList C.toList (by simpa using hB)
  have e : ∀ X Y Z : Array Value, (X.toList ++ (Y.toList ++ Z.toList)).toArray = X ++ (Y ++ Z) := fun X Y Z => by
    apply Array.ext'
    simp only [Array.toList_append]
  rw [e, e, Array.length_toList] at h
  exact h
theorem ZjU {x : Nat} (hx : x < W4.R) : W6.cs (limb x) = P4.nv x ++ #[.int .u64 0, .int .u64 0] := by
  rw [Zf2, ZjT hx 4 (by omega), ZjT hx 5 (by omega)]
  unfold lo4
  rw [Nat.mod_eq_of_lt hx]
  rfl
theorem Zh9 : 0 < W4.R := by decide +kernel
theorem Zmd {x : Nat} (hx : x < W4.R) (b c d : Nat) (i : Bool) : pn x b c d i = (#[]) ++ (P4.nv x ++ (#[Value.int .u64 0, Value.int .u64 0] ++ (W6.cs (limb b) ++ (W6.cs (limb c) ++ (W6.cs (limb d) ++ (#[Value.bool i])))))) := by
  rw [Zcg, ZjU hx]
  simp only [Array.append_assoc, Array.empty_append]
theorem ZjV {x : Nat} (hx : x < W4.R) (b c d : Nat) (i : Bool) : putAll (pn 0 b c d i) 0 (P4.nv x).toList = pn x b c d i := by
  rw [Zmd Zh9, Zmd hx]
  exact ZbU (by rfl) (by rw [P4.Zao, P4.Zao])
theorem Zme {x : Nat} (hx : x < W4.R) (a b d : Nat) (i : Bool) : pn a b x d i = (W6.cs (limb a) ++ (W6.cs (limb b))) ++ (P4.nv x ++ (#[Value.int .u64 0, Value.int .u64 0] ++ (W6.cs (limb d) ++ (#[Value.bool i])))) := by
  rw [Zcg, ZjU hx]
  simp only [Array.append_assoc]
theorem ZjW {x : Nat} (hx : x < W4.R) (a b d : Nat) (i : Bool) : putAll (pn a b 0 d i) 12 (P4.nv x).toList = pn a b x d i := by
  rw [Zme Zh9, Zme hx]
  exact ZbU (by simp [W6.Za6]) (by rw [P4.Zao, P4.Zao])
theorem ZjX (a b c d : Nat) (i j : Bool) : (pn a b c d i).setIfInBounds 24 (.bool j) = pn a b c d j := by
  have e : ∀ i, pn a b c d i = (W6.cs (limb a) ++ (W6.cs (limb b) ++ (W6.cs (limb c) ++ W6.cs (limb d)))) ++ (#[.bool i] ++ #[]) := fun i => by
    rw [Zcg]
    simp only [Array.append_assoc, Array.append_empty]
  rw [e i, e j]
  have h := ZbU (A := W6.cs (limb a) ++ (W6.cs (limb b) ++ (W6.cs (limb c) ++ W6.cs (limb d)))) (B := #[.bool i]) (B' := #[.bool j]) (C := #[]) (o := 24) (by simp only [Array.size_append, W6.Za6]) rfl
  rw [show (#[Value.bool j] : Array Value).toList = [Value.bool j] from rfl, putAll, putAll] at h
  exact h
theorem Zmf (a b c d : Nat) (i : Bool) : (pn a b c d i).all (·.oneCell') = true := by
  rw [Zcg]
  exact P4.Zbb (W6.one _) (P4.Zbb (W6.one _) (P4.Zbb (W6.one _) (P4.Zbb (W6.one _) (by simp [Value.oneCell']))))
theorem undUs : Tryz.prog.underlying 37 = some (.slice 27) := by kernel_rfl
theorem infoU1 : (Tryz.prog.info? 27).map (·.size) = some 1 := by kernel_rfl
theorem Zf4 {op : Oper} {l : List Value} {ds : List Deferred} {w w' : World} {K : Act → World → Prop} {Q : Exit → Act → World → Prop} (x y : Operand) (d : Nat) (ho : op.op = .call { callee := .builtin .copy, args := #[x, y], argTypes := #[37, 37] }) (hd : op.dst = some d) {xv yv v : Value}
    (hx : Act.eval { tmps := l.toArray, defers := ds } x = xv) (hy : Act.eval { tmps := l.toArray, defers := ds } y = yv) (hr : (Builtin.copy_ #[37, 37] op.type #[xv, yv]).run Tryz.prog w = .ok v w')
    (h : K { tmps := (l.set d v).toArray, defers := ds } w') : op.wp Tryz.prog { tmps := l.toArray, defers := ds } w K Q := by
  have hk : K (Act.put { tmps := l.toArray, defers := ds } op.dst v) w' := by rw [hd, Zaa]; exact h
  unfold Oper.wp
  simp [execOp, ho, resolve, invoke, builtin, hx, hy, hr, Result.andThen]
  exact hk
theorem ZjY {w : World} {B t A o p : Nat} {C : Array Value} (ty : Nat) {x : Nat} (hB : w.heap[B]? = some (.cells C t (0, 0))) (hC : C.size = 25) (hp : p ≤ 18) (hs : w.rangeAt A o (P4.nv x).toList) :
    (Builtin.copy_ #[37, 37] ty #[.slice (some ⟨B, p, none⟩) 6 6, .slice (some ⟨A, o, none⟩) 4 4]).run Tryz.prog w = .ok (goInt 4) (w.setCells B p (P4.nv x).toList) := by
  have hl : (P4.nv x).toList.length = 4 := by rw [Array.length_toList, P4.Zao]
  have h := run_copy_cells (P := Tryz.prog) w 37 37 ty 27 B p 6 6 ⟨A, o, none⟩ 4 4 (P4.nv x).toList undUs infoU1 (by rw [hl]; rfl) (fun j v hv => ?_) (fun j hj => ?_) (fun j hj => Zap hB) (fun v hv => ?_)
  · rw [hl] at h
    exact h
  · have h1 := hs j v hv
    have e : (⟨A, o, none⟩ : Addr).add j = ⟨A, o + j, none⟩ := by unfold Addr.add; split <;> simp_all
    rw [e]
    exact h1
  · rw [hl] at hj
    rw [Zac hB (Array.getElem?_eq_getElem (by omega))]
    rfl
  · have := P4.Zba x
    rw [Array.all_eq_true'] at this
    exact this v (Array.mem_toList_iff.1 hv)
theorem wl4 (x : Nat) : wl 4 (limb x) = (P4.nv x).toList := by rw [P4.Za3]; rfl
theorem wl6 (x : Nat) : wl 6 (limb x) = (W6.cs (limb x)).toList := rfl
theorem Zmg : W4.R = 18446744073709551616 ^ 4 := by decide +kernel
section
variable {n X : Nat} (hn : n = 4 ∨ n = 6) (hX : X < 18446744073709551616 ^ n) (a b c d : Nat) (i : Bool)
include hn hX
theorem Znj : putAll (pn 0 b c d i) 0 (wl n (limb X)) = pn X b c d i := by
  rcases hn with rfl | rfl
  · rw [wl4]; exact ZjV (by rw [Zmg]; exact hX) b c d i
  · rw [wl6, Zcg, Zcg]
    have h := ZbU (A := #[]) (B := W6.cs (limb 0)) (B' := W6.cs (limb X)) (C := W6.cs (limb b) ++ (W6.cs (limb c) ++ (W6.cs (limb d) ++ #[.bool i]))) (o := 0) rfl (by rw [W6.Za6, W6.Za6])
    rw [Array.empty_append, Array.empty_append] at h
    exact h
theorem Znk : putAll (pn a b 0 d i) 12 (wl n (limb X)) = pn a b X d i := by
  rcases hn with rfl | rfl
  · rw [wl4]; exact ZjW (by rw [Zmg]; exact hX) a b d i
  · rw [wl6, Zcg, Zcg]
    have h := ZbU (A := W6.cs (limb a) ++ W6.cs (limb b)) (B := W6.cs (limb 0)) (B' := W6.cs (limb X)) (C := W6.cs (limb d) ++ #[.bool i]) (o := 12) (by simp [W6.Za6]) (by rw [W6.Za6, W6.Za6])
    simp only [Array.append_assoc] at h
    exact h
end
theorem al30 (w : World) : (Instr.alloc 30 true (.tuple #[])).run Tryz.prog w = .ok (.pointer (some ⟨w.heap.size, 0, none⟩)) (w.alloc (.cells (pn 0 0 0 0 false) 30 (0, 0))) := by
  rw [← zpn]
  kernel_rfl
theorem ZbJ : Tryz.prog.underlying 30 = some (.struct (fsOf (Tryz.prog.underlying 30))) := by kernel_rfl
theorem info30 (a b c d : Nat) (i : Bool) : (Tryz.prog.info? 30).map (·.size) = some (pn a b c d i).size := by rw [Zbc]; kernel_rfl
theorem Zmh {ops : List Oper} {Q : Exit → Act → World → Prop} {i d : Nat} {o : Oper} {K : Act → World → Prop} {l : List Value} {ds : List Deferred} {w : World} (ho : ops[i]? = some o) (hg : o.guard = none) (x y : Operand) (hop : o.op = .call { callee := .builtin .copy, args := #[x, y], argTypes := #[37, 37] }) (hd : o.dst = some d)
    (B p n : Nat) (f : Nat → Nat) (C : Array Value) (t : TypeId) {v : Value} (hx : Act.eval { tmps := l.toArray, defers := ds } x = .slice (some ⟨B, p, none⟩) 6 6) (hy : Act.eval { tmps := l.toArray, defers := ds } y = v) (hv : LW w v n f) (hn : n ≤ 6) (hB : BX w B C t) (hp : p + n ≤ C.size)
    (h : ∀ w', But B w w' → BX w' B (putAll C p (wl n f)) t → K { tmps := (l.set d (goInt n)).toArray, defers := ds } w') : wpOp Tryz.prog ops.toArray Q i K { tmps := l.toArray, defers := ds } w := by
  obtain ⟨A, q, c, rfl, h1, h2, hg1, hc⟩ := hv.ex
  have hl : (wl n f).length = n := Zb3 n f
  have hr := run_copy_cells (P := Tryz.prog) w 37 37 o.type 27 B p 6 6 ⟨A, q, none⟩ n c (wl n f) undUs infoU1 (by rw [hl]; exact (Nat.min_eq_left hn).symm) (fun j u hu => ?_) (fun j hj => ?_) (fun j hj => Zap hB.heap) (fun u hu => Ziq u hu)
  · rw [hl] at hr
    refine ZaE ho (fun K' hK' => ?_)
    have hw : Region.wanted o (yielded ops.toArray (Act.tmps { tmps := l.toArray, defers := ds })) = true := by
      unfold Region.wanted
      rw [hg]
    rw [if_pos hw]
    exact Zf4 x y d hop hd hx hy hr (hK' _ _ (h _ (But.sets _ _ (But.refl B w)) ⟨Za9 _ _ hB.heap⟩))
  · have hj := (List.getElem?_eq_some_iff.1 hu).1
    rw [hl] at hj
    rw [ZdB hj] at hu
    rw [Addr.add_mid, hc j hj]
    exact hu
  · rw [hl] at hj
    rw [Zac hB.heap (Array.getElem?_eq_getElem (by omega))]
    rfl
theorem st_pn {ops : List Oper} {Q : Exit → Act → World → Prop} {i : Nat} {o : Oper} {K : Act → World → Prop} {a : Act} {w : World} (ho : ops[i]? = some o) (hg : o.guard = none) (x y : Operand) (hop : o.op = .store 30 x y) (hd : o.dst = none)
    (B : Nat) {a1 a2 a3 a4 b1 b2 b3 b4 : Nat} {j1 j2 : Bool} (hx : a.eval x = .pointer (some ⟨B, 0, none⟩)) (hy : a.eval y = .agg (pn b1 b2 b3 b4 j2)) (hB : BX w B (pn a1 a2 a3 a4 j1) 30)
    (h : ∀ w', But B w w' → BX w' B (pn b1 b2 b3 b4 j2) 30 → K a w') : wpOp Tryz.prog ops.toArray Q i K a w := by
  refine ZaE ho (fun K' hK' => ?_)
  have hw : Region.wanted o (yielded ops.toArray a.tmps) = true := by
    unfold Region.wanted
    rw [hg]
  rw [if_pos hw]
  refine Zan _ x y hop hd B 0 (pn b1 b2 b3 b4 j2) hx hy (Zdt hB.heap (by rw [Zbc, Zbc])) (info30 _ _ _ _ _) (Zmf _ _ _ _ _) (hK' _ _ (h _ (But.sets _ _ (But.refl B w)) ⟨?_⟩))
  have := Za9 (pn b1 b2 b3 b4 j2).toList 0 hB.heap
  rwa [Zck (by rw [Zbc, Zbc])] at this
theorem ZjZ (a b c d : Nat) (i j : Bool) : putAll (pn a b c d i) 24 [.bool j] = pn a b c d j := ZjX a b c d i j
theorem of_1 {n : Nat} (hn : n = 4 ∨ n = 6) (a c : Nat) (ha : a < 18446744073709551616 ^ n) (hc : c < 18446744073709551616 ^ n) (i : Bool) (w : World) (p : Value) (hP : PT w p n [a] [c] i) : Calls Tryz.prog 17 #[p] w fun r w' => r = .returned (.agg (pn a 0 c 0 i)) ∧ Below w.heap.size w w' := by
 obtain ⟨xv, yv, rfl, hu, hv⟩ := hP.ex
 clear hP
 obtain ⟨gu, ou, cu, u0, rfl, -, -, ku, lu⟩ := hu.one
 have HKu0 := hideP ku
 have HLu0 := hideP lu
 have Ha := hideP ha
 clear hu ku lu ha
 obtain ⟨gv, ov, cv, v0, rfl, -, -, kv, lv⟩ := hv.one
 have HKv0 := hideP kv
 have HLv0 := hideP lv
 have Hc := hideP hc
 clear hv kv lv hc
 have HB : Hid (Up w w) := Below.refl _ _
 go_enter Tryz.func17, Tryz.ntmps17
 refine ZaW 44 [(0, .agg #[.slice (some ⟨gu, ou, none⟩) 1 cu, .slice (some ⟨gv, ov, none⟩) 1 cv, .bool i])] rfl ⟨rfl, trivial⟩ (fun L hL hK => ?_)
 refine Zae (fun K1 HK1 => ?_)
 have up : ∀ V, Up w V → Up w V := fun _ h => HB.out.trans (h.mono HB.out.size)
 refine ZaA [.pr (NB w.heap.size #[.slice (some ⟨gu, ou, none⟩) 1 cu, .slice (some ⟨gv, ov, none⟩) 1 cv, .bool i] 42), .pr (NB w.heap.size (pn (0) (0) (0) (0) false) 30)] [1, 2] hL hK ⟨ZaH _ _ _, ZaH _ _ _, trivial⟩
   ⟨ok_x [.ex (.agg #[.slice (some ⟨gu, ou, none⟩) 1 cu, .slice (some ⟨gv, ov, none⟩) 1 cv, .bool i])] hK (fun V h => ⟨_, _, Zcl rfl rfl, Zaq _ _, _, rfl, h.size, ⟨Zaf _ _⟩⟩),
   ok_x [] hK (fun V h => ⟨_, _, ZaJ rfl (al30 _), Zaq _ _, _, rfl, h.size, ⟨Zaf _ _⟩⟩),
   trivial⟩ ?_
 rintro W1 h _ ⟨B1, rfl, lB1, hB1⟩ _ ⟨B2, rfl, lB2, hB2⟩ L1 hL1 hK1
 have LB1 := hideP (Nat.le_trans HB.out.size lB1)
 clear lB1
 have LB2 := hideP (Nat.le_trans HB.out.size lB2)
 clear lB2
 replace HB := hideP (up _ h)
 have HB1 := hideP hB1
 clear hB1
 have HB2 := hideP hB2
 clear hB2
 have hK2 := hK1.to [(1, .pointer (some ⟨B1, 0, none⟩)), (2, .pointer (some ⟨B2, 0, none⟩))] (by kernel_rfl)
 clear up h hK1 hK hL L
 revert L1
 intro L hL hK
 refine HK1.out _ _ ?_
 clear HK1 K1
 refine Zae (fun K2 HK2 => ?_)
 have up : ∀ V, Up W1 V → Up w V := fun _ h => HB.out.trans (h.mono HB.out.size)
 refine ZaA [.pr (NB W1.heap.size (pn (0) (0) (0) (0) false) 30)] [1, 2, 3] hL hK ⟨ZaH _ _ _, trivial⟩
   ⟨ok_x [] hK (fun V h => ⟨_, _, ZaJ rfl (al30 _), Zaq _ _, _, rfl, h.size, ⟨Zaf _ _⟩⟩),
   trivial⟩ ?_
 rintro W2 h _ ⟨B3, rfl, lB3, hB3⟩ L1 hL1 hK1
 have LB3 := hideP (Nat.le_trans HB.out.size lB3)
 have nB3_B1 : B1 ≠ B3 := by have := HB1.out.lt; omega
 have nB3_B2 : B2 ≠ B3 := by have := HB2.out.lt; omega
 clear lB3
 replace HB := hideP (up _ h)
 replace HB1 := hideP (HB1.out.moved h)
 replace HB2 := hideP (HB2.out.moved h)
 have HB3 := hideP hB3
 clear hB3
 have hK2 := hK1.to [(1, .pointer (some ⟨B1, 0, none⟩)), (2, .pointer (some ⟨B2, 0, none⟩)), (3, .pointer (some ⟨B3, 0, none⟩))] (by kernel_rfl)
 clear up h hK1 hK hL L
 revert L1
 intro L hL hK
 refine HK2.out _ _ ?_
 clear HK2 K2
 refine Zae (fun K3 HK3 => ?_)
 have up : ∀ V, Up W2 V → Up w V := fun _ h => HB.out.trans (h.mono HB.out.size)
 refine Zbi [.ex (.pointer (some ⟨B1, 2, none⟩)), .ex (.bool i), .ex (.pointer (some ⟨B3, 24, none⟩))] [1, 2, 3, 5, 6] hL hK trivial
   ⟨ok_q hK,
   ZdJ 2 hK (fun V h => HB1.out.moved h),
   ok_q hK,
   trivial⟩ ?_
 rintro W3 h  L1 hL1 hK1
 replace HB := hideP (up _ h)
 replace HB1 := hideP (HB1.out.moved h)
 replace HB2 := hideP (HB2.out.moved h)
 replace HB3 := hideP (HB3.out.moved h)
 have hK2 := hK1.to [(1, .pointer (some ⟨B1, 0, none⟩)), (2, .pointer (some ⟨B2, 0, none⟩)), (3, .pointer (some ⟨B3, 0, none⟩)), (5, .bool i), (6, .pointer (some ⟨B3, 24, none⟩))] (by kernel_rfl)
 clear up h hK1 hK hL L
 revert L1
 intro L hL hK
 refine ZbQ rfl rfl 4 _ _ rfl rfl B3 24 (pn (0) (0) (0) (0) false) [.bool i] 30 (Zam (hK.get rfl)) (Zam (hK.get rfl)) rfl HB3.out (by rw [Zbc]; exact Nat.le_refl _) (by kernel_rfl) ⟨rfl, trivial⟩ (fun W4 hb9 hx9 => ?_)
 rw [ZjZ] at hx9
 replace HB1 := hideP (HB1.out.but hb9 nB3_B1)
 replace HB2 := hideP (HB2.out.but hb9 nB3_B2)
 replace HB := hideP (HB.out.trans (hb9.below.mono LB3.out))
 replace HB3 := hideP hx9
 clear hb9 hx9
 refine HK3.out _ _ ?_
 clear HK3 K3
 refine Zae (fun K4 HK4 => ?_)
 refine Zae (fun K5 HK5 => ?_)
 have up : ∀ V, Up W4 V → Up w V := fun _ h => HB.out.trans (h.mono HB.out.size)
 refine ZaA [.ex (.pointer (some ⟨B1, 0, none⟩)), .ex (.slice (some ⟨gu, ou, none⟩) 1 cu), .ex (.int .i64 1), .ex (.bool true)] [1, 2, 3, 10] hL hK trivial
   ⟨ok_q hK,
   ZdJ 0 hK (fun V h => HB1.out.moved h),
   ok_q hK,
   ok_q hK,
   trivial⟩ ?_
 rintro W5 h  L1 hL1 hK1
 replace HB := hideP (up _ h)
 replace HB1 := hideP (HB1.out.moved h)
 replace HB2 := hideP (HB2.out.moved h)
 replace HB3 := hideP (HB3.out.moved h)
 have hK2 := hK1.to [(1, .pointer (some ⟨B1, 0, none⟩)), (2, .pointer (some ⟨B2, 0, none⟩)), (3, .pointer (some ⟨B3, 0, none⟩)), (10, .bool true)] (by kernel_rfl)
 clear up h hK1 hK hL L
 revert L1
 intro L hL hK
 refine HK5.out _ _ ?_
 clear HK5 K5
 refine Ze2 hK ?_
 refine Zae (fun K6 HK6 => ?_)
 have up : ∀ V, Up W5 V → Up w V := fun _ h => HB.out.trans (h.mono HB.out.size)
 refine Zbi [.ex (.pointer (some ⟨B3, 0, none⟩)), .ex (.slice (some ⟨B3, 0, none⟩) 6 6), .ex (.pointer (some ⟨B1, 0, none⟩)), .ex (.slice (some ⟨gu, ou, none⟩) 1 cu), .ex (.pointer (some ⟨gu, ou + 0, none⟩)), .ex (u0)] [1, 2, 3, 12, 16] hL hK trivial
   ⟨ok_q hK,
   ok_q hK,
   ok_q hK,
   ZdJ 0 hK (fun V h => HB1.out.moved h),
   ok_q hK,
   Zi0 hK (fun V h => (HKu0.out.moved (up V h))),
   trivial⟩ ?_
 rintro W6 h  L1 hL1 hK1
 replace HB := hideP (up _ h)
 replace HB1 := hideP (HB1.out.moved h)
 replace HB2 := hideP (HB2.out.moved h)
 replace HB3 := hideP (HB3.out.moved h)
 have hK2 := hK1.to [(1, .pointer (some ⟨B1, 0, none⟩)), (2, .pointer (some ⟨B2, 0, none⟩)), (3, .pointer (some ⟨B3, 0, none⟩)), (12, .slice (some ⟨B3, 0, none⟩) 6 6), (16, u0)] (by kernel_rfl)
 clear up h hK1 hK hL L
 revert L1
 intro L hL hK
 refine Zmh rfl rfl _ _ rfl rfl B3 0 n (limb a) (pn (0) (0) (0) (0) i) 30 (Zam (hK.get rfl)) (Zam (hK.get rfl)) (HLu0.out.moved HB.out) (by omega) HB3.out (by rw [Zbc]; omega) (fun W7 hb9 hx9 => ?_)
 rw [Znj hn Ha.out (0) (0) (0) i] at hx9
 replace HB1 := hideP (HB1.out.but hb9 nB3_B1)
 replace HB2 := hideP (HB2.out.but hb9 nB3_B2)
 replace HB := hideP (HB.out.trans (hb9.below.mono LB3.out))
 replace HB3 := hideP hx9
 clear hb9 hx9
 replace hK := (KS.set1 (d := 17) (v := goInt n) (by omega) hK (by kernel_rfl)).pick [(1, .pointer (some ⟨B1, 0, none⟩)), (2, .pointer (some ⟨B2, 0, none⟩)), (3, .pointer (some ⟨B3, 0, none⟩))] (by kernel_rfl)
 replace hL : (List.set L 17 (goInt n)).length = _ := (List.length_set ..).trans hL
 generalize List.set L 17 (goInt n) = L1 at hK hL ⊢
 clear L
 revert L1
 intro L hK hL
 refine HK6.out _ _ ?_
 clear HK6 K6
 have up : ∀ V, Up W7 V → Up w V := fun _ h => HB.out.trans (h.mono HB.out.size)
 refine Zbi [.ex (.pointer (some ⟨B3, 12, none⟩)), .ex (.slice (some ⟨B3, 12, none⟩) 6 6), .ex (.pointer (some ⟨B1, 1, none⟩)), .ex (.slice (some ⟨gv, ov, none⟩) 1 cv), .ex (.pointer (some ⟨gv, ov + 0, none⟩)), .ex (v0)] [1, 2, 3, 19, 23] hL hK trivial
   ⟨ok_q hK,
   ok_q hK,
   ok_q hK,
   ZdJ 1 hK (fun V h => HB1.out.moved h),
   ok_q hK,
   Zi0 hK (fun V h => (HKv0.out.moved (up V h))),
   trivial⟩ ?_
 rintro W8 h  L1 hL1 hK1
 replace HB := hideP (up _ h)
 replace HB1 := hideP (HB1.out.moved h)
 replace HB2 := hideP (HB2.out.moved h)
 replace HB3 := hideP (HB3.out.moved h)
 have hK2 := hK1.to [(1, .pointer (some ⟨B1, 0, none⟩)), (2, .pointer (some ⟨B2, 0, none⟩)), (3, .pointer (some ⟨B3, 0, none⟩)), (19, .slice (some ⟨B3, 12, none⟩) 6 6), (23, v0)] (by kernel_rfl)
 clear up h hK1 hK hL L
 revert L1
 intro L hL hK
 refine Zmh rfl rfl _ _ rfl rfl B3 12 n (limb c) (pn (a) (0) (0) (0) i) 30 (Zam (hK.get rfl)) (Zam (hK.get rfl)) (HLv0.out.moved HB.out) (by omega) HB3.out (by rw [Zbc]; omega) (fun W9 hb9 hx9 => ?_)
 rw [Znk hn Hc.out (a) (0) (0) i] at hx9
 replace HB1 := hideP (HB1.out.but hb9 nB3_B1)
 replace HB2 := hideP (HB2.out.but hb9 nB3_B2)
 replace HB := hideP (HB.out.trans (hb9.below.mono LB3.out))
 replace HB3 := hideP hx9
 clear hb9 hx9
 replace hK := (KS.set1 (d := 24) (v := goInt n) (by omega) hK (by kernel_rfl)).pick [(1, .pointer (some ⟨B1, 0, none⟩)), (2, .pointer (some ⟨B2, 0, none⟩)), (3, .pointer (some ⟨B3, 0, none⟩))] (by kernel_rfl)
 replace hL : (List.set L 24 (goInt n)).length = _ := (List.length_set ..).trans hL
 generalize List.set L 24 (goInt n) = L1 at hK hL ⊢
 clear L
 revert L1
 intro L hK hL
 refine HK4.out _ _ ?_
 clear HK4 K4
 refine Zae (fun K7 HK7 => ?_)
 refine Zae (fun K8 HK8 => ?_)
 have up : ∀ V, Up W9 V → Up w V := fun _ h => HB.out.trans (h.mono HB.out.size)
 refine ZaA [.ex (.pointer (some ⟨B1, 0, none⟩)), .ex (.slice (some ⟨gu, ou, none⟩) 1 cu), .ex (.int .i64 1), .ex (.bool false)] [2, 3, 28] hL hK trivial
   ⟨ok_q hK,
   ZdJ 0 hK (fun V h => HB1.out.moved h),
   ok_q hK,
   ok_q hK,
   trivial⟩ ?_
 rintro W10 h  L1 hL1 hK1
 replace HB := hideP (up _ h)
 replace HB1 := hideP (HB1.out.moved h)
 replace HB2 := hideP (HB2.out.moved h)
 replace HB3 := hideP (HB3.out.moved h)
 have hK2 := hK1.to [(2, .pointer (some ⟨B2, 0, none⟩)), (3, .pointer (some ⟨B3, 0, none⟩)), (28, .bool false)] (by kernel_rfl)
 clear up h hK1 hK hL L
 revert L1
 intro L hL hK
 refine HK8.out _ _ ?_
 clear HK8 K8
 refine Zdj hK ?_
 refine wp_skip ?_
 refine HK7.out _ _ ?_
 clear HK7 K7
 refine Zae (fun K9 HK9 => ?_)
 have up : ∀ V, Up W10 V → Up w V := fun _ h => HB.out.trans (h.mono HB.out.size)
 refine Zbi [.ex (.agg (pn (a) (0) (c) (0) i))] [2, 43] hL hK trivial
   ⟨ok_x [.ex (.pointer (some ⟨B3, 0, none⟩))] hK (fun V h => ⟨_, _, ZaB rfl rfl (loadC _ B3 0 30 (pn (a) (0) (c) (0) i) _ (Zag (HB3.out.moved h).heap) ZbJ rfl (info30 _ _ _ _ _)), Below.refl _ _, rfl⟩),
   trivial⟩ ?_
 rintro W11 h  L1 hL1 hK1
 replace HB := hideP (up _ h)
 replace HB1 := hideP (HB1.out.moved h)
 replace HB2 := hideP (HB2.out.moved h)
 replace HB3 := hideP (HB3.out.moved h)
 have hK2 := hK1.to [(2, .pointer (some ⟨B2, 0, none⟩)), (43, .agg (pn (a) (0) (c) (0) i))] (by kernel_rfl)
 clear up h hK1 hK hL L
 revert L1
 intro L hL hK
 refine st_pn rfl rfl _ _ rfl rfl B2 (Zam (hK.get rfl)) (Zam (hK.get rfl)) HB2.out (fun W12 hb9 hx9 => ?_)
 clear HB1
 replace HB3 := hideP (HB3.out.but hb9 (Ne.symm nB3_B2))
 replace HB := hideP (HB.out.trans (hb9.below.mono LB2.out))
 replace HB2 := hideP hx9
 clear hb9 hx9
 refine HK9.out _ _ ?_
 clear HK9 K9
 refine wp_ret ?_
 exact ZcP 2 30 B2 (pn (a) (0) (c) (0) i) rfl (hK.get rfl) HB2.out ZbJ rfl (info30 _ _ _ _ _) ⟨rfl, HB.out⟩
theorem Zlo (w : World) : Calls Tryz.prog 18 #[] w fun r w' => (∃ v', r = .returned v' ∧ CC w' v' 4 nBnP 1 ([3]) nBnR ([1]) ([2])) ∧ Below w.heap.size w w' := by
 have HB : Hid (Up w w) := Below.refl _ _
 go_enter Tryz.func18, Tryz.ntmps18
 refine ZaW 19 [] rfl trivial (fun L hL hK => ?_)
 refine Zae (fun K1 HK1 => ?_)
 have up : ∀ V, Up w V → Up w V := fun _ h => HB.out.trans (h.mono HB.out.size)
 refine ZaA [.pr (NB w.heap.size #[.slice none 0 0, .int .u64 0, .slice none 0 0, .int .i64 0, .slice none 0 0, .slice none 0 0, .slice none 0 0, .slice none 0 0, .bool false] 44)] [0] hL hK ⟨ZaH _ _ _, trivial⟩
   ⟨ok_x [] hK (fun V h => ⟨_, _, ZaJ rfl (al44 _), Zaq _ _, _, rfl, h.size, ⟨Zaf _ _⟩⟩),
   trivial⟩ ?_
 rintro W1 h _ ⟨B1, rfl, lB1, hB1⟩ L1 hL1 hK1
 have LB1 := hideP (Nat.le_trans HB.out.size lB1)
 clear lB1
 replace HB := hideP (up _ h)
 have HB1 := hideP hB1
 clear hB1
 have hK2 := hK1.to [(0, .pointer (some ⟨B1, 0, none⟩))] (by kernel_rfl)
 clear up h hK1 hK hL L
 revert L1
 intro L hL hK
 refine HK1.out _ _ ?_
 clear HK1 K1
 refine Zae (fun K2 HK2 => ?_)
 have up : ∀ V, Up W1 V → Up w V := fun _ h => HB.out.trans (h.mono HB.out.size)
 refine Zbi [.pr (fun zv zw => LW zw zv (4) (limb nBnP)), .pr (fun zv zw => FG zw zv (4) (nBnP)), .pr (NB W1.heap.size #[.slice none 0 0, .int .u64 0, .slice none 0 0] 39)] [0, 1, 4] hL hK ⟨ZbX _ _, ZmL _ _, ZaH _ _ _, trivial⟩
   ⟨ok_c [] (en Tryz.func87) hK (fun V h => rBnP_L _),
   ok_c [.pr (fun zv zw => LW zw zv (4) (limb nBnP))] (en Tryz.func86) hK (fun V h u1 q1 => rnew_L (by decide) hFM4 _ _ q1),
   ok_x [] hK (fun V h => ⟨_, _, ZaJ rfl (al39 _), Zaq _ _, _, rfl, h.size, ⟨Zaf _ _⟩⟩),
   trivial⟩ ?_
 rintro W2 h v2 pv2 _ ⟨⟨mz3, fz3, tz3, rfl, hFz3, hMz3, h1z3⟩⟩ _ ⟨B4, rfl, lB4, hB4⟩ L1 hL1 hK1
 have LB4 := hideP (Nat.le_trans HB.out.size lB4)
 have nB4_B1 : B1 ≠ B4 := by have := HB1.out.lt; omega
 clear lB4
 replace HB := hideP (up _ h)
 replace HB1 := hideP (HB1.out.moved h)
 have Fv2 := hideP pv2
 clear pv2
 have HFFz3 : Hid (FF W2 (.agg #[mz3, .int .u64 (fz3 : Int), tz3]) (4) (nBnP)) := hFz3
 clear hFz3
 have HMVz3 : Hid (LW W2 mz3 (4) (limb (nBnP))) := hMz3
 clear hMz3
 have HOz3 : Hid (Value.oneCell' tz3 = true) := h1z3
 clear h1z3
 have HB4 := hideP hB4
 clear hB4
 have hK2 := hK1.to [(0, .pointer (some ⟨B1, 0, none⟩)), (1, .pointer (some ⟨B4, 0, none⟩)), (4, .agg #[mz3, .int .u64 (fz3 : Int), tz3])] (by kernel_rfl)
 clear up h hK1 hK hL L
 revert L1
 intro L hL hK
 refine ZbQ rfl rfl 39 _ _ rfl rfl B4 0 #[.slice none 0 0, .int .u64 0, .slice none 0 0] [mz3, .int .u64 (fz3 : Int), tz3] 39 (Zam (hK.get rfl)) (Zam (hK.get rfl)) (rfl) HB4.out (Nat.le_of_ble_eq_true rfl) info39 ⟨HMVz3.out.oneC, rfl, HOz3.out, trivial⟩ (fun W3 hb9 hx9 => ?_)
 have hs9 := Zca HB4.out (by kernel_rfl) hb9 hx9
 replace Fv2 := hideP (Fv2.out.safe (by decide) hs9)
 replace HFFz3 := hideP (HFFz3.out.safe (by decide) hs9)
 replace HMVz3 := hideP (HMVz3.out.safe (by decide) hs9)
 replace HB1 := hideP (HB1.out.but hb9 nB4_B1)
 replace HB := hideP (HB.out.trans (hb9.below.mono LB4.out))
 rw [show putAll _ _ _ = #[mz3, .int .u64 (fz3 : Int), tz3] by kernel_rfl] at hx9
 replace HB4 := hideP hx9
 clear hs9 hb9 hx9
 refine HK2.out _ _ ?_
 clear HK2 K2
 refine Zae (fun K3 HK3 => ?_)
 have up : ∀ V, Up W3 V → Up w V := fun _ h => HB.out.trans (h.mono HB.out.size)
 refine Zbi [.ex (.agg #[mz3, .int .u64 (fz3 : Int), tz3]), .pr (fun zv zw => LW zw zv (4) (limb 1)), .pr (fun zv zw => LL zw zv (4) ([1])), .ex (.agg #[mz3, .int .u64 (fz3 : Int), tz3]), .pr (fun zv zw => LW zw zv (4) (limb 2)), .pr (fun zv zw => LL zw zv (4) ([2])), .pr (fun zv zw => PT zw zv (4) ([1]) ([2]) false), .pr (NB W3.heap.size #[.slice none 0 0, .slice none 0 0, .bool false] 42)] [0, 1, 2, 11] hL hK ⟨ZbX _ _, Zbf _ _, ZbX _ _, Zbf _ _, Zeh _ _ _ _, ZaH _ _ _, trivial⟩
   ⟨ZaM 0 hK (fun V h => HB4.out.moved h) Zdd info39,
   ok_c [.ex (.agg #[mz3, .int .u64 (fz3 : Int), tz3]), .ex (.int .u64 1)] (en Tryz.func88) hK (fun V h => Zct hFM4 1 (by decide) _ _ (HFFz3.out.moved h)),
   ok_x [.pr (fun zv zw => LW zw zv (4) (limb 1))] hK (fun V h u1 q1 => ⟨_, _, ZeX (vs := #[(0, u1)]) rfl (by kernel_rfl) (bs1 _ (LW.isSlice q1)), Zaq _ _, LL.mk1 q1⟩),
   ZaM 0 hK (fun V h => HB4.out.moved h) Zdd info39,
   ok_c [.ex (.agg #[mz3, .int .u64 (fz3 : Int), tz3]), .ex (.int .u64 2)] (en Tryz.func88) hK (fun V h => Zct hFM4 2 (by decide) _ _ (HFFz3.out.moved h)),
   ok_x [.pr (fun zv zw => LW zw zv (4) (limb 2))] hK (fun V h u1 q1 => ⟨_, _, ZeX (vs := #[(0, u1)]) rfl (by kernel_rfl) (bs1 _ (LW.isSlice q1)), Zaq _ _, LL.mk1 q1⟩),
   ok_x [.pr (fun zv zw => LL zw zv (4) ([1])), .pr (fun zv zw => LL zw zv (4) ([2]))] hK (fun V h u1 q1 u2 q2 => ⟨_, _, Zcu (vs := #[(0, u1), (1, u2)]) rfl (by kernel_rfl) (ZlX (LL.isSlice q1) (LL.isSlice q2) _), Below.refl _ _, ⟨_, _, rfl, q1, q2⟩⟩),
   ok_x [] hK (fun V h => ⟨_, _, ZaJ rfl (al42 _), Zaq _ _, _, rfl, h.size, ⟨Zaf _ _⟩⟩),
   trivial⟩ ?_
 rintro W4 h v5 pv5 v6 pv6 v7 pv7 v8 pv8 _ ⟨⟨xz9, yz9, rfl, hxz9, hyz9⟩⟩ _ ⟨B10, rfl, lB10, hB10⟩ L1 hL1 hK1
 have LB10 := hideP (Nat.le_trans HB.out.size lB10)
 have nB10_B1 : B1 ≠ B10 := by have := HB1.out.lt; omega
 have nB10_B4 : B4 ≠ B10 := by have := HB4.out.lt; omega
 clear lB10
 replace HB := hideP (up _ h)
 replace Fv2 := hideP (Fv2.out.moved h)
 replace HFFz3 := hideP (HFFz3.out.moved h)
 replace HMVz3 := hideP (HMVz3.out.moved h)
 replace HB1 := hideP (HB1.out.moved h)
 replace HB4 := hideP (HB4.out.moved h)
 have Fv5 := hideP pv5
 clear pv5
 have Fv6 := hideP pv6
 clear pv6
 have Fv7 := hideP pv7
 clear pv7
 have Fv8 := hideP pv8
 clear pv8
 have HXz9 : Hid (LL W4 xz9 (4) ([1])) := hxz9
 clear hxz9
 have HYz9 : Hid (LL W4 yz9 (4) ([2])) := hyz9
 clear hyz9
 have HB10 := hideP hB10
 clear hB10
 have hK2 := hK1.to [(0, .pointer (some ⟨B1, 0, none⟩)), (1, .pointer (some ⟨B4, 0, none⟩)), (2, .pointer (some ⟨B10, 0, none⟩)), (11, .agg #[xz9, yz9, .bool false])] (by kernel_rfl)
 clear up h hK1 hK hL L
 revert L1
 intro L hL hK
 refine ZbQ rfl rfl 42 _ _ rfl rfl B10 0 #[.slice none 0 0, .slice none 0 0, .bool false] [xz9, yz9, .bool false] 42 (Zam (hK.get rfl)) (Zam (hK.get rfl)) (rfl) HB10.out (Nat.le_of_ble_eq_true rfl) info42 ⟨HXz9.out.oneC, HYz9.out.oneC, rfl, trivial⟩ (fun W5 hb9 hx9 => ?_)
 have hs9 := Zca HB10.out (by kernel_rfl) hb9 hx9
 replace Fv2 := hideP (Fv2.out.safe (by decide) hs9)
 replace HFFz3 := hideP (HFFz3.out.safe (by decide) hs9)
 replace HMVz3 := hideP (HMVz3.out.safe (by decide) hs9)
 replace Fv5 := hideP (Fv5.out.safe (by decide) hs9)
 replace Fv6 := hideP (Fv6.out.safe (by decide) hs9)
 replace Fv7 := hideP (Fv7.out.safe (by decide) hs9)
 replace Fv8 := hideP (Fv8.out.safe (by decide) hs9)
 replace HXz9 := hideP (HXz9.out.safe (by decide) hs9)
 replace HYz9 := hideP (HYz9.out.safe (by decide) hs9)
 replace HB1 := hideP (HB1.out.but hb9 nB10_B1)
 replace HB4 := hideP (HB4.out.but hb9 nB10_B4)
 replace HB := hideP (HB.out.trans (hb9.below.mono LB10.out))
 rw [show putAll _ _ _ = #[xz9, yz9, .bool false] by kernel_rfl] at hx9
 replace HB10 := hideP hx9
 clear hs9 hb9 hx9
 refine HK3.out _ _ ?_
 clear HK3 K3
 refine Zae (fun K4 HK4 => ?_)
 have up : ∀ V, Up W5 V → Up w V := fun _ h => HB.out.trans (h.mono HB.out.size)
 refine Zbi [.ex (.agg #[mz3, .int .u64 (fz3 : Int), tz3]), .ex (.agg #[mz3, .int .u64 (fz3 : Int), tz3]), .pr (fun zv zw => LW zw zv (4) (limb 3)), .pr (fun zv zw => LL zw zv (4) ([3])), .pr (fun zv zw => LW zw zv (4) (limb nBnR)), .ex (.agg #[xz9, yz9, .bool false]), .pr (fun zv zw => CC zw zv (4) (nBnP) 1 ([3]) (nBnR) ([1]) ([2]))] [0, 18] hL hK ⟨ZbX _ _, Zbf _ _, ZbX _ _, ZmM _ _ _ _ _ _ _, trivial⟩
   ⟨ZaM 0 hK (fun V h => HB4.out.moved h) Zdd info39,
   ZaM 0 hK (fun V h => HB4.out.moved h) Zdd info39,
   ok_c [.ex (.agg #[mz3, .int .u64 (fz3 : Int), tz3]), .ex (.int .u64 3)] (en Tryz.func88) hK (fun V h => Zct hFM4 3 (by decide) _ _ (HFFz3.out.moved h)),
   ok_x [.pr (fun zv zw => LW zw zv (4) (limb 3))] hK (fun V h u1 q1 => ⟨_, _, ZeX (vs := #[(0, u1)]) rfl (by kernel_rfl) (bs1 _ (LW.isSlice q1)), Zaq _ _, LL.mk1 q1⟩),
   ok_c [] (en Tryz.func69) hK (fun V h => rBnR_L _),
   ZaM 0 hK (fun V h => HB10.out.moved h) Zbj info42,
   ok_x [.ex (.agg #[mz3, .int .u64 (fz3 : Int), tz3]), .ex (.int .i64 1), .pr (fun zv zw => LL zw zv (4) ([3])), .pr (fun zv zw => LW zw zv (4) (limb nBnR)), .ex (.agg #[xz9, yz9, .bool false])] hK (fun V h u1 q1 u2 q2 => ⟨_, _, Zcu (vs := #[(0, .agg #[mz3, .int .u64 (fz3 : Int), tz3]), (1, .int .i64 1), (2, u1), (3, u2), (4, .agg #[xz9, yz9, .bool false])]) rfl (by kernel_rfl) (bd_cv 1 (LL.isSlice q1) (LW.isSlice q2) _), Below.refl _ _, ⟨_, _, _, _, _, _, _, rfl, (HFFz3.out.moved h), (HMVz3.out.moved h), q1, q2, (HXz9.out.moved h), (HYz9.out.moved h)⟩⟩),
   trivial⟩ ?_
 rintro W6 h v11 pv11 v12 pv12 v13 pv13 _ ⟨⟨mz14, fz14, tz14, bz14, rz14, xz14, yz14, rfl, hFz14, hMz14, hBz14, hRz14, hXz14, hYz14⟩⟩ L1 hL1 hK1
 replace HB := hideP (up _ h)
 replace Fv2 := hideP (Fv2.out.moved h)
 replace HFFz3 := hideP (HFFz3.out.moved h)
 replace HMVz3 := hideP (HMVz3.out.moved h)
 replace Fv5 := hideP (Fv5.out.moved h)
 replace Fv6 := hideP (Fv6.out.moved h)
 replace Fv7 := hideP (Fv7.out.moved h)
 replace Fv8 := hideP (Fv8.out.moved h)
 replace HXz9 := hideP (HXz9.out.moved h)
 replace HYz9 := hideP (HYz9.out.moved h)
 replace HB1 := hideP (HB1.out.moved h)
 replace HB4 := hideP (HB4.out.moved h)
 replace HB10 := hideP (HB10.out.moved h)
 have Fv11 := hideP pv11
 clear pv11
 have Fv12 := hideP pv12
 clear pv12
 have Fv13 := hideP pv13
 clear pv13
 have HFFz14 : Hid (FF W6 (.agg #[mz14, .int .u64 (fz14 : Int), tz14]) (4) (nBnP)) := hFz14
 clear hFz14
 have HMVz14 : Hid (LW W6 mz14 (4) (limb (nBnP))) := hMz14
 clear hMz14
 have HBz14 : Hid (LL W6 bz14 (4) ([3])) := hBz14
 clear hBz14
 have HRz14 : Hid (LW W6 rz14 (4) (limb (nBnR))) := hRz14
 clear hRz14
 have HXz14 : Hid (LL W6 xz14 (4) ([1])) := hXz14
 clear hXz14
 have HYz14 : Hid (LL W6 yz14 (4) ([2])) := hYz14
 clear hYz14
 have hK2 := hK1.to [(0, .pointer (some ⟨B1, 0, none⟩)), (18, .agg #[mz14, .int .u64 (fz14 : Int), tz14, .int .i64 1, bz14, rz14, xz14, yz14, .bool false])] (by kernel_rfl)
 clear up h hK1 hK hL L
 revert L1
 intro L hL hK
 refine ZbQ rfl rfl 44 _ _ rfl rfl B1 0 #[.slice none 0 0, .int .u64 0, .slice none 0 0, .int .i64 0, .slice none 0 0, .slice none 0 0, .slice none 0 0, .slice none 0 0, .bool false] [mz14, .int .u64 (fz14 : Int), tz14, .int .i64 1, bz14, rz14, xz14, yz14, .bool false] 44 (Zam (hK.get rfl)) (Zam (hK.get rfl)) (rfl) HB1.out (Nat.le_of_ble_eq_true rfl) info44 ⟨HMVz14.out.oneC, rfl, (FF.oneT HFFz14.out), rfl, HBz14.out.oneC, HRz14.out.oneC, HXz14.out.oneC, HYz14.out.oneC, rfl, trivial⟩ (fun W7 hb9 hx9 => ?_)
 have hs9 := Zca HB1.out (by kernel_rfl) hb9 hx9
 replace Fv2 := hideP (Fv2.out.safe (by decide) hs9)
 replace HFFz3 := hideP (HFFz3.out.safe (by decide) hs9)
 replace HMVz3 := hideP (HMVz3.out.safe (by decide) hs9)
 replace Fv5 := hideP (Fv5.out.safe (by decide) hs9)
 replace Fv6 := hideP (Fv6.out.safe (by decide) hs9)
 replace Fv7 := hideP (Fv7.out.safe (by decide) hs9)
 replace Fv8 := hideP (Fv8.out.safe (by decide) hs9)
 replace HXz9 := hideP (HXz9.out.safe (by decide) hs9)
 replace HYz9 := hideP (HYz9.out.safe (by decide) hs9)
 replace Fv11 := hideP (Fv11.out.safe (by decide) hs9)
 replace Fv12 := hideP (Fv12.out.safe (by decide) hs9)
 replace Fv13 := hideP (Fv13.out.safe (by decide) hs9)
 replace HFFz14 := hideP (HFFz14.out.safe (by decide) hs9)
 replace HMVz14 := hideP (HMVz14.out.safe (by decide) hs9)
 replace HBz14 := hideP (HBz14.out.safe (by decide) hs9)
 replace HRz14 := hideP (HRz14.out.safe (by decide) hs9)
 replace HXz14 := hideP (HXz14.out.safe (by decide) hs9)
 replace HYz14 := hideP (HYz14.out.safe (by decide) hs9)
 replace HB4 := hideP (HB4.out.but hb9 (Ne.symm nB4_B1))
 replace HB10 := hideP (HB10.out.but hb9 (Ne.symm nB10_B1))
 replace HB := hideP (HB.out.trans (hb9.below.mono LB1.out))
 rw [show putAll _ _ _ = #[mz14, .int .u64 (fz14 : Int), tz14, .int .i64 1, bz14, rz14, xz14, yz14, .bool false] by kernel_rfl] at hx9
 replace HB1 := hideP hx9
 clear hs9 hb9 hx9
 refine HK4.out _ _ ?_
 clear HK4 K4
 refine wp_ret ?_
 exact ZcP 0 44 B1 (#[mz14, .int .u64 (fz14 : Int), tz14, .int .i64 1, bz14, rz14, xz14, yz14, .bool false]) rfl (hK.get rfl) HB1.out Zb1 rfl info44 ⟨⟨_, rfl, ⟨_, _, _, _, _, _, _, rfl, HFFz14.out, HMVz14.out, HBz14.out, HRz14.out, HXz14.out, HYz14.out⟩⟩, HB.out⟩
theorem ZcD (x y : P4.K) (hx : P4.Fits x) (hy : P4.Fits y) (i : Bool) (w : World) : Calls Tryz.prog 15 #[.agg (P4.pt x y i)] w fun e w' => e = .returned (.agg (pn (x) (0) (y) (0) i)) ∧ Below w.heap.size w w' := by
  go_enter Tryz.func15, Tryz.ntmps15
  refine Zae (fun K0 HK0 => ?_)
  go_wp2_with fail
  refine HK0.out _ _ ?_
  clear HK0 K0
  refine Zae (fun K0 HK0 => ?_)
  go_wp2_with fail
  refine HK0.out _ _ ?_
  clear HK0 K0
  refine Zaj (fun W0 hW0 => ?_)
  have hb0 : W0.heap[w.heap.size]? = some (.cells (P4.pt x y i) 34 (0, 0)) := by
    rw [hW0]
    exact ((Zah _ _ (by simp <;> omega)).trans ((Zah _ _ (by simp <;> omega)).trans (Zaf _ _)))
  have hbr : ∃ C : Array Value, W0.heap[w.heap.size + 1]? = some (.cells C 30 (0, 0)) ∧ C.size = 25 := by
    rw [hW0]
    exact ⟨_, (Zah _ _ (by simp <;> omega)).trans (Zat _ _ _), rfl⟩
  have hb2 : W0.heap[w.heap.size + 1 + 1]? = some (.cells (pn 0 0 0 0 false) 30 (0, 0)) := by
    rw [hW0, ← zpn]
    exact ZaG _ _ _ _
  have hbw : Below w.heap.size w W0 := by
    rw [hW0]
    repeat first | exact Below.refl _ _ | (refine Below.alloc ?_ (by simp <;> omega) _)
  clear hW0
  obtain ⟨C, hC, hs⟩ := hbr
  have HC := hideP hC
  have H0 := hideP hb0
  have H2 := hideP hb2
  have HBW := hideP hbw
  clear hC hb0 hb2 hbw
  generalize w.heap.size = N at *
  generalize hB1 : N + 1 = B1 at *
  generalize hB2 : B1 + 1 = B2 at *
  have o1 : N < B1 := by omega
  have o2 : B1 < B2 := by omega
  clear hB2 hB1
  refine Zae (fun K1 HK1 => ?_)
  refine ZdO [4] (fun V => Below W0.heap.size W0 V) (by kernel_rfl) (Below.refl _ _).drew (fun hS => ?_)
  refine Zbw (i := 0) (g := 12) (v := ?_) rfl (by kernel_rfl) (by kernel_rfl) (by kernel_rfl) (by kernel_rfl) (by kernel_rfl) (fun _ _ _ h => h) (Or.inl ⟨by kernel_rfl, ?_⟩) hS ?_
  rotate_left
  · intro V hV
    go_simp
    (try with_reducible rfl)
  simp only [Zaa, Zs, Zz]
  refine Zbw (i := 1) (g := 12) (v := .slice (some ⟨B2, 0, none⟩) 6 6) rfl (by kernel_rfl) (by kernel_rfl) (by kernel_rfl) (by kernel_rfl) (by kernel_rfl) (fun _ _ _ h => h) (Or.inl ⟨by kernel_rfl, ?_⟩) hS ?_
  · intro V hV
    go_simp
    (try with_reducible rfl)
  simp only [Zaa, Zs, Zz]
  refine Zbw (i := 2) (g := 12) (v := ?_) rfl (by kernel_rfl) (by kernel_rfl) (by kernel_rfl) (by kernel_rfl) (by kernel_rfl) (fun _ _ _ h => h) (Or.inl ⟨by kernel_rfl, ?_⟩) hS ?_
  rotate_left
  · intro V hV
    go_simp
    (try with_reducible rfl)
  simp only [Zaa, Zs, Zz]
  refine Zbw (i := 3) (g := 12) (v := .slice (some ⟨N, 0, none⟩) 4 4) rfl (by kernel_rfl) (by kernel_rfl) (by kernel_rfl) (by kernel_rfl) (by kernel_rfl) (fun _ _ _ h => h) (Or.inl ⟨by kernel_rfl, ?_⟩) hS ?_
  · intro V hV
    go_simp
    (try with_reducible rfl)
  simp only [Zaa, Zs, Zz]
  refine Zhx (i := 4) (by kernel_rfl) rfl (fun K hK => ?_)
  refine Za7 (by kernel_rfl) ?_
  have f2 := (hS.block _ (Zab H2.out)).trans H2.out
  have f0 := (hS.block _ (Zab H0.out)).trans H0.out
  refine Zf4 (.tmp 5) (.tmp 7) 8 rfl rfl rfl rfl (ZjY (x := x) _ f2 (Zbc _ _ _ _ _) (by omega) (P4.pt_x f0)) ?_
  have g1 := Za9 (P4.nv (x)).toList 0 f2
  rw [ZjV hx (0) (0) (0) false] at g1
  have hB1 := (But.sets (P4.nv (x)).toList 0 (But.refl B2 W0.drew))
  generalize World.setCells W0.drew B2 0 (P4.nv (x)).toList = x1 at g1 hB1 ⊢
  refine hK.out _ _ (fun h => absurd (by decide) h) ?_
  clear hK K
  refine ZfR (by kernel_rfl) ?_ _
  (try simp only [Zas])
  refine HK1.out _ _ ?_
  clear HK1 K1
  have H0' := hideP ((hB1.same _ (by omega)).trans f0)
  have HC' := hideP ((hB1.same _ (by omega)).trans ((hS.block _ (Zab HC.out)).trans HC.out))
  have HBW' := hideP (HBW.out.trans ((hS.mono (Nat.le_of_lt (Zab H0.out))).trans (hB1.below.mono (by omega))))
  have H2' := hideP g1
  clear H0 HC HBW H2 f0 f2 hS hB1 g1
  have H0 := H0'
  have HC := HC'
  have HBW := HBW'
  have H2 := H2'
  clear H0' HC' HBW' H2'
  refine Zae (fun K1 HK1 => ?_)
  refine ZdO [4] (fun V => Below x1.heap.size x1 V) (by kernel_rfl) (Below.refl _ _).drew (fun hS => ?_)
  refine Zbw (i := 0) (g := 12) (v := ?_) rfl (by kernel_rfl) (by kernel_rfl) (by kernel_rfl) (by kernel_rfl) (by kernel_rfl) (fun _ _ _ h => h) (Or.inl ⟨by kernel_rfl, ?_⟩) hS ?_
  rotate_left
  · intro V hV
    go_simp
    (try with_reducible rfl)
  simp only [Zaa, Zs, Zz]
  refine Zbw (i := 1) (g := 12) (v := .slice (some ⟨B2, 12, none⟩) 6 6) rfl (by kernel_rfl) (by kernel_rfl) (by kernel_rfl) (by kernel_rfl) (by kernel_rfl) (fun _ _ _ h => h) (Or.inl ⟨by kernel_rfl, ?_⟩) hS ?_
  · intro V hV
    go_simp
    (try with_reducible rfl)
  simp only [Zaa, Zs, Zz]
  refine Zbw (i := 2) (g := 12) (v := ?_) rfl (by kernel_rfl) (by kernel_rfl) (by kernel_rfl) (by kernel_rfl) (by kernel_rfl) (fun _ _ _ h => h) (Or.inl ⟨by kernel_rfl, ?_⟩) hS ?_
  rotate_left
  · intro V hV
    go_simp
    (try with_reducible rfl)
  simp only [Zaa, Zs, Zz]
  refine Zbw (i := 3) (g := 12) (v := .slice (some ⟨N, 4, none⟩) 4 4) rfl (by kernel_rfl) (by kernel_rfl) (by kernel_rfl) (by kernel_rfl) (by kernel_rfl) (fun _ _ _ h => h) (Or.inl ⟨by kernel_rfl, ?_⟩) hS ?_
  · intro V hV
    go_simp
    (try with_reducible rfl)
  simp only [Zaa, Zs, Zz]
  refine Zhx (i := 4) (by kernel_rfl) rfl (fun K hK => ?_)
  refine Za7 (by kernel_rfl) ?_
  have f2 := (hS.block _ (Zab H2.out)).trans H2.out
  have f0 := (hS.block _ (Zab H0.out)).trans H0.out
  refine Zf4 (.tmp 10) (.tmp 12) 13 rfl rfl rfl rfl (ZjY (x := y) _ f2 (Zbc _ _ _ _ _) (by omega) (P4.pt_y f0)) ?_
  have g1 := Za9 (P4.nv (y)).toList 12 f2
  rw [ZjW hy (x) (0) (0) false] at g1
  have hB1 := (But.sets (P4.nv (y)).toList 12 (But.refl B2 x1.drew))
  generalize World.setCells x1.drew B2 12 (P4.nv (y)).toList = x2 at g1 hB1 ⊢
  refine hK.out _ _ (fun h => absurd (by decide) h) ?_
  clear hK K
  refine ZfR (by kernel_rfl) ?_ _
  (try simp only [Zas])
  refine HK1.out _ _ ?_
  clear HK1 K1
  have H0' := hideP ((hB1.same _ (by omega)).trans f0)
  have HC' := hideP ((hB1.same _ (by omega)).trans ((hS.block _ (Zab HC.out)).trans HC.out))
  have HBW' := hideP (HBW.out.trans ((hS.mono (Nat.le_of_lt (Zab H0.out))).trans (hB1.below.mono (by omega))))
  have H2' := hideP g1
  clear H0 HC HBW H2 f0 f2 hS hB1 g1
  have H0 := H0'
  have HC := HC'
  have HBW := HBW'
  have H2 := H2'
  clear H0' HC' HBW' H2'
  refine Zae (fun K1 HK1 => ?_)
  refine wp_region_list ?_
  refine Zad rfl (fun K hK => ?_)
  go_simp
  refine hK _ _ ?_
  clear hK K
  refine Zad rfl (fun K hK => ?_)
  have hf := P4.pt_i H0.out
  go_simp
  refine hK _ _ ?_
  clear hK K hf
  refine Zad rfl (fun K hK => ?_)
  go_simp
  refine hK _ _ ?_
  clear hK K
  refine Zad rfl (fun K hK => ?_)
  have hf := pn_i H2.out
  have hfr : x2.frozen? ⟨B2, 24, none⟩ = false := Zap H2.out
  go_simp
  refine hK _ _ ?_
  clear hK K hf hfr
  refine ZaT (fun x9 hx9 => ?_)
  have g9 : x9.heap[B2]? = some (.cells (pn (x) (0) (y) (0) i) 30 (0, 0)) := by
    rw [hx9, ← ZjX _ _ _ _ false i]
    exact Zaw H2.out _
  have hb9 : But B2 x2 x9 := by
    rw [hx9]
    exact (But.refl B2 x2).set _ _
  clear hx9
  have hC9 := (hb9.same _ (by omega)).trans HC.out
  have HBW9 := hideP (HBW.out.trans (hb9.below.mono (by omega)))
  clear H2 H0 HBW HC hb9
  refine wpList_nil ?_
  refine HK1.out _ _ ?_
  clear HK1 K1
  refine Zae (fun K1 HK1 => ?_)
  refine wp_region_list ?_
  refine Zax rfl 30 (.tmp 3) 17 rfl rfl B2 0 (pn (x) (0) (y) (0) i) rfl _ (Zag g9) Zf3 rfl (infoPn (Zbc _ _ _ _ _)) ?_
  simp only [Zs, Zz]
  have hQ := KQ.start hC9 hs
  refine Zav rfl 30 (.tmp 2) (.tmp 17) rfl rfl B1 0 (pn (x) (0) (y) (0) i) rfl rfl (hQ.there (Zbc _ _ _ _ _)) (infoPn (Zbc _ _ _ _ _)) (Zmf _ _ _ _ _) ?_
  have g1 := hQ.put (C := pn (x) (0) (y) (0) i) (Zbc _ _ _ _ _)
  have hS := hQ.store (C := pn (x) (0) (y) (0) i) (Zbc _ _ _ _ _)
  generalize World.setCells x9 B1 0 (pn (x) (0) (y) (0) i).toList = x10 at g1 hS ⊢
  refine wpList_nil ?_
  refine HK1.out _ _ ?_
  refine wp_ret ?_
  exact bodyPost_ret_by (ZaD rfl rfl (loadC _ B1 0 30 (pn (x) (0) (y) (0) i) _ (Zag g1) Zf3 rfl (infoPn (Zbc _ _ _ _ _)))) rfl ⟨rfl, HBW9.out.trans (hS.below.mono (by omega))⟩
end Go.Proofs.YtcbdbnfgnonacaaGreat
namespace Go.Proofs.YtcbdbnfgnonacaaGreat.W6
open Go.RowKit Go.Shelf
structure MI (W wr : World) (D : Nat) (x y gk : Nat → Nat) (k c : Nat) : Prop where
  lt : ∀ j, gk j < 18446744073709551616
  sum : val x k + 18446744073709551616 ^ k * c = val gk k + val y k
  c : c ≤ 1
  cells : wr.heap[D]? = some (.cells (cs gk) 28 (0, 0))
  but : But D W wr
theorem MI.put {W wr : World} {D : Nat} {x y gk : Nat → Nat} {k c s c' : Nat} (I : MI W wr D x y gk k c) (hk : k < 6) (hs : s < 18446744073709551616) (hc : c' ≤ 1)
    (e : x k + 18446744073709551616 * c' = s + y k + c) :
    MI W (wr.drew.setCell ⟨D, k, none⟩ (.int .u64 s)) D x y (fun i => if i = k then s else gk i) (k + 1) c' := by
  refine ⟨fun j => ?_, ?_, hc, ?_, I.but.drew.set _ _⟩
  · split
    · exact hs
    · exact I.lt j
  · have h1 : val (fun j => if j = k then s else gk j) k = val gk k := Za0 k (fun j hj => by rw [if_neg (by omega)])
    show val x k + x k * 18446744073709551616 ^ k + 18446744073709551616 ^ (k + 1) * c' = val (fun j => if j = k then s else gk j) k + (if k = k then s else gk k) * 18446744073709551616 ^ k + (val y k + y k * 18446744073709551616 ^ k)
    rw [h1, if_pos rfl, Nat.pow_succ]
    have h2 := I.sum
    grind
  · have h3 : wr.drew.heap[D]? = some (.cells (cs gk) 28 (0, 0)) := I.cells
    have := Zaw (o := k) h3 (.int .u64 s)
    rw [set gk s hk] at this
    exact this
theorem ZdQ (x y : Nat → Nat) (hx : ∀ j, x j < 18446744073709551616) (hy : ∀ j, y j < 18446744073709551616) (w : World) :
    Calls Tryz.prog 223 #[.agg (cs x), .agg (cs y)] w fun e w' => ∃ (g : Nat → Nat) (c : Nat), e = .returned (.tuple #[.agg (cs g), .int .u64 c]) ∧ (∀ j, g j < 18446744073709551616) ∧ c ≤ 1 ∧
      val x 6 + R * c = val g 6 + val y 6 ∧ Below w.heap.size w w' := by
  have HX := hideP hx
  have HY := hideP hy
  clear hx hy
  unfold cs
  go_enter Tryz.func223, Tryz.ntmps223
  go_wp2_with fail
  rename_i Q' K hK
  have HK := hideP hK
  clear hK
  refine Zaj (fun W0 hW0 => ?_)
  have hA : W0.heap[w.heap.size]? = some (.cells (cs x) 28 (0, 0)) := by
    rw [hW0]
    exact (Zah _ _ (by simp <;> omega)).trans ((Zah _ _ (by simp)).trans (Zaf _ _))
  have hB : W0.heap[w.heap.size + 1]? = some (.cells (cs y) 28 (0, 0)) := by
    rw [hW0]
    exact (Zah _ _ (by simp)).trans (Zat _ _ _)
  have hD : W0.heap[w.heap.size + 1 + 1]? = some (.cells (cs (fun _ => 0)) 28 (0, 0)) := by
    rw [hW0]
    exact ZaG _ _ _ _
  have HBW : Hid (Below w.heap.size w W0) := by
    show Below _ _ _
    rw [hW0]
    repeat first | exact Below.refl _ _ | (refine Below.alloc ?_ (by simp <;> omega) _)
  clear hW0
  have HI0 : Hid (MI W0 W0 (w.heap.size + 1 + 1) x y (fun _ => 0) 0 0) := ⟨fun _ => by decide, by simp [val], by omega, hD, But.refl _ _⟩
  have HA := hideP hA
  have HB := hideP hB
  clear hA hB hD
  go_loopw [5, 9] (fun c i wr => ∃ (k cv : Nat) (gk : Nat → Nat), k ≤ 6 ∧ i = .int .i64 k ∧ c = .int .u64 cv ∧ MI W0 wr (w.heap.size + 1 + 1) x y gk k cv) (fun _ i _ => 6 - (intOf i).toNat)
  case atStart => exact ⟨0, 0, fun _ => 0, Nat.zero_le _, rfl, rfl, HI0.out⟩
  case round =>
    obtain ⟨k, cv, gk, hk, rfl, rfl, I⟩ := hrel
    have HI := hideP I
    clear I
    by_cases hlt : k < 6
    · obtain ⟨s, c', hs, hc', e2, hsb⟩ := Zds (x k) (y k) cv (HX.out _) (HY.out _) HI.out.c
      have ca := (HI.out.but.cell (o := k) (show w.heap.size ≠ w.heap.size + 1 + 1 by omega)).trans (Zac HA.out (get x hlt))
      have cb := (HI.out.but.cell (o := k) (show w.heap.size + 1 ≠ w.heap.size + 1 + 1 by omega)).trans (Zac HB.out (get y hlt))
      have fr : ∀ o, wr.frozen? ⟨w.heap.size + 1 + 1, o, none⟩ = false := fun o => Zap HI.out.cells
      have cd := Zac HI.out.cells (get gk hlt)
      have HN := hideP (HI.out.put hlt hs hc' e2)
      have hlt' : (k : Int) < 6 := by omega
      have e4 : IntKind.i64.wrap ((k : Int) + 1) = (k : Int) + 1 := by rw [IntKind.wrap_i64]; omega
      have HKS : Hid (k + 1 ≤ 6) := hlt
      clear e2 hs hc' hk hlt
      go_wp2_with fail
      go_region
      go_wp2_with fail
      refine ⟨⟨k + 1, c', _, HKS.out, by go_num, rfl, HN.out⟩, by have := HKS.out; simp [intOf]; omega⟩
    · have hkn : k = 6 := by omega
      have hnl : ¬ (k : Int) < 6 := by omega
      have HJ : Hid (MI W0 wr (w.heap.size + 1 + 1) x y gk 6 cv) := hkn ▸ HI.out
      clear hk hlt hkn HI
      go_wp2_with fail
      refine HK.out _ _ ?_
      refine Zfh (fun _ _ h => h) rfl rfl rfl (by decide) (by decide) (by decide) (by decide) (by decide) (by show 26 < 28; decide) (by show 27 < 28; decide) (by show 5 < 28; decide) rfl under rfl (info _) (one _) (Zag HJ.out.cells) (ZcT HJ.out.cells) ?_
      intro wS hBut
      refine ⟨gk, cv, rfl, HJ.out.lt, HJ.out.c, by rw [R_eq]; exact HJ.out.sum, HBW.out.trans ((HJ.out.but.below.trans hBut.below).mono (by omega))⟩
def less1 (X Y : Nat) : Nat := if X < Y then 1 else 0
theorem Zb7 (X Y : Nat) (hX : X < R) (hY : Y < R) (w : World) :
    Calls Tryz.prog 223 #[wv X, wv Y] w fun e w' => e = .returned (.tuple #[wv (X + R * less1 X Y - Y), .int .u64 (less1 X Y)]) ∧ Below w.heap.size w w' := by
  refine (ZdQ (limb X) (limb Y) (Zaz X) (Zaz Y) w).mono ?_
  rintro e w' ⟨g, c, rfl, hg, hc, hs, hb⟩
  refine ⟨?_, hb⟩
  rw [Zal hX, Zal hY] at hs
  have hl := Zbn (fun j _ => hg j)
  rw [Zcf (fun j _ => hg j)]
  generalize val g 6 = Z at hs hl
  have hR : c = less1 X Y ∧ Z = X + R * less1 X Y - Y := by
    unfold less1
    have hc' : c = 0 ∨ c = 1 := by omega
    rcases hc' with rfl | rfl
    · rw [if_neg (by omega)]; omega
    · rw [if_pos (by omega)]; omega
  rw [hR.1, hR.2]
theorem ZaZ (g' g : Nat → Nat) : putAll (cs g') 0 (cs g).toList = cs g := by
  simp [cs, putAll]
theorem Zar {w : World} {b t : Nat} {g : Nat → Nat} (h : w.heap[b]? = some (.cells (cs g) t (0, 0))) (g' : Nat → Nat) : w.there b 0 (cs g').size := by
  have h1 := ZcT h
  rw [Za6] at h1 ⊢
  exact h1
def rc (m f o r : Nat) : Array Value := #[.int .u64 (limb m 0), .int .u64 (limb m 1), .int .u64 (limb m 2), .int .u64 (limb m 3), .int .u64 (limb m 4), .int .u64 (limb m 5), .int .u64 f, .int .u64 (limb o 0), .int .u64 (limb o 1), .int .u64 (limb o 2), .int .u64 (limb o 3), .int .u64 (limb o 4), .int .u64 (limb o 5), .int .u64 (limb r 0), .int .u64 (limb r 1), .int .u64 (limb r 2), .int .u64 (limb r 3), .int .u64 (limb r 4), .int .u64 (limb r 5)]
structure RingAt (w : World) (p m f o r : Nat) : Prop where
  heap : w.heap[p]? = some (.cells (rc m f o r) 244 (0, 0))
section
variable {w w' : World} {p m f o r : Nat}
theorem RingAt.below (h : RingAt w p m f o r) (hb : Below w.heap.size w w') : RingAt w' p m f o r := ⟨(hb.block p (Zab h.heap)).trans h.heap⟩
theorem RingAt.belowN (h : RingAt w p m f o r) {N : Nat} (hp : p < N) (hb : Below N w w') : RingAt w' p m f o r := ⟨(hb.block p hp).trans h.heap⟩
theorem RingAt.drew (h : RingAt w p m f o r) : RingAt w.drew p m f o r := ⟨h.heap⟩
theorem RingAt.lt (h : RingAt w p m f o r) : p < w.heap.size := Zab h.heap
theorem RingAt.mod (h : RingAt w p m f o r) : w.rangeAt p 0 (cs (limb m)).toList := World.rangeAt_of_block h.heap 0 6
theorem RingAt.one (h : RingAt w p m f o r) : w.rangeAt p (6 + 1) (cs (limb o)).toList := World.rangeAt_of_block h.heap (6 + 1) 6
theorem RingAt.radix (h : RingAt w p m f o r) : w.rangeAt p (2 * 6 + 1) (cs (limb r)).toList := World.rangeAt_of_block h.heap (2 * 6 + 1) 6
theorem RingAt.fill (h : RingAt w p m f o r) : w.cell? ⟨p, 6, none⟩ = some (.int .u64 f) := Zac h.heap rfl
theorem RingAt.limbAt (h : RingAt w p m f o r) {j : Nat} (hj : j < 6) : w.cell? ⟨p, j, none⟩ = some (.int .u64 (limb m j)) := by
  have h1 := h.mod j (.int .u64 (limb m j)) (by rw [Array.getElem?_toList]; exact get _ hj)
  rwa [Nat.zero_add] at h1
end
theorem ZdR {Z m c : Nat} (hZ : Z < R) (hm : m < R) (hc : Z + R * c < 2 * m) : (Z + R * c) % m = if c = 0 ∧ less1 Z m = 1 then Z else Z + R * less1 Z m - m := by
  unfold less1
  by_cases h0 : c = 0
  · subst h0
    by_cases h1 : Z < m
    · simp [h1, Nat.mod_eq_of_lt h1]
    · have : Z % m = Z - m := by rw [Nat.mod_eq_sub_mod (by omega), Nat.mod_eq_of_lt (by omega)]
      simp [h1, this]
  · have hR : R * 1 ≤ R * c := Nat.mul_le_mul_left _ (by omega)
    have hc1 : c = 1 := by
      apply Nat.le_antisymm _ (by omega)
      apply Nat.le_of_not_lt
      intro h
      have := Nat.mul_le_mul_left R (show 2 ≤ c by omega)
      omega
    subst hc1
    have hl : Z < m := by omega
    rw [Nat.mod_eq_sub_mod (by omega), Nat.mod_eq_of_lt (by omega)]
    simp [hl]
theorem ZcZ (p m f o r Z c : Nat) (w : World) (hr : RingAt w p m f o r) (hm : m < R) (hZ : Z < R) (hc : Z + R * c < 2 * m) :
    Calls Tryz.prog 225 #[.pointer (some ⟨p, 0, none⟩), wv Z, .int .u64 c] w fun e w' => e = .returned (wv ((Z + R * c) % m)) ∧ Below w.heap.size w w' := by
  have HC := hideP (fun w => Zb7 Z m hZ hm w)
  have hc2 : c ≤ 1 := by
    apply Nat.le_of_not_lt
    intro h
    have := Nat.mul_le_mul_left R (show 2 ≤ c by omega)
    omega
  rw [ZdR hZ hm hc]
  have hl1 : less1 Z m = 0 ∨ less1 Z m = 1 := by unfold less1; split <;> simp
  clear hm hZ hc
  generalize Z + R * less1 Z m - m = D at *
  generalize less1 Z m = b at *
  have hp : p < w.heap.size := hr.lt
  have HR := hideP hr
  clear hr
  unfold wv at HC ⊢
  go_enter Tryz.func225, Tryz.ntmps225
  go_wp2_with fail
  rename_i Q' K hK
  have HK := hideP hK
  clear hK
  refine Zaj (fun W0 hW0 => ?_)
  have hA : W0.heap[w.heap.size]? = some (.cells (cs (limb Z)) 28 (0, 0)) := by
    rw [hW0]
    exact (Zah _ _ (by simp)).trans (Zaf _ _)
  have hD : W0.heap[w.heap.size + 1]? = some (.cells (cs (fun _ => 0)) 28 (0, 0)) := by
    rw [hW0]
    exact Zat _ _ _
  have HBW : Hid (Below w.heap.size w W0) := by
    show Below _ _ _
    rw [hW0]
    repeat first | exact Below.refl _ _ | (refine Below.alloc ?_ (by simp <;> omega) _)
  clear hW0
  have HR0 := hideP (HR.out.belowN hp HBW.out)
  have HA := hideP hA
  have HD := hideP hD
  clear hA hD HR
  refine Zai (S := fun V => Below W0.heap.size W0 V) (by kernel_rfl) ((Below.refl _ _).drew) (fun hS => ?_)
  refine Zak (i := 0) (v := .agg (cs (limb Z))) rfl (by kernel_rfl) (by kernel_rfl) (by kernel_rfl) (fun _ _ _ h => h) (yieldsIf_load_mid (by kernel_rfl) 28 _ rfl (w.heap.size) (0) rfl (cs (limb Z)).toList _ (fun V hV => Zag ((hV.block _ (Zab HA.out)).trans HA.out)) under rfl (info _)) hS ?_
  simp only [Zaa, Zs, Zz]
  refine tkI 1 ?_ hS ?_ ?_
  rotate_left
  · intro V hV
    go_simp
    (try with_reducible rfl)
  simp only [Zaa, Zs, Zz]
  refine tkI 2 ?_ hS ?_ ?_
  rotate_left
  · intro V hV
    go_simp
    (try with_reducible rfl)
  simp only [Zaa, Zs, Zz]
  refine tkI 3 ?_ hS ?_ ?_
  rotate_left
  · intro V hV
    go_simp
    (try with_reducible rfl)
  simp only [Zaa, Zs, Zz]
  refine Zak (i := 4) (v := .agg (cs (limb m))) rfl (by kernel_rfl) (by kernel_rfl) (by kernel_rfl) (fun _ _ _ h => h) (yieldsIf_load_mid (by kernel_rfl) 28 _ rfl (p) (0) rfl (cs (limb m)).toList _ (fun V hV => (HR0.out.below hV).mod) under rfl (info _)) hS ?_
  simp only [Zaa, Zs, Zz]
  refine wpAnyH_ready (rs := [5, 9]) (by kernel_rfl) (by simp) (AllReadyH.cons rfl (fun K hK => ?_) (AllReadyH.cons rfl (fun K hK => ?_) AllReadyH.nil))
  · go_simp
    refine (HC.out _).mono ?_
    rintro e w1 ⟨rfl, hbc⟩
    refine hK.out _ _ (hS.trans (hbc.mono hS.size)) (fun hS => ?_)
    clear hK K hbc
    refine tkI 6 ?_ hS ?_ ?_
    rotate_left
    · intro V hV
      go_simp
      (try with_reducible rfl)
    simp only [Zaa, Zs, Zz]
    refine tkI 7 ?_ hS ?_ ?_
    rotate_left
    · intro V hV
      go_simp
      (try with_reducible rfl)
    simp only [Zaa, Zs, Zz]
    refine tkI 8 ?_ hS ?_ ?_
    rotate_left
    · intro V hV
      go_simp
      (try with_reducible rfl)
    simp only [Zaa, Zs, Zz]
    refine rd1 9 (fun K hK => ?_)
    go_simp
    refine hK.out _ _ (hS.alloc hS.size _) (fun hS2 => ?_)
    clear hK K
    refine Zb5 (fun w2 hw2 => ?_)
    have h1 : w2.heap[w1.heap.size]? = some (.cells (cs (fun _ => 0)) 28 (0, 0)) := by rw [hw2]; exact Zaf _ _
    have l1 := hS.size
    rw [← hw2] at hS2
    clear hw2 hS
    have hS := hS2
    clear hS2
    generalize hbb : w1.heap.size = b1 at h1 l1 ⊢
    clear hbb
    refine rd1 10 (fun K hK => ?_)
    refine Za7 (by kernel_rfl) ?_
    refine Zan 28 (.tmp 7) (.tmp 16) rfl rfl b1 0 (cs (limb D)) rfl rfl (Zar h1 _) (info _) (one _) ?_
    have g1 := Za9 (cs (limb D)).toList 0 h1
    rw [ZaZ] at g1
    have hB1 := But.sets (cs (limb D)).toList 0 (But.refl b1 w2)
    have hSB := hS.trans (hB1.below.mono l1)
    clear h1 hB1
    generalize w2.setCells b1 0 (cs (limb D)).toList = w3 at g1 hSB ⊢
    refine hK.out _ _ hSB (fun hS => ?_)
    clear hK K hSB
    refine rd1 11 (fun K hK => ?_)
    go_simp
    refine hK.out _ _ hS (fun hS => ?_)
    clear hK K
    refine wpAnyH_done (by kernel_rfl) ?_ _
    (try simp only [Zas])
    have HBS := hideP (HBW.out.trans (hS.mono HBW.out.size))
    have HA3 := hideP ((hS.block _ (Zab HA.out)).trans HA.out)
    have HD3 := hideP ((hS.block _ (Zab HD.out)).trans HD.out)
    have HG := hideP g1
    clear g1 hS l1
    refine HK.out _ _ ?_
    refine Zae (fun K1 HK1 => ?_)
    refine Zae (fun K2 HK2 => ?_)
    by_cases hc0 : c = 0
    · subst hc0
      rcases hl1 with rfl | rfl
      · go_wp2_with fail
        refine HK2.out _ _ ?_
        refine wp_cond_false rfl (wp_skip ?_)
        refine HK1.out _ _ ?_
        refine Za4 (fun _ _ h => h) rfl rfl rfl (by decide) (by show 25 < 26; decide) rfl under rfl (info _) (one _) (Zag HG.out) (Zar HD3.out _) ?_
        intro wS hBut
        exact ⟨rfl, HBS.out.trans (hBut.below.mono (by omega))⟩
      · go_wp2_with fail
        refine HK2.out _ _ ?_
        refine wp_cond_true rfl ?_
        have hQ : ∀ a w, Q' .ret a w → Exit.then K1 Q' .ret a w := fun _ _ h => h
        refine Za4 hQ rfl rfl rfl (by decide) (by show 24 < 26; decide) rfl under rfl (info _) (one _) (Zag HA3.out) (Zar HD3.out _) ?_
        intro wS hBut
        exact ⟨rfl, HBS.out.trans (hBut.below.mono (by omega))⟩
    · have hc1 : c = 1 := by omega
      subst hc1
      clear hc0 hc2
      go_wp2_with fail
      refine HK2.out _ _ ?_
      refine wp_cond_false rfl (wp_skip ?_)
      refine HK1.out _ _ ?_
      refine Za4 (fun _ _ h => h) rfl rfl rfl (by decide) (by show 25 < 26; decide) rfl under rfl (info _) (one _) (Zag HG.out) (Zar HD3.out _) ?_
      intro wS hBut
      exact ⟨rfl, HBS.out.trans (hBut.below.mono (by omega))⟩
  · go_simp
    refine hK.out _ _ (hS.alloc hS.size _) (fun hS2 => ?_)
    clear hK K
    refine Zb5 (fun w1 hw1 => ?_)
    have h1 : w1.heap[W0.heap.size]? = some (.cells (cs (fun _ => 0)) 28 (0, 0)) := by rw [hw1]; exact Zaf _ _
    have l1 := Nat.le_refl W0.heap.size
    rw [← hw1] at hS2
    clear hw1 hS
    have hS := hS2
    clear hS2
    refine rd1 5 (fun K hK => ?_)
    go_simp
    refine (HC.out _).mono ?_
    rintro e w2 ⟨rfl, hbc⟩
    have h2 := (hbc.block _ (Zab h1)).trans h1
    refine hK.out _ _ (hS.trans (hbc.mono hS.size)) (fun hS2 => ?_)
    clear hK K hbc h1 hS
    have hS := hS2
    have h1 := h2
    clear hS2 h2
    refine tkI 6 ?_ hS ?_ ?_
    rotate_left
    · intro V hV
      go_simp
      (try with_reducible rfl)
    simp only [Zaa, Zs, Zz]
    refine tkI 7 ?_ hS ?_ ?_
    rotate_left
    · intro V hV
      go_simp
      (try with_reducible rfl)
    simp only [Zaa, Zs, Zz]
    refine tkI 8 ?_ hS ?_ ?_
    rotate_left
    · intro V hV
      go_simp
      (try with_reducible rfl)
    simp only [Zaa, Zs, Zz]
    refine rd1 10 (fun K hK => ?_)
    refine Za7 (by kernel_rfl) ?_
    refine Zan 28 (.tmp 7) (.tmp 16) rfl rfl (W0.heap.size) 0 (cs (limb D)) rfl rfl (Zar h1 _) (info _) (one _) ?_
    have g1 := Za9 (cs (limb D)).toList 0 h1
    rw [ZaZ] at g1
    have hB1 := But.sets (cs (limb D)).toList 0 (But.refl (W0.heap.size) w2)
    have hSB := hS.trans (hB1.below.mono l1)
    clear h1 hB1
    generalize w2.setCells (W0.heap.size) 0 (cs (limb D)).toList = w3 at g1 hSB ⊢
    refine hK.out _ _ hSB (fun hS => ?_)
    clear hK K hSB
    refine rd1 11 (fun K hK => ?_)
    go_simp
    refine hK.out _ _ hS (fun hS => ?_)
    clear hK K
    refine wpAnyH_done (by kernel_rfl) ?_ _
    (try simp only [Zas])
    have HBS := hideP (HBW.out.trans (hS.mono HBW.out.size))
    have HA3 := hideP ((hS.block _ (Zab HA.out)).trans HA.out)
    have HD3 := hideP ((hS.block _ (Zab HD.out)).trans HD.out)
    have HG := hideP g1
    clear g1 hS l1
    refine HK.out _ _ ?_
    refine Zae (fun K1 HK1 => ?_)
    refine Zae (fun K2 HK2 => ?_)
    by_cases hc0 : c = 0
    · subst hc0
      rcases hl1 with rfl | rfl
      · go_wp2_with fail
        refine HK2.out _ _ ?_
        refine wp_cond_false rfl (wp_skip ?_)
        refine HK1.out _ _ ?_
        refine Za4 (fun _ _ h => h) rfl rfl rfl (by decide) (by show 25 < 26; decide) rfl under rfl (info _) (one _) (Zag HG.out) (Zar HD3.out _) ?_
        intro wS hBut
        exact ⟨rfl, HBS.out.trans (hBut.below.mono (by omega))⟩
      · go_wp2_with fail
        refine HK2.out _ _ ?_
        refine wp_cond_true rfl ?_
        have hQ : ∀ a w, Q' .ret a w → Exit.then K1 Q' .ret a w := fun _ _ h => h
        refine Za4 hQ rfl rfl rfl (by decide) (by show 24 < 26; decide) rfl under rfl (info _) (one _) (Zag HA3.out) (Zar HD3.out _) ?_
        intro wS hBut
        exact ⟨rfl, HBS.out.trans (hBut.below.mono (by omega))⟩
    · have hc1 : c = 1 := by omega
      subst hc1
      clear hc0 hc2
      go_wp2_with fail
      refine HK2.out _ _ ?_
      refine wp_cond_false rfl (wp_skip ?_)
      refine HK1.out _ _ ?_
      refine Za4 (fun _ _ h => h) rfl rfl rfl (by decide) (by show 25 < 26; decide) rfl under rfl (info _) (one _) (Zag HG.out) (Zar HD3.out _) ?_
      intro wS hBut
      exact ⟨rfl, HBS.out.trans (hBut.below.mono (by omega))⟩
end Go.Proofs.YtcbdbnfgnonacaaGreat.W6
