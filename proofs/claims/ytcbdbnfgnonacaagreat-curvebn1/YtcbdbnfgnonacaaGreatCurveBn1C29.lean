/-
  The document's curves over prime fields.
-/
import Derived.Laws.IdiomCopy
import Derived.Test.YtcbdbnfgnonacaaGreatCurveBn1C28
import Derived.Test.YtcbdbnfgnonacaaGreatCurveBn1C22
namespace Go.Proofs.YtcbdbnfgnonacaaGreat
open Go.RowKit Go.Shelf

theorem zpn : (#[.int .u64 0, .int .u64 0, .int .u64 0, .int .u64 0, .int .u64 0, .int .u64 0, .int .u64 0, .int .u64 0, .int .u64 0, .int .u64 0, .int .u64 0, .int .u64 0, .int .u64 0, .int .u64 0, .int .u64 0, .int .u64 0, .int .u64 0, .int .u64 0, .int .u64 0, .int .u64 0, .int .u64 0, .int .u64 0, .int .u64 0, .int .u64 0, .bool false] : Array Value) = pn 0 0 0 0 false := by
  rw [pn_eq]
  rfl

theorem limb_hi {x : Nat} (hx : x < W4.R) (j : Nat) (hj : 4 ≤ j) : limb x j = 0 := by
  unfold limb
  have e : W4.R ≤ 18446744073709551616 ^ j := by
    rw [show W4.R = 18446744073709551616 ^ 4 by decide +kernel]
    exact Nat.pow_le_pow_right (by decide) hj
  rw [Nat.div_eq_of_lt (by omega)]

theorem putAll_midL : ∀ (vs pre old rest : List Value), old.length = vs.length → putAll (pre ++ (old ++ rest)).toArray pre.length vs = (pre ++ (vs ++ rest)).toArray
  | [], pre, old, rest, h => by
    obtain rfl := List.eq_nil_of_length_eq_zero (by simpa using h)
    rfl
  | v :: vs, pre, [], rest, h => by simp at h
  | v :: vs, pre, x :: old, rest, h => by
    have e : (pre ++ (x :: old ++ rest)).toArray.setIfInBounds pre.length v = ((pre ++ [v]) ++ (old ++ rest)).toArray := by simp
    rw [putAll, e]
    have := putAll_midL vs (pre ++ [v]) old rest (by simpa using h)
    rw [List.length_append, List.length_singleton] at this
    rw [this]
    simp

theorem putAll_mid {A B B' C : Array Value} {o : Nat} (hA : A.size = o) (hB : B.size = B'.size) : putAll (A ++ (B ++ C)) o B'.toList = A ++ (B' ++ C) := by
  subst hA
  have h := putAll_midL B'.toList A.toList B.toList C.toList (by simpa using hB)
  have e : ∀ X Y Z : Array Value, (X.toList ++ (Y.toList ++ Z.toList)).toArray = X ++ (Y ++ Z) := fun X Y Z => by
    apply Array.ext'
    simp only [Array.toList_append]
  rw [e, e, Array.length_toList] at h
  exact h

theorem six_low {x : Nat} (hx : x < W4.R) : W6.cs (limb x) = P4.nv x ++ #[.int .u64 0, .int .u64 0] := by
  rw [six_four, limb_hi hx 4 (by omega), limb_hi hx 5 (by omega)]
  unfold lo4
  rw [Nat.mod_eq_of_lt hx]
  rfl

theorem zero_low : 0 < W4.R := by decide +kernel

theorem pn_at0 {x : Nat} (hx : x < W4.R) (b c d : Nat) (i : Bool) : pn x b c d i = (#[]) ++ (P4.nv x ++ (#[Value.int .u64 0, Value.int .u64 0] ++ (W6.cs (limb b) ++ (W6.cs (limb c) ++ (W6.cs (limb d) ++ (#[Value.bool i])))))) := by
  rw [pn_eq, six_low hx]
  simp only [Array.append_assoc, Array.empty_append]

theorem pn_put0 {x : Nat} (hx : x < W4.R) (b c d : Nat) (i : Bool) : putAll (pn 0 b c d i) 0 (P4.nv x).toList = pn x b c d i := by
  rw [pn_at0 zero_low, pn_at0 hx]
  exact putAll_mid (by rfl) (by rw [P4.nv_size, P4.nv_size])

theorem pn_at2 {x : Nat} (hx : x < W4.R) (a b d : Nat) (i : Bool) : pn a b x d i = (W6.cs (limb a) ++ (W6.cs (limb b))) ++ (P4.nv x ++ (#[Value.int .u64 0, Value.int .u64 0] ++ (W6.cs (limb d) ++ (#[Value.bool i])))) := by
  rw [pn_eq, six_low hx]
  simp only [Array.append_assoc]

theorem pn_put2 {x : Nat} (hx : x < W4.R) (a b d : Nat) (i : Bool) : putAll (pn a b 0 d i) 12 (P4.nv x).toList = pn a b x d i := by
  rw [pn_at2 zero_low, pn_at2 hx]
  exact putAll_mid (by simp [W6.cs_size]) (by rw [P4.nv_size, P4.nv_size])

theorem pn_seti (a b c d : Nat) (i j : Bool) : (pn a b c d i).setIfInBounds 24 (.bool j) = pn a b c d j := by
  have e : ∀ i, pn a b c d i = (W6.cs (limb a) ++ (W6.cs (limb b) ++ (W6.cs (limb c) ++ W6.cs (limb d)))) ++ (#[.bool i] ++ #[]) := fun i => by
    rw [pn_eq]
    simp only [Array.append_assoc, Array.append_empty]
  rw [e i, e j]
  have h := putAll_mid (A := W6.cs (limb a) ++ (W6.cs (limb b) ++ (W6.cs (limb c) ++ W6.cs (limb d)))) (B := #[.bool i]) (B' := #[.bool j]) (C := #[]) (o := 24) (by simp only [Array.size_append, W6.cs_size]) rfl
  rw [show (#[Value.bool j] : Array Value).toList = [Value.bool j] from rfl, putAll, putAll] at h
  exact h

theorem pn_one (a b c d : Nat) (i : Bool) : (pn a b c d i).all (·.oneCell') = true := by
  rw [pn_eq]
  exact P4.all_append' (W6.one _) (P4.all_append' (W6.one _) (P4.all_append' (W6.one _) (P4.all_append' (W6.one _) (by simp [Value.oneCell']))))

theorem undUs : Tryz.prog.underlying 37 = some (.slice 27) := by kernel_rfl

theorem infoU1 : (Tryz.prog.info? 27).map (·.size) = some 1 := by kernel_rfl

/-- copy, as an operation. -/
theorem wp_copyD {op : Oper} {l : List Value} {ds : List Deferred} {w w' : World} {K : Act → World → Prop} {Q : Exit → Act → World → Prop} (x y : Operand) (d : Nat) (ho : op.op = .call { callee := .builtin .copy, args := #[x, y], argTypes := #[37, 37] }) (hd : op.dst = some d) {xv yv v : Value}
    (hx : Act.eval { tmps := l.toArray, defers := ds } x = xv) (hy : Act.eval { tmps := l.toArray, defers := ds } y = yv) (hr : (Builtin.copy_ #[37, 37] op.type #[xv, yv]).run Tryz.prog w = .ok v w')
    (h : K { tmps := (l.set d v).toArray, defers := ds } w') : op.wp Tryz.prog { tmps := l.toArray, defers := ds } w K Q := by
  have hk : K (Act.put { tmps := l.toArray, defers := ds } op.dst v) w' := by rw [hd, put_list]; exact h
  unfold Oper.wp
  simp [execOp, ho, resolve, invoke, builtin, hx, hy, hr, Result.andThen]
  exact hk

/-- Four words into a plain point. -/
theorem copy_pn {w : World} {B t A o p : Nat} {C : Array Value} (ty : Nat) {x : Nat} (hB : w.heap[B]? = some (.cells C t (0, 0))) (hC : C.size = 25) (hp : p ≤ 18) (hs : w.rangeAt A o (P4.nv x).toList) :
    (Builtin.copy_ #[37, 37] ty #[.slice (some ⟨B, p, none⟩) 6 6, .slice (some ⟨A, o, none⟩) 4 4]).run Tryz.prog w = .ok (goInt 4) (w.setCells B p (P4.nv x).toList) := by
  have hl : (P4.nv x).toList.length = 4 := by rw [Array.length_toList, P4.nv_size]
  have h := run_copy_cells (P := Tryz.prog) w 37 37 ty 27 B p 6 6 ⟨A, o, none⟩ 4 4 (P4.nv x).toList undUs infoU1 (by rw [hl]; rfl) (fun j v hv => ?_) (fun j hj => ?_) (fun j hj => blk_free hB) (fun v hv => ?_)
  · rw [hl] at h
    exact h
  · have h1 := hs j v hv
    have e : (⟨A, o, none⟩ : Addr).add j = ⟨A, o + j, none⟩ := by unfold Addr.add; split <;> simp_all
    rw [e]
    exact h1
  · rw [hl] at hj
    rw [blk_cell hB (Array.getElem?_eq_getElem (by omega))]
    rfl
  · have := P4.nv_one x
    rw [Array.all_eq_true'] at this
    exact this v (Array.mem_toList_iff.1 hv)

end Go.Proofs.YtcbdbnfgnonacaaGreat

namespace Go.Proofs.YtcbdbnfgnonacaaGreat
open Go.RowKit Go.Shelf

theorem wl4 (x : Nat) : wl 4 (limb x) = (P4.nv x).toList := by rw [P4.nv_eq]; rfl

theorem wl6 (x : Nat) : wl 6 (limb x) = (W6.cs (limb x)).toList := rfl

theorem R4_pow : W4.R = 18446744073709551616 ^ 4 := by decide +kernel

section
variable {n X : Nat} (hn : n = 4 ∨ n = 6) (hX : X < 18446744073709551616 ^ n) (a b c d : Nat) (i : Bool)
include hn hX
theorem pn_set0 : putAll (pn 0 b c d i) 0 (wl n (limb X)) = pn X b c d i := by
  rcases hn with rfl | rfl
  · rw [wl4]; exact pn_put0 (by rw [R4_pow]; exact hX) b c d i
  · rw [wl6, pn_eq, pn_eq]
    have h := putAll_mid (A := #[]) (B := W6.cs (limb 0)) (B' := W6.cs (limb X)) (C := W6.cs (limb b) ++ (W6.cs (limb c) ++ (W6.cs (limb d) ++ #[.bool i]))) (o := 0) rfl (by rw [W6.cs_size, W6.cs_size])
    rw [Array.empty_append, Array.empty_append] at h
    exact h

theorem pn_set2 : putAll (pn a b 0 d i) 12 (wl n (limb X)) = pn a b X d i := by
  rcases hn with rfl | rfl
  · rw [wl4]; exact pn_put2 (by rw [R4_pow]; exact hX) a b d i
  · rw [wl6, pn_eq, pn_eq]
    have h := putAll_mid (A := W6.cs (limb a) ++ W6.cs (limb b)) (B := W6.cs (limb 0)) (B' := W6.cs (limb X)) (C := W6.cs (limb d) ++ #[.bool i]) (o := 12) (by simp [W6.cs_size]) (by rw [W6.cs_size, W6.cs_size])
    simp only [Array.append_assoc] at h
    exact h

end

theorem al30 (w : World) : (Instr.alloc 30 true (.tuple #[])).run Tryz.prog w = .ok (.pointer (some ⟨w.heap.size, 0, none⟩)) (w.alloc (.cells (pn 0 0 0 0 false) 30 (0, 0))) := by
  rw [← zpn]
  kernel_rfl

theorem under30 : Tryz.prog.underlying 30 = some (.struct (fsOf (Tryz.prog.underlying 30))) := by kernel_rfl

theorem info30 (a b c d : Nat) (i : Bool) : (Tryz.prog.info? 30).map (·.size) = some (pn a b c d i).size := by rw [pn_size]; kernel_rfl

/-- Words into a box, as the last operation of a region. -/
theorem cp_box {ops : List Oper} {Q : Exit → Act → World → Prop} {i d : Nat} {o : Oper} {K : Act → World → Prop} {l : List Value} {ds : List Deferred} {w : World} (ho : ops[i]? = some o) (hg : o.guard = none) (x y : Operand) (hop : o.op = .call { callee := .builtin .copy, args := #[x, y], argTypes := #[37, 37] }) (hd : o.dst = some d)
    (B p n : Nat) (f : Nat → Nat) (C : Array Value) (t : TypeId) {v : Value} (hx : Act.eval { tmps := l.toArray, defers := ds } x = .slice (some ⟨B, p, none⟩) 6 6) (hy : Act.eval { tmps := l.toArray, defers := ds } y = v) (hv : LW w v n f) (hn : n ≤ 6) (hB : BX w B C t) (hp : p + n ≤ C.size)
    (h : ∀ w', But B w w' → BX w' B (putAll C p (wl n f)) t → K { tmps := (l.set d (goInt n)).toArray, defers := ds } w') : wpOp Tryz.prog ops.toArray Q i K { tmps := l.toArray, defers := ds } w := by
  obtain ⟨A, q, c, rfl, h1, h2, hg1, hc⟩ := hv.ex
  have hl : (wl n f).length = n := wl_len n f
  have hr := run_copy_cells (P := Tryz.prog) w 37 37 o.type 27 B p 6 6 ⟨A, q, none⟩ n c (wl n f) undUs infoU1 (by rw [hl]; exact (Nat.min_eq_left hn).symm) (fun j u hu => ?_) (fun j hj => ?_) (fun j hj => blk_free hB.heap) (fun u hu => wl_one u hu)
  · rw [hl] at hr
    refine wpOp_stepT ho (fun K' hK' => ?_)
    have hw : Region.wanted o (yielded ops.toArray (Act.tmps { tmps := l.toArray, defers := ds })) = true := by
      unfold Region.wanted
      rw [hg]
    rw [if_pos hw]
    exact wp_copyD x y d hop hd hx hy hr (hK' _ _ (h _ (But.sets _ _ (But.refl B w)) ⟨blk_sets _ _ hB.heap⟩))
  · have hj := (List.getElem?_eq_some_iff.1 hu).1
    rw [hl] at hj
    rw [wl_get hj] at hu
    rw [Addr.add_mid, hc j hj]
    exact hu
  · rw [hl] at hj
    rw [blk_cell hB.heap (Array.getElem?_eq_getElem (by omega))]
    rfl

/-- A plain point into a box. -/
theorem st_pn {ops : List Oper} {Q : Exit → Act → World → Prop} {i : Nat} {o : Oper} {K : Act → World → Prop} {a : Act} {w : World} (ho : ops[i]? = some o) (hg : o.guard = none) (x y : Operand) (hop : o.op = .store 30 x y) (hd : o.dst = none)
    (B : Nat) {a1 a2 a3 a4 b1 b2 b3 b4 : Nat} {j1 j2 : Bool} (hx : a.eval x = .pointer (some ⟨B, 0, none⟩)) (hy : a.eval y = .agg (pn b1 b2 b3 b4 j2)) (hB : BX w B (pn a1 a2 a3 a4 j1) 30)
    (h : ∀ w', But B w w' → BX w' B (pn b1 b2 b3 b4 j2) 30 → K a w') : wpOp Tryz.prog ops.toArray Q i K a w := by
  refine wpOp_stepT ho (fun K' hK' => ?_)
  have hw : Region.wanted o (yielded ops.toArray a.tmps) = true := by
    unfold Region.wanted
    rw [hg]
  rw [if_pos hw]
  refine wp_store_midN _ x y hop hd B 0 (pn b1 b2 b3 b4 j2) hx hy (there_of hB.heap (by rw [pn_size, pn_size])) (info30 _ _ _ _ _) (pn_one _ _ _ _ _) (hK' _ _ (h _ (But.sets _ _ (But.refl B w)) ⟨?_⟩))
  have := blk_sets (pn b1 b2 b3 b4 j2).toList 0 hB.heap
  rwa [putAll_eq (by rw [pn_size, pn_size])] at this

theorem pn_putI (a b c d : Nat) (i j : Bool) : putAll (pn a b c d i) 24 [.bool j] = pn a b c d j := pn_seti a b c d i j

end Go.Proofs.YtcbdbnfgnonacaaGreat

namespace Go.Proofs.YtcbdbnfgnonacaaGreat
open Go.RowKit Go.Shelf

set_option maxHeartbeats 4000000 in
set_option maxRecDepth 100000 in
theorem of_1 {n : Nat} (hn : n = 4 ∨ n = 6) (a c : Nat) (ha : a < 18446744073709551616 ^ n) (hc : c < 18446744073709551616 ^ n) (i : Bool) (w : World) (p : Value) (hP : PT w p n [a] [c] i) : Calls Tryz.prog 17 #[p] w fun r w' => r = .returned (.agg (pn a 0 c 0 i)) ∧ Below w.heap.size w w' := by
 obtain ⟨xv, yv, rfl, hu, hv⟩ := hP.ex
 clear hP
 obtain ⟨gu, ou, cu, u0, rfl, -, -, ku, lu⟩ := hu.one
 have HKu0 := hideP ku
 have HLu0 := hideP lu
 have Ha := hideP ha
 clear hu ku lu ha
 obtain ⟨gv, ov, cv, v0, rfl, -, -, kv, lv⟩ := hv.one
 have HKv0 := hideP kv
 have HLv0 := hideP lv
 have Hc := hideP hc
 clear hv kv lv hc
 have HB : Hid (Up w w) := Below.refl _ _
 go_enter Tryz.func17, Tryz.ntmps17
 refine code_start 44 [(0, .agg #[.slice (some ⟨gu, ou, none⟩) 1 cu, .slice (some ⟨gv, ov, none⟩) 1 cv, .bool i])] rfl ⟨rfl, trivial⟩ (fun L hL hK => ?_)
 refine wp_seqH (fun K1 HK1 => ?_)
 have up : ∀ V, Up w V → Up w V := fun _ h => HB.out.trans (h.mono HB.out.size)
 refine region2 [.pr (NB w.heap.size #[.slice (some ⟨gu, ou, none⟩) 1 cu, .slice (some ⟨gv, ov, none⟩) 1 cv, .bool i] 42), .pr (NB w.heap.size (pn (0) (0) (0) (0) false) 30)] [1, 2] hL hK ⟨stab_NB _ _ _, stab_NB _ _ _, trivial⟩
   ⟨ok_x [.ex (.agg #[.slice (some ⟨gu, ou, none⟩) 1 cu, .slice (some ⟨gv, ov, none⟩) 1 cv, .bool i])] hK (fun V h => ⟨_, _, ex_box rfl rfl, below_new _ _, _, rfl, h.size, ⟨heap_new _ _⟩⟩),
   ok_x [] hK (fun V h => ⟨_, _, ex_alloc rfl (al30 _), below_new _ _, _, rfl, h.size, ⟨heap_new _ _⟩⟩),
   trivial⟩ ?_
 rintro W1 h _ ⟨B1, rfl, lB1, hB1⟩ _ ⟨B2, rfl, lB2, hB2⟩ L1 hL1 hK1
 have LB1 := hideP (Nat.le_trans HB.out.size lB1)
 clear lB1
 have LB2 := hideP (Nat.le_trans HB.out.size lB2)
 clear lB2
 replace HB := hideP (up _ h)
 have HB1 := hideP hB1
 clear hB1
 have HB2 := hideP hB2
 clear hB2
 have hK2 := hK1.to [(1, .pointer (some ⟨B1, 0, none⟩)), (2, .pointer (some ⟨B2, 0, none⟩))] (by kernel_rfl)
 clear up h hK1 hK hL L
 revert L1
 intro L hL hK
 refine HK1.out _ _ ?_
 clear HK1 K1
 refine wp_seqH (fun K2 HK2 => ?_)
 have up : ∀ V, Up W1 V → Up w V := fun _ h => HB.out.trans (h.mono HB.out.size)
 refine region2 [.pr (NB W1.heap.size (pn (0) (0) (0) (0) false) 30)] [1, 2, 3] hL hK ⟨stab_NB _ _ _, trivial⟩
   ⟨ok_x [] hK (fun V h => ⟨_, _, ex_alloc rfl (al30 _), below_new _ _, _, rfl, h.size, ⟨heap_new _ _⟩⟩),
   trivial⟩ ?_
 rintro W2 h _ ⟨B3, rfl, lB3, hB3⟩ L1 hL1 hK1
 have LB3 := hideP (Nat.le_trans HB.out.size lB3)
 have nB3_B1 : B1 ≠ B3 := by have := HB1.out.lt; omega
 have nB3_B2 : B2 ≠ B3 := by have := HB2.out.lt; omega
 clear lB3
 replace HB := hideP (up _ h)
 replace HB1 := hideP (HB1.out.moved h)
 replace HB2 := hideP (HB2.out.moved h)
 have HB3 := hideP hB3
 clear hB3
 have hK2 := hK1.to [(1, .pointer (some ⟨B1, 0, none⟩)), (2, .pointer (some ⟨B2, 0, none⟩)), (3, .pointer (some ⟨B3, 0, none⟩))] (by kernel_rfl)
 clear up h hK1 hK hL L
 revert L1
 intro L hL hK
 refine HK2.out _ _ ?_
 clear HK2 K2
 refine wp_seqH (fun K3 HK3 => ?_)
 have up : ∀ V, Up W2 V → Up w V := fun _ h => HB.out.trans (h.mono HB.out.size)
 refine region2S [.ex (.pointer (some ⟨B1, 2, none⟩)), .ex (.bool i), .ex (.pointer (some ⟨B3, 24, none⟩))] [1, 2, 3, 5, 6] hL hK trivial
   ⟨ok_q hK,
   ok_ld 2 hK (fun V h => HB1.out.moved h),
   ok_q hK,
   trivial⟩ ?_
 rintro W3 h  L1 hL1 hK1
 replace HB := hideP (up _ h)
 replace HB1 := hideP (HB1.out.moved h)
 replace HB2 := hideP (HB2.out.moved h)
 replace HB3 := hideP (HB3.out.moved h)
 have hK2 := hK1.to [(1, .pointer (some ⟨B1, 0, none⟩)), (2, .pointer (some ⟨B2, 0, none⟩)), (3, .pointer (some ⟨B3, 0, none⟩)), (5, .bool i), (6, .pointer (some ⟨B3, 24, none⟩))] (by kernel_rfl)
 clear up h hK1 hK hL L
 revert L1
 intro L hL hK
 refine st_box rfl rfl 4 _ _ rfl rfl B3 24 (pn (0) (0) (0) (0) false) [.bool i] 30 (eval_get (hK.get rfl)) (eval_get (hK.get rfl)) rfl HB3.out (by rw [pn_size]; exact Nat.le_refl _) (by kernel_rfl) ⟨rfl, trivial⟩ (fun W4 hb9 hx9 => ?_)
 rw [pn_putI] at hx9
 replace HB1 := hideP (HB1.out.but hb9 nB3_B1)
 replace HB2 := hideP (HB2.out.but hb9 nB3_B2)
 replace HB := hideP (HB.out.trans (hb9.below.mono LB3.out))
 replace HB3 := hideP hx9
 clear hb9 hx9
 refine HK3.out _ _ ?_
 clear HK3 K3
 refine wp_seqH (fun K4 HK4 => ?_)
 refine wp_seqH (fun K5 HK5 => ?_)
 have up : ∀ V, Up W4 V → Up w V := fun _ h => HB.out.trans (h.mono HB.out.size)
 refine region2 [.ex (.pointer (some ⟨B1, 0, none⟩)), .ex (.slice (some ⟨gu, ou, none⟩) 1 cu), .ex (.int .i64 1), .ex (.bool true)] [1, 2, 3, 10] hL hK trivial
   ⟨ok_q hK,
   ok_ld 0 hK (fun V h => HB1.out.moved h),
   ok_q hK,
   ok_q hK,
   trivial⟩ ?_
 rintro W5 h  L1 hL1 hK1
 replace HB := hideP (up _ h)
 replace HB1 := hideP (HB1.out.moved h)
 replace HB2 := hideP (HB2.out.moved h)
 replace HB3 := hideP (HB3.out.moved h)
 have hK2 := hK1.to [(1, .pointer (some ⟨B1, 0, none⟩)), (2, .pointer (some ⟨B2, 0, none⟩)), (3, .pointer (some ⟨B3, 0, none⟩)), (10, .bool true)] (by kernel_rfl)
 clear up h hK1 hK hL L
 revert L1
 intro L hL hK
 refine HK5.out _ _ ?_
 clear HK5 K5
 refine cond_T hK ?_
 refine wp_seqH (fun K6 HK6 => ?_)
 have up : ∀ V, Up W5 V → Up w V := fun _ h => HB.out.trans (h.mono HB.out.size)
 refine region2S [.ex (.pointer (some ⟨B3, 0, none⟩)), .ex (.slice (some ⟨B3, 0, none⟩) 6 6), .ex (.pointer (some ⟨B1, 0, none⟩)), .ex (.slice (some ⟨gu, ou, none⟩) 1 cu), .ex (.pointer (some ⟨gu, ou + 0, none⟩)), .ex (u0)] [1, 2, 3, 12, 16] hL hK trivial
   ⟨ok_q hK,
   ok_q hK,
   ok_q hK,
   ok_ld 0 hK (fun V h => HB1.out.moved h),
   ok_q hK,
   ok_ka hK (fun V h => (HKu0.out.moved (up V h))),
   trivial⟩ ?_
 rintro W6 h  L1 hL1 hK1
 replace HB := hideP (up _ h)
 replace HB1 := hideP (HB1.out.moved h)
 replace HB2 := hideP (HB2.out.moved h)
 replace HB3 := hideP (HB3.out.moved h)
 have hK2 := hK1.to [(1, .pointer (some ⟨B1, 0, none⟩)), (2, .pointer (some ⟨B2, 0, none⟩)), (3, .pointer (some ⟨B3, 0, none⟩)), (12, .slice (some ⟨B3, 0, none⟩) 6 6), (16, u0)] (by kernel_rfl)
 clear up h hK1 hK hL L
 revert L1
 intro L hL hK
 refine cp_box rfl rfl _ _ rfl rfl B3 0 n (limb a) (pn (0) (0) (0) (0) i) 30 (eval_get (hK.get rfl)) (eval_get (hK.get rfl)) (HLu0.out.moved HB.out) (by omega) HB3.out (by rw [pn_size]; omega) (fun W7 hb9 hx9 => ?_)
 rw [pn_set0 hn Ha.out (0) (0) (0) i] at hx9
 replace HB1 := hideP (HB1.out.but hb9 nB3_B1)
 replace HB2 := hideP (HB2.out.but hb9 nB3_B2)
 replace HB := hideP (HB.out.trans (hb9.below.mono LB3.out))
 replace HB3 := hideP hx9
 clear hb9 hx9
 replace hK := (KS.set1 (d := 17) (v := goInt n) (by omega) hK (by kernel_rfl)).pick [(1, .pointer (some ⟨B1, 0, none⟩)), (2, .pointer (some ⟨B2, 0, none⟩)), (3, .pointer (some ⟨B3, 0, none⟩))] (by kernel_rfl)
 replace hL : (List.set L 17 (goInt n)).length = _ := (List.length_set ..).trans hL
 generalize List.set L 17 (goInt n) = L1 at hK hL ⊢
 clear L
 revert L1
 intro L hK hL
 refine HK6.out _ _ ?_
 clear HK6 K6
 have up : ∀ V, Up W7 V → Up w V := fun _ h => HB.out.trans (h.mono HB.out.size)
 refine region2S [.ex (.pointer (some ⟨B3, 12, none⟩)), .ex (.slice (some ⟨B3, 12, none⟩) 6 6), .ex (.pointer (some ⟨B1, 1, none⟩)), .ex (.slice (some ⟨gv, ov, none⟩) 1 cv), .ex (.pointer (some ⟨gv, ov + 0, none⟩)), .ex (v0)] [1, 2, 3, 19, 23] hL hK trivial
   ⟨ok_q hK,
   ok_q hK,
   ok_q hK,
   ok_ld 1 hK (fun V h => HB1.out.moved h),
   ok_q hK,
   ok_ka hK (fun V h => (HKv0.out.moved (up V h))),
   trivial⟩ ?_
 rintro W8 h  L1 hL1 hK1
 replace HB := hideP (up _ h)
 replace HB1 := hideP (HB1.out.moved h)
 replace HB2 := hideP (HB2.out.moved h)
 replace HB3 := hideP (HB3.out.moved h)
 have hK2 := hK1.to [(1, .pointer (some ⟨B1, 0, none⟩)), (2, .pointer (some ⟨B2, 0, none⟩)), (3, .pointer (some ⟨B3, 0, none⟩)), (19, .slice (some ⟨B3, 12, none⟩) 6 6), (23, v0)] (by kernel_rfl)
 clear up h hK1 hK hL L
 revert L1
 intro L hL hK
 refine cp_box rfl rfl _ _ rfl rfl B3 12 n (limb c) (pn (a) (0) (0) (0) i) 30 (eval_get (hK.get rfl)) (eval_get (hK.get rfl)) (HLv0.out.moved HB.out) (by omega) HB3.out (by rw [pn_size]; omega) (fun W9 hb9 hx9 => ?_)
 rw [pn_set2 hn Hc.out (a) (0) (0) i] at hx9
 replace HB1 := hideP (HB1.out.but hb9 nB3_B1)
 replace HB2 := hideP (HB2.out.but hb9 nB3_B2)
 replace HB := hideP (HB.out.trans (hb9.below.mono LB3.out))
 replace HB3 := hideP hx9
 clear hb9 hx9
 replace hK := (KS.set1 (d := 24) (v := goInt n) (by omega) hK (by kernel_rfl)).pick [(1, .pointer (some ⟨B1, 0, none⟩)), (2, .pointer (some ⟨B2, 0, none⟩)), (3, .pointer (some ⟨B3, 0, none⟩))] (by kernel_rfl)
 replace hL : (List.set L 24 (goInt n)).length = _ := (List.length_set ..).trans hL
 generalize List.set L 24 (goInt n) = L1 at hK hL ⊢
 clear L
 revert L1
 intro L hK hL
 refine HK4.out _ _ ?_
 clear HK4 K4
 refine wp_seqH (fun K7 HK7 => ?_)
 refine wp_seqH (fun K8 HK8 => ?_)
 have up : ∀ V, Up W9 V → Up w V := fun _ h => HB.out.trans (h.mono HB.out.size)
 refine region2 [.ex (.pointer (some ⟨B1, 0, none⟩)), .ex (.slice (some ⟨gu, ou, none⟩) 1 cu), .ex (.int .i64 1), .ex (.bool false)] [2, 3, 28] hL hK trivial
   ⟨ok_q hK,
   ok_ld 0 hK (fun V h => HB1.out.moved h),
   ok_q hK,
   ok_q hK,
   trivial⟩ ?_
 rintro W10 h  L1 hL1 hK1
 replace HB := hideP (up _ h)
 replace HB1 := hideP (HB1.out.moved h)
 replace HB2 := hideP (HB2.out.moved h)
 replace HB3 := hideP (HB3.out.moved h)
 have hK2 := hK1.to [(2, .pointer (some ⟨B2, 0, none⟩)), (3, .pointer (some ⟨B3, 0, none⟩)), (28, .bool false)] (by kernel_rfl)
 clear up h hK1 hK hL L
 revert L1
 intro L hL hK
 refine HK8.out _ _ ?_
 clear HK8 K8
 refine cond_F hK ?_
 refine wp_skip ?_
 refine HK7.out _ _ ?_
 clear HK7 K7
 refine wp_seqH (fun K9 HK9 => ?_)
 have up : ∀ V, Up W10 V → Up w V := fun _ h => HB.out.trans (h.mono HB.out.size)
 refine region2S [.ex (.agg (pn (a) (0) (c) (0) i))] [2, 43] hL hK trivial
   ⟨ok_x [.ex (.pointer (some ⟨B3, 0, none⟩))] hK (fun V h => ⟨_, _, ex_load rfl rfl (loadC _ B3 0 30 (pn (a) (0) (c) (0) i) _ (rangeOf (HB3.out.moved h).heap) under30 rfl (info30 _ _ _ _ _)), Below.refl _ _, rfl⟩),
   trivial⟩ ?_
 rintro W11 h  L1 hL1 hK1
 replace HB := hideP (up _ h)
 replace HB1 := hideP (HB1.out.moved h)
 replace HB2 := hideP (HB2.out.moved h)
 replace HB3 := hideP (HB3.out.moved h)
 have hK2 := hK1.to [(2, .pointer (some ⟨B2, 0, none⟩)), (43, .agg (pn (a) (0) (c) (0) i))] (by kernel_rfl)
 clear up h hK1 hK hL L
 revert L1
 intro L hL hK
 refine st_pn rfl rfl _ _ rfl rfl B2 (eval_get (hK.get rfl)) (eval_get (hK.get rfl)) HB2.out (fun W12 hb9 hx9 => ?_)
 clear HB1
 replace HB3 := hideP (HB3.out.but hb9 (Ne.symm nB3_B2))
 replace HB := hideP (HB.out.trans (hb9.below.mono LB2.out))
 replace HB2 := hideP hx9
 clear hb9 hx9
 refine HK9.out _ _ ?_
 clear HK9 K9
 refine wp_ret ?_
 exact ret_cell 2 30 B2 (pn (a) (0) (c) (0) i) rfl (hK.get rfl) HB2.out under30 rfl (info30 _ _ _ _ _) ⟨rfl, HB.out⟩

end Go.Proofs.YtcbdbnfgnonacaaGreat

namespace Go.Proofs.YtcbdbnfgnonacaaGreat
open Go.RowKit Go.Shelf

set_option maxHeartbeats 4000000 in
set_option maxRecDepth 100000 in
theorem rBn1_any (w : World) : Calls Tryz.prog 18 #[] w fun r w' => (∃ v', r = .returned v' ∧ CC w' v' 4 nBnP 1 ([3]) nBnR ([1]) ([2])) ∧ Below w.heap.size w w' := by
 have HB : Hid (Up w w) := Below.refl _ _
 go_enter Tryz.func18, Tryz.ntmps18
 refine code_start 19 [] rfl trivial (fun L hL hK => ?_)
 refine wp_seqH (fun K1 HK1 => ?_)
 have up : ∀ V, Up w V → Up w V := fun _ h => HB.out.trans (h.mono HB.out.size)
 refine region2 [.pr (NB w.heap.size #[.slice none 0 0, .int .u64 0, .slice none 0 0, .int .i64 0, .slice none 0 0, .slice none 0 0, .slice none 0 0, .slice none 0 0, .bool false] 44)] [0] hL hK ⟨stab_NB _ _ _, trivial⟩
   ⟨ok_x [] hK (fun V h => ⟨_, _, ex_alloc rfl (al44 _), below_new _ _, _, rfl, h.size, ⟨heap_new _ _⟩⟩),
   trivial⟩ ?_
 rintro W1 h _ ⟨B1, rfl, lB1, hB1⟩ L1 hL1 hK1
 have LB1 := hideP (Nat.le_trans HB.out.size lB1)
 clear lB1
 replace HB := hideP (up _ h)
 have HB1 := hideP hB1
 clear hB1
 have hK2 := hK1.to [(0, .pointer (some ⟨B1, 0, none⟩))] (by kernel_rfl)
 clear up h hK1 hK hL L
 revert L1
 intro L hL hK
 refine HK1.out _ _ ?_
 clear HK1 K1
 refine wp_seqH (fun K2 HK2 => ?_)
 have up : ∀ V, Up W1 V → Up w V := fun _ h => HB.out.trans (h.mono HB.out.size)
 refine region2S [.pr (fun zv zw => LW zw zv (4) (limb nBnP)), .pr (fun zv zw => FG zw zv (4) (nBnP)), .pr (NB W1.heap.size #[.slice none 0 0, .int .u64 0, .slice none 0 0] 39)] [0, 1, 4] hL hK ⟨stab_LW _ _, stab_FG _ _, stab_NB _ _ _, trivial⟩
   ⟨ok_c [] (enters_of Tryz.func87 (by kernel_rfl) rfl) hK (fun V h => rBnP_L _),
   ok_c [.pr (fun zv zw => LW zw zv (4) (limb nBnP))] (enters_of Tryz.func86 (by kernel_rfl) rfl) hK (fun V h u1 q1 => rnew_L (by decide) hFM4 _ _ q1),
   ok_x [] hK (fun V h => ⟨_, _, ex_alloc rfl (al39 _), below_new _ _, _, rfl, h.size, ⟨heap_new _ _⟩⟩),
   trivial⟩ ?_
 rintro W2 h v2 pv2 _ ⟨⟨mz3, fz3, tz3, rfl, hFz3, hMz3, h1z3⟩⟩ _ ⟨B4, rfl, lB4, hB4⟩ L1 hL1 hK1
 have LB4 := hideP (Nat.le_trans HB.out.size lB4)
 have nB4_B1 : B1 ≠ B4 := by have := HB1.out.lt; omega
 clear lB4
 replace HB := hideP (up _ h)
 replace HB1 := hideP (HB1.out.moved h)
 have Fv2 := hideP pv2
 clear pv2
 have HFFz3 : Hid (FF W2 (.agg #[mz3, .int .u64 (fz3 : Int), tz3]) (4) (nBnP)) := hFz3
 clear hFz3
 have HMVz3 : Hid (LW W2 mz3 (4) (limb (nBnP))) := hMz3
 clear hMz3
 have HOz3 : Hid (Value.oneCell' tz3 = true) := h1z3
 clear h1z3
 have HB4 := hideP hB4
 clear hB4
 have hK2 := hK1.to [(0, .pointer (some ⟨B1, 0, none⟩)), (1, .pointer (some ⟨B4, 0, none⟩)), (4, .agg #[mz3, .int .u64 (fz3 : Int), tz3])] (by kernel_rfl)
 clear up h hK1 hK hL L
 revert L1
 intro L hL hK
 refine st_box rfl rfl 39 _ _ rfl rfl B4 0 #[.slice none 0 0, .int .u64 0, .slice none 0 0] [mz3, .int .u64 (fz3 : Int), tz3] 39 (eval_get (hK.get rfl)) (eval_get (hK.get rfl)) (rfl) HB4.out (Nat.le_of_ble_eq_true rfl) info39 ⟨HMVz3.out.oneC, rfl, HOz3.out, trivial⟩ (fun W3 hb9 hx9 => ?_)
 have hs9 := safe_put HB4.out (by kernel_rfl) hb9 hx9
 replace Fv2 := hideP (Fv2.out.safe (by decide) hs9)
 replace HFFz3 := hideP (HFFz3.out.safe (by decide) hs9)
 replace HMVz3 := hideP (HMVz3.out.safe (by decide) hs9)
 replace HB1 := hideP (HB1.out.but hb9 nB4_B1)
 replace HB := hideP (HB.out.trans (hb9.below.mono LB4.out))
 rw [show putAll _ _ _ = #[mz3, .int .u64 (fz3 : Int), tz3] by kernel_rfl] at hx9
 replace HB4 := hideP hx9
 clear hs9 hb9 hx9
 refine HK2.out _ _ ?_
 clear HK2 K2
 refine wp_seqH (fun K3 HK3 => ?_)
 have up : ∀ V, Up W3 V → Up w V := fun _ h => HB.out.trans (h.mono HB.out.size)
 refine region2S [.ex (.agg #[mz3, .int .u64 (fz3 : Int), tz3]), .pr (fun zv zw => LW zw zv (4) (limb 1)), .pr (fun zv zw => LL zw zv (4) ([1])), .ex (.agg #[mz3, .int .u64 (fz3 : Int), tz3]), .pr (fun zv zw => LW zw zv (4) (limb 2)), .pr (fun zv zw => LL zw zv (4) ([2])), .pr (fun zv zw => PT zw zv (4) ([1]) ([2]) false), .pr (NB W3.heap.size #[.slice none 0 0, .slice none 0 0, .bool false] 42)] [0, 1, 2, 11] hL hK ⟨stab_LW _ _, stab_LL _ _, stab_LW _ _, stab_LL _ _, stab_PT _ _ _ _, stab_NB _ _ _, trivial⟩
   ⟨ok_ldN 0 hK (fun V h => HB4.out.moved h) under39 info39,
   ok_c [.ex (.agg #[mz3, .int .u64 (fz3 : Int), tz3]), .ex (.int .u64 1)] (enters_of Tryz.func88 (by kernel_rfl) rfl) hK (fun V h => rnum_any hFM4 1 (by decide) _ _ (HFFz3.out.moved h)),
   ok_x [.pr (fun zv zw => LW zw zv (4) (limb 1))] hK (fun V h u1 q1 => ⟨_, _, ex_bs (vs := #[(0, u1)]) rfl (by kernel_rfl) (bs1 _ (LW.isSlice q1)), below_new _ _, LL.mk1 q1⟩),
   ok_ldN 0 hK (fun V h => HB4.out.moved h) under39 info39,
   ok_c [.ex (.agg #[mz3, .int .u64 (fz3 : Int), tz3]), .ex (.int .u64 2)] (enters_of Tryz.func88 (by kernel_rfl) rfl) hK (fun V h => rnum_any hFM4 2 (by decide) _ _ (HFFz3.out.moved h)),
   ok_x [.pr (fun zv zw => LW zw zv (4) (limb 2))] hK (fun V h u1 q1 => ⟨_, _, ex_bs (vs := #[(0, u1)]) rfl (by kernel_rfl) (bs1 _ (LW.isSlice q1)), below_new _ _, LL.mk1 q1⟩),
   ok_x [.pr (fun zv zw => LL zw zv (4) ([1])), .pr (fun zv zw => LL zw zv (4) ([2]))] hK (fun V h u1 q1 u2 q2 => ⟨_, _, ex_build (vs := #[(0, u1), (1, u2)]) rfl (by kernel_rfl) (bd_pt2 (LL.isSlice q1) (LL.isSlice q2) _), Below.refl _ _, ⟨_, _, rfl, q1, q2⟩⟩),
   ok_x [] hK (fun V h => ⟨_, _, ex_alloc rfl (al42 _), below_new _ _, _, rfl, h.size, ⟨heap_new _ _⟩⟩),
   trivial⟩ ?_
 rintro W4 h v5 pv5 v6 pv6 v7 pv7 v8 pv8 _ ⟨⟨xz9, yz9, rfl, hxz9, hyz9⟩⟩ _ ⟨B10, rfl, lB10, hB10⟩ L1 hL1 hK1
 have LB10 := hideP (Nat.le_trans HB.out.size lB10)
 have nB10_B1 : B1 ≠ B10 := by have := HB1.out.lt; omega
 have nB10_B4 : B4 ≠ B10 := by have := HB4.out.lt; omega
 clear lB10
 replace HB := hideP (up _ h)
 replace Fv2 := hideP (Fv2.out.moved h)
 replace HFFz3 := hideP (HFFz3.out.moved h)
 replace HMVz3 := hideP (HMVz3.out.moved h)
 replace HB1 := hideP (HB1.out.moved h)
 replace HB4 := hideP (HB4.out.moved h)
 have Fv5 := hideP pv5
 clear pv5
 have Fv6 := hideP pv6
 clear pv6
 have Fv7 := hideP pv7
 clear pv7
 have Fv8 := hideP pv8
 clear pv8
 have HXz9 : Hid (LL W4 xz9 (4) ([1])) := hxz9
 clear hxz9
 have HYz9 : Hid (LL W4 yz9 (4) ([2])) := hyz9
 clear hyz9
 have HB10 := hideP hB10
 clear hB10
 have hK2 := hK1.to [(0, .pointer (some ⟨B1, 0, none⟩)), (1, .pointer (some ⟨B4, 0, none⟩)), (2, .pointer (some ⟨B10, 0, none⟩)), (11, .agg #[xz9, yz9, .bool false])] (by kernel_rfl)
 clear up h hK1 hK hL L
 revert L1
 intro L hL hK
 refine st_box rfl rfl 42 _ _ rfl rfl B10 0 #[.slice none 0 0, .slice none 0 0, .bool false] [xz9, yz9, .bool false] 42 (eval_get (hK.get rfl)) (eval_get (hK.get rfl)) (rfl) HB10.out (Nat.le_of_ble_eq_true rfl) info42 ⟨HXz9.out.oneC, HYz9.out.oneC, rfl, trivial⟩ (fun W5 hb9 hx9 => ?_)
 have hs9 := safe_put HB10.out (by kernel_rfl) hb9 hx9
 replace Fv2 := hideP (Fv2.out.safe (by decide) hs9)
 replace HFFz3 := hideP (HFFz3.out.safe (by decide) hs9)
 replace HMVz3 := hideP (HMVz3.out.safe (by decide) hs9)
 replace Fv5 := hideP (Fv5.out.safe (by decide) hs9)
 replace Fv6 := hideP (Fv6.out.safe (by decide) hs9)
 replace Fv7 := hideP (Fv7.out.safe (by decide) hs9)
 replace Fv8 := hideP (Fv8.out.safe (by decide) hs9)
 replace HXz9 := hideP (HXz9.out.safe (by decide) hs9)
 replace HYz9 := hideP (HYz9.out.safe (by decide) hs9)
 replace HB1 := hideP (HB1.out.but hb9 nB10_B1)
 replace HB4 := hideP (HB4.out.but hb9 nB10_B4)
 replace HB := hideP (HB.out.trans (hb9.below.mono LB10.out))
 rw [show putAll _ _ _ = #[xz9, yz9, .bool false] by kernel_rfl] at hx9
 replace HB10 := hideP hx9
 clear hs9 hb9 hx9
 refine HK3.out _ _ ?_
 clear HK3 K3
 refine wp_seqH (fun K4 HK4 => ?_)
 have up : ∀ V, Up W5 V → Up w V := fun _ h => HB.out.trans (h.mono HB.out.size)
 refine region2S [.ex (.agg #[mz3, .int .u64 (fz3 : Int), tz3]), .ex (.agg #[mz3, .int .u64 (fz3 : Int), tz3]), .pr (fun zv zw => LW zw zv (4) (limb 3)), .pr (fun zv zw => LL zw zv (4) ([3])), .pr (fun zv zw => LW zw zv (4) (limb nBnR)), .ex (.agg #[xz9, yz9, .bool false]), .pr (fun zv zw => CC zw zv (4) (nBnP) 1 ([3]) (nBnR) ([1]) ([2]))] [0, 18] hL hK ⟨stab_LW _ _, stab_LL _ _, stab_LW _ _, stab_CC _ _ _ _ _ _ _, trivial⟩
   ⟨ok_ldN 0 hK (fun V h => HB4.out.moved h) under39 info39,
   ok_ldN 0 hK (fun V h => HB4.out.moved h) under39 info39,
   ok_c [.ex (.agg #[mz3, .int .u64 (fz3 : Int), tz3]), .ex (.int .u64 3)] (enters_of Tryz.func88 (by kernel_rfl) rfl) hK (fun V h => rnum_any hFM4 3 (by decide) _ _ (HFFz3.out.moved h)),
   ok_x [.pr (fun zv zw => LW zw zv (4) (limb 3))] hK (fun V h u1 q1 => ⟨_, _, ex_bs (vs := #[(0, u1)]) rfl (by kernel_rfl) (bs1 _ (LW.isSlice q1)), below_new _ _, LL.mk1 q1⟩),
   ok_c [] (enters_of Tryz.func69 (by kernel_rfl) rfl) hK (fun V h => rBnR_L _),
   ok_ldN 0 hK (fun V h => HB10.out.moved h) under42 info42,
   ok_x [.ex (.agg #[mz3, .int .u64 (fz3 : Int), tz3]), .ex (.int .i64 1), .pr (fun zv zw => LL zw zv (4) ([3])), .pr (fun zv zw => LW zw zv (4) (limb nBnR)), .ex (.agg #[xz9, yz9, .bool false])] hK (fun V h u1 q1 u2 q2 => ⟨_, _, ex_build (vs := #[(0, .agg #[mz3, .int .u64 (fz3 : Int), tz3]), (1, .int .i64 1), (2, u1), (3, u2), (4, .agg #[xz9, yz9, .bool false])]) rfl (by kernel_rfl) (bd_cv 1 (LL.isSlice q1) (LW.isSlice q2) _), Below.refl _ _, ⟨_, _, _, _, _, _, _, rfl, (HFFz3.out.moved h), (HMVz3.out.moved h), q1, q2, (HXz9.out.moved h), (HYz9.out.moved h)⟩⟩),
   trivial⟩ ?_
 rintro W6 h v11 pv11 v12 pv12 v13 pv13 _ ⟨⟨mz14, fz14, tz14, bz14, rz14, xz14, yz14, rfl, hFz14, hMz14, hBz14, hRz14, hXz14, hYz14⟩⟩ L1 hL1 hK1
 replace HB := hideP (up _ h)
 replace Fv2 := hideP (Fv2.out.moved h)
 replace HFFz3 := hideP (HFFz3.out.moved h)
 replace HMVz3 := hideP (HMVz3.out.moved h)
 replace Fv5 := hideP (Fv5.out.moved h)
 replace Fv6 := hideP (Fv6.out.moved h)
 replace Fv7 := hideP (Fv7.out.moved h)
 replace Fv8 := hideP (Fv8.out.moved h)
 replace HXz9 := hideP (HXz9.out.moved h)
 replace HYz9 := hideP (HYz9.out.moved h)
 replace HB1 := hideP (HB1.out.moved h)
 replace HB4 := hideP (HB4.out.moved h)
 replace HB10 := hideP (HB10.out.moved h)
 have Fv11 := hideP pv11
 clear pv11
 have Fv12 := hideP pv12
 clear pv12
 have Fv13 := hideP pv13
 clear pv13
 have HFFz14 : Hid (FF W6 (.agg #[mz14, .int .u64 (fz14 : Int), tz14]) (4) (nBnP)) := hFz14
 clear hFz14
 have HMVz14 : Hid (LW W6 mz14 (4) (limb (nBnP))) := hMz14
 clear hMz14
 have HBz14 : Hid (LL W6 bz14 (4) ([3])) := hBz14
 clear hBz14
 have HRz14 : Hid (LW W6 rz14 (4) (limb (nBnR))) := hRz14
 clear hRz14
 have HXz14 : Hid (LL W6 xz14 (4) ([1])) := hXz14
 clear hXz14
 have HYz14 : Hid (LL W6 yz14 (4) ([2])) := hYz14
 clear hYz14
 have hK2 := hK1.to [(0, .pointer (some ⟨B1, 0, none⟩)), (18, .agg #[mz14, .int .u64 (fz14 : Int), tz14, .int .i64 1, bz14, rz14, xz14, yz14, .bool false])] (by kernel_rfl)
 clear up h hK1 hK hL L
 revert L1
 intro L hL hK
 refine st_box rfl rfl 44 _ _ rfl rfl B1 0 #[.slice none 0 0, .int .u64 0, .slice none 0 0, .int .i64 0, .slice none 0 0, .slice none 0 0, .slice none 0 0, .slice none 0 0, .bool false] [mz14, .int .u64 (fz14 : Int), tz14, .int .i64 1, bz14, rz14, xz14, yz14, .bool false] 44 (eval_get (hK.get rfl)) (eval_get (hK.get rfl)) (rfl) HB1.out (Nat.le_of_ble_eq_true rfl) info44 ⟨HMVz14.out.oneC, rfl, (FF.oneT HFFz14.out), rfl, HBz14.out.oneC, HRz14.out.oneC, HXz14.out.oneC, HYz14.out.oneC, rfl, trivial⟩ (fun W7 hb9 hx9 => ?_)
 have hs9 := safe_put HB1.out (by kernel_rfl) hb9 hx9
 replace Fv2 := hideP (Fv2.out.safe (by decide) hs9)
 replace HFFz3 := hideP (HFFz3.out.safe (by decide) hs9)
 replace HMVz3 := hideP (HMVz3.out.safe (by decide) hs9)
 replace Fv5 := hideP (Fv5.out.safe (by decide) hs9)
 replace Fv6 := hideP (Fv6.out.safe (by decide) hs9)
 replace Fv7 := hideP (Fv7.out.safe (by decide) hs9)
 replace Fv8 := hideP (Fv8.out.safe (by decide) hs9)
 replace HXz9 := hideP (HXz9.out.safe (by decide) hs9)
 replace HYz9 := hideP (HYz9.out.safe (by decide) hs9)
 replace Fv11 := hideP (Fv11.out.safe (by decide) hs9)
 replace Fv12 := hideP (Fv12.out.safe (by decide) hs9)
 replace Fv13 := hideP (Fv13.out.safe (by decide) hs9)
 replace HFFz14 := hideP (HFFz14.out.safe (by decide) hs9)
 replace HMVz14 := hideP (HMVz14.out.safe (by decide) hs9)
 replace HBz14 := hideP (HBz14.out.safe (by decide) hs9)
 replace HRz14 := hideP (HRz14.out.safe (by decide) hs9)
 replace HXz14 := hideP (HXz14.out.safe (by decide) hs9)
 replace HYz14 := hideP (HYz14.out.safe (by decide) hs9)
 replace HB4 := hideP (HB4.out.but hb9 (Ne.symm nB4_B1))
 replace HB10 := hideP (HB10.out.but hb9 (Ne.symm nB10_B1))
 replace HB := hideP (HB.out.trans (hb9.below.mono LB1.out))
 rw [show putAll _ _ _ = #[mz14, .int .u64 (fz14 : Int), tz14, .int .i64 1, bz14, rz14, xz14, yz14, .bool false] by kernel_rfl] at hx9
 replace HB1 := hideP hx9
 clear hs9 hb9 hx9
 refine HK4.out _ _ ?_
 clear HK4 K4
 refine wp_ret ?_
 exact ret_cell 0 44 B1 (#[mz14, .int .u64 (fz14 : Int), tz14, .int .i64 1, bz14, rz14, xz14, yz14, .bool false]) rfl (hK.get rfl) HB1.out under44 rfl info44 ⟨⟨_, rfl, ⟨_, _, _, _, _, _, _, rfl, HFFz14.out, HMVz14.out, HBz14.out, HRz14.out, HXz14.out, HYz14.out⟩⟩, HB.out⟩

end Go.Proofs.YtcbdbnfgnonacaaGreat
