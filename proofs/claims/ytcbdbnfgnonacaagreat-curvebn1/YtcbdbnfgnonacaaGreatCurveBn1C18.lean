/-
 Regions in a round of a range over a function.
-/
import Derived.Test.YtcbdbnfgnonacaaGreatCurveBn1C17
import Derived.Test.YtcbdbnfgnonacaaGreatCurveBn1C13
set_option maxHeartbeats 4000000
set_option maxRecDepth 100000
namespace Go.Proofs.YtcbdbnfgnonacaaGreat
open Go.RowKit Go.Shelf
theorem Zj7 {V : World} {N : Nat} {v : Value} {k : Nat} {us : List Value} (h : V.ownsRow N 37 1 v k us) (hN : N ≤ V.heap.size) (hk : k ≤ 8) (ty : TypeId) (a : Addr) (c : Nat) {u : Value} (hu : V.cell? a = some u) (h1 : u.oneCell' = true) :
  ∃ v' w', (Builtin.append_ #[40, 40] ty #[v, .slice (some a) 1 c]).run Tryz.prog V = .ok v' w' ∧ w'.ownsRow N 37 1 v' (k + 1) (us ++ [u]) ∧ Below N V w' := by
 obtain ⟨i0, hi, hz0, hz1, hz2⟩ := info_parts ZgP
 obtain ⟨v', w', hr, hO, hgr, _⟩ := run_append_own_wide (P := Tryz.prog) V N 40 ty 37 i0 (.slice none 0 0) 1 24 undL40 hi hz0 hz1 hz2 rfl (by omega) v k us h a 1 c [u] rfl (fun j x hx => by
  cases j with
  | zero => cases hx; exact hu
  | succ j => simp at hx) (fun x hx => by cases List.mem_singleton.1 hx; exact h1) (by unfold maxLen; omega) (by omega) hN
 exact ⟨v', w', hr, hO, (Below.refl _ _).grown hgr hN (fun x hx => (h.lt x hx).1)⟩
theorem ZmR {V : World} {N : Nat} {v ux uy : Value} (h : V.ownsRow N 37 1 v 2 [ux, uy]) : ∃ g c cur, v = .slice (some ⟨g, 0, none⟩) 2 c ∧ N ≤ g ∧ V.heap[g]? = some (.cells cur 37 (0, 0)) ∧ cur[0]? = some ux ∧ cur[1]? = some uy := by
 rcases h with ⟨_, ⟨rfl, h9⟩ | ⟨g, cap, cur, rfl, h1, h2, h3, h4, h5, h6⟩⟩
 ·
  omega
 ·
  rw [Nat.mul_one] at h6
  have e : ∀ j, j < 2 → cur[j]? = (cur.toList.take 2)[j]? := fun j hj => by rw [List.getElem?_take, if_pos hj, Array.getElem?_toList]
  refine ⟨g, cap, cur, rfl, h1, h2, ?_, ?_⟩
  ·
   rw [e 0 (by decide), h6]; rfl
  ·
   rw [e 1 (by decide), h6]; rfl
theorem ZeB {op : Oper} {l : List Value} {ds : List Deferred} {w w' : World} {K : Act → World → Prop} {Q : Exit → Act → World → Prop} (x y : Operand) (d : Nat) (ho : op.op = .call { callee := .builtin .append, args := #[x, y], argTypes := #[40, 40] }) (hd : op.dst = some d) {xv yv v : Value}
  (hx : Act.eval { tmps := l.toArray, defers := ds } x = xv) (hy : Act.eval { tmps := l.toArray, defers := ds } y = yv) (hr : (Builtin.append_ #[40, 40] op.type #[xv, yv]).run Tryz.prog w = .ok v w')
  (h : K { tmps := (l.set d v).toArray, defers := ds } w') : op.wp Tryz.prog { tmps := l.toArray, defers := ds } w K Q := by
 have hk : K (Act.put { tmps := l.toArray, defers := ds } op.dst v) w' := by rw [hd, Zaa]; exact h
 unfold Oper.wp
 simp [execOp, ho, resolve, invoke, builtin, hx, hy, hr, Result.andThen]
 exact hk
abbrev oneV (v : Value) : Prop := v.cells = #[v] ∧ v.oneCell' = true
abbrev KG : YV := .row [.nm 0 [.v 100], .nm 5 [.v 100], .nm 0 [.v 101], .v (.int .i64 1), .nm 1 [.v 102], .nm 6 [], .nm 6 [], .nm 6 [], .nm 6 []]
theorem Zlf : runD [] noY Tryz.f115 [KG, lsE [.v 0], lsE [.v 1]] = some (lsE [.b 0 (.v 0) (.v 1)]) := by kernel_rfl
theorem Zlg {n M : Nat} (hn : 2 ≤ n) (hM : FM n M) (a b B : Nat) (ha : a < M) (hb : b < M) (hBM : B < M) (w : World) (mv tv x4 x5 x6 x7 x8 u v : Value) (fo : Nat) (hF : FF w (.agg #[mv, .int .u64 fo, tv]) n M) (h4 : LL w x4 n [B]) (h5 : oneV x5) (h6 : oneV x6) (h7 : oneV x7) (h8 : oneV x8) (hu : LL w u n [a]) (hv : LL w v n [b]) :
  Calls Tryz.prog 115 #[.agg #[mv, .int .u64 fo, tv, .int .i64 1, x4, x5, x6, x7, x8], u, v] w fun r w' => (∃ v', r = .returned v' ∧ LL w' v' n [(a + b) % M]) ∧ Below w.heap.size w w' := by
 obtain ⟨mv', fo', tv', e, h1, h2, h3⟩ := hF.ex
 cases e
 exact (Zh7 hn hM (v := fun i => if i = 0 then a else if i = 1 then b else B) (bo := fun _ => false) (fun i _ => by show (if i = 0 then a else if i = 1 then b else B) < M; split; exact ha; split; exact hb; exact hBM) [] (by simp) (Zdq w) (by kernel_rfl) Zlf (vs := [.agg #[mv, .int .u64 fo, tv, .int .i64 1, x4, x5, x6, x7, x8], u, v]) ⟨⟨[mv, .int .u64 fo, tv, .int .i64 1, x4, x5, x6, x7, x8], rfl, h1, ⟨fo, rfl, h3⟩, h2, rfl, h4, h5, h6, h7, h8, trivial⟩, hu, hv, trivial⟩).mono fun e w' h => h
def goodD (M X Y B : Nat) (inf : Bool) : Int := if X < M ∧ Y < M ∧ (inf = true → X = 0 ∧ Y = 0) then (if inf = true then 0 else if Y * Y % M = (X * X % M * X % M + B) % M then 0 else 71) else 70
theorem Zj8 {k X Y Z M : Nat} {inf : Bool} (hZ : (k = 0 ∧ Z = X) ∨ (k = 1 ∧ Z = Y)) (h1 : 0 < k → X < M ∧ (inf = true → X = 0)) (h : Z < M ∧ (inf = true → Z = 0)) : (0 < k + 1 → X < M ∧ (inf = true → X = 0)) ∧ (1 < k + 1 → Y < M ∧ (inf = true → Y = 0)) := by
 rcases hZ with ⟨rfl, rfl⟩ | ⟨rfl, rfl⟩
 ·
  exact ⟨fun _ => h, fun h2 => absurd h2 (by decide)⟩
 ·
  exact ⟨fun _ => h1 (by decide), fun _ => h⟩
theorem ZlY {k X Y Z M B : Nat} {inf : Bool} (hZ : (k = 0 ∧ Z = X) ∨ (k = 1 ∧ Z = Y)) (h : ¬ (Z < M ∧ (inf = true → Z = 0))) : goodD M X Y B inf = 70 := by
 unfold goodD
 refine if_neg fun h2 => h ?_
 rcases hZ with ⟨rfl, rfl⟩ | ⟨rfl, rfl⟩
 ·
  exact ⟨h2.1, fun e => (h2.2.2 e).1⟩
 ·
  exact ⟨h2.2.1, fun e => (h2.2.2 e).2⟩
theorem Zgb {n M : Nat} (hn2 : 2 ≤ n) (hM : FM n M) (X Y B : Nat) (inf : Bool) (hX : X < 18446744073709551616 ^ n) (hY : Y < 18446744073709551616 ^ n) (w : World) (mv tv x4 x5 x6 x7 x8 xv yv : Value) (fo : Nat) (hF : FF w (.agg #[mv, .int .u64 fo, tv]) n M) (hm : LW w mv n (limb M)) (hb : LL w x4 n [B]) (hBM : B < M) (h5 : oneV x5) (h6 : oneV x6) (h7 : oneV x7) (h8 : oneV x8) (hx : LL w xv n [X]) (hy : LL w yv n [Y]) :
  Calls Tryz.prog 36 #[.agg #[mv, .int .u64 fo, tv, .int .i64 1, x4, x5, x6, x7, x8], .agg #[xv, yv, .bool inf]] w fun r w' => r = .returned (.int .i64 (goodD M X Y B inf)) ∧ Below w.heap.size w w' := by
 have HM := hideP hM
 have H58 := hideP (And.intro hn2 (And.intro h5 (And.intro h6 (And.intro h7 h8))))
 clear hn2 h5 h6 h7 h8
 have HXY : Hid (X < 18446744073709551616 ^ n ∧ Y < 18446744073709551616 ^ n) := ⟨hX, hY⟩
 have HX := hideP hx
 have HY := hideP hy
 have HF := hideP hF
 have HMV := hideP hm
 have HBB := hideP (And.intro hb hBM)
 obtain ⟨gx, ox, cx, ux, rfl, _, _, ⟨kx, kx2⟩, lx⟩ := hx.one
 obtain ⟨gy, oy, cy, uy, rfl, _, _, ⟨ky, ky2⟩, ly⟩ := hy.one
 have HUX := hideP (And.intro kx (And.intro kx2 lx))
 have HUY := hideP (And.intro ky (And.intro ky2 ly))
 clear hM hX hY hx hy hF hm hb hBM kx kx2 ky ky2 lx ly
 go_enter Tryz.func36, Tryz.ntmps36
 refine Zae (fun K0 HK0 => ?_)
 go_wp2_with fail
 refine HK0.out _ _ ?_
 refine Zaj (fun W0 hW0 => ?_)
 have hB0 : W0.heap[w.heap.size]? = some (.cells #[mv, .int .u64 fo, tv, .int .i64 1, x4, x5, x6, x7, x8] 44 (0, 0)) := by
  rw [hW0]
  exact (Zaf w _ ▸ Zah _ _ (by rw [World.size_alloc]; omega))
 have hB1 : W0.heap[w.heap.size + 1]? = some (.cells #[.slice (some ⟨gx, ox, none⟩) 1 cx, .slice (some ⟨gy, oy, none⟩) 1 cy, .bool inf] 42 (0, 0)) := by
  rw [hW0]
  exact Zat _ _ _
 have HBW : Hid (Below w.heap.size w W0) := by
  show Below _ _ _
  rw [hW0]
  repeat first | exact Below.refl _ _ | (refine Below.alloc ?_ (by simp <;> omega) _)
 have HB0 := hideP hB0
 have HB1 := hideP hB1
 have hl1 := Zab hB1
 have q0 : W0.cell? ⟨w.heap.size + 1, 0, none⟩ = some _ := Zac hB1 rfl
 have q1 : W0.cell? ⟨w.heap.size + 1, 1, none⟩ = some _ := Zac hB1 rfl
 have ca0 : W0.drew.cell? ⟨gx, ox, none⟩ = some ux := (HBW.out.cell (p := ⟨gx, ox, none⟩) HUX.out.1).trans HUX.out.2.1
 have lx0 : LW W0.drew ux n (limb X) := (HUX.out.2.2.moved HBW.out).moved (Below.refl _ _).drew
 obtain ⟨v1, w1, hr1, hO1, hb1⟩ := Zj7 (V := W0.drew) (N := W0.heap.size) (World.ownsRow_nil W0.drew _ _ 1) (Nat.le_refl _) (by decide) 40 ⟨gx, ox, none⟩ cx ca0 lx0.oneC
 have hb01 : Below W0.heap.size W0 w1 := (Below.refl _ _).drew.trans hb1
 have ca1 : w1.cell? ⟨gy, oy, none⟩ = some uy := ((HBW.out.trans (hb01.mono HBW.out.size)).cell (p := ⟨gy, oy, none⟩) HUY.out.1).trans HUY.out.2.1
 have ly1 : LW w1 uy n (limb Y) := (HUY.out.2.2.moved HBW.out).moved hb01
 obtain ⟨v2, w2, hr2, hO2, hb2⟩ := Zj7 (N := W0.heap.size) hO1 hb01.size (by decide) 40 ⟨gy, oy, none⟩ cy ca1 ly1.oneC
 obtain ⟨g, c, cur, rfl, k1, k2, k3, k4⟩ := ZmR hO2
 have HA1 := hideP hr1
 have HA2 := hideP hr2
 have HE1 := hideP hb1
 have HE2 := hideP hb2
 have HROW := hideP (And.intro k1 (And.intro k2 (And.intro k3 k4)))
 clear hW0 hB0 hB1 ca0 lx0 hr1 hO1 hb1 hb01 ca1 ly1 hr2 hO2 hb2 k1 k2 k3 k4
 refine Zae (fun K1 HK1 => ?_)
 refine Zae (fun K2 HK2 => ?_)
 refine Zai (S := fun V => Below W0.heap.size W0 V) (by kernel_rfl) (Below.refl _ _).drew (fun hS => ?_)
 refine tkG 0 hS ?_
 simp only [Zaa, Zs, Zz]
 refine tkI 1 ?_ hS ?_ ?_
 rotate_left
 ·
  intro V hV
  have k0 := (hV.cell (p := ⟨w.heap.size + 1, 0, none⟩) hl1).trans q0
  go_simp
  (try with_reducible rfl)
 simp only [Zaa, Zs, Zz]
 refine tkG 3 hS ?_
 simp only [Zaa, Zs, Zz]
 refine tkI 4 ?_ hS ?_ ?_
 rotate_left
 ·
  intro V hV
  have k0 := (hV.cell (p := ⟨w.heap.size + 1, 1, none⟩) hl1).trans q1
  go_simp
  (try with_reducible rfl)
 simp only [Zaa, Zs, Zz]
 refine tkG 7 hS ?_
 simp only [Zaa, Zs, Zz]
 refine rd1 2 (fun K hK => ?_)
 refine ZeB _ _ 9 rfl rfl rfl rfl HA1.out ?_
 refine hK.out _ _ (hS.trans HE1.out) (fun hS => ?_)
 clear hK K
 refine rd1 5 (fun K hK => ?_)
 refine ZeB _ _ 12 rfl rfl rfl rfl HA2.out ?_
 refine hK.out _ _ (hS.trans HE2.out) (fun hS => ?_)
 clear hK K
 refine rd1 6 (fun K hK => ?_)
 go_simp
 refine hK.out _ _ hS (fun hS => ?_)
 clear hK K
 refine wpAnyH_done (by kernel_rfl) ?_ _
 refine HK2.out _ _ ?_
 clear HK2
 have HS := hideP hS
 clear hS
 obtain ⟨gm, om, cm, hme, -, -, -, -⟩ := HMV.out.ex
 subst hme
 go_wp2_with fail
 go_loopw [14] (fun i wr => ∃ k : Nat, k ≤ 2 ∧ i = .int .i64 k ∧ Hid (Below w2.heap.size w2 wr ∧ (0 < k → X < M ∧ (inf = true → X = 0)) ∧ (1 < k → Y < M ∧ (inf = true → Y = 0)))) (fun i _ => 2 - (intOf i).toNat)
 case atStart => exact ⟨0, Nat.zero_le _, rfl, ⟨Below.refl _ _, fun h => absurd h (by decide), fun h => absurd h (by decide)⟩⟩
 case round =>
  obtain ⟨k, hk, rfl, HI⟩ := hrel
  have hbw : Below w.heap.size w w2 := HBW.out.trans (HS.out.mono HBW.out.size)
  have hbr : Below w.heap.size w wr := hbw.trans (HI.out.1.mono hbw.size)
  have hb0 : Below W0.heap.size W0 wr := HS.out.trans (HI.out.1.mono HS.out.size)
  by_cases hlt : k < 2
  ·
   obtain ⟨u, Z, hu, hlu, hz, hZ⟩ : ∃ u Z, wr.cell? ⟨g, k, none⟩ = some u ∧ LW wr u n (limb Z) ∧ Z < 18446744073709551616 ^ n ∧ ((k = 0 ∧ Z = X) ∨ (k = 1 ∧ Z = Y)) := by
    have hg := Zab HROW.out.2.1
    match k, hlt with
    | 0, _ => exact ⟨ux, X, (HI.out.1.cell (p := ⟨g, 0, none⟩) hg).trans (Zac HROW.out.2.1 HROW.out.2.2.1), HUX.out.2.2.moved hbr, HXY.out.1, Or.inl ⟨rfl, rfl⟩⟩
    | 1, _ => exact ⟨uy, Y, (HI.out.1.cell (p := ⟨g, 1, none⟩) hg).trans (Zac HROW.out.2.1 HROW.out.2.2.2), HUY.out.2.2.moved hbr, HXY.out.2, Or.inr ⟨rfl, rfl⟩⟩
   have hlt0 := ZeV HM.out.n8 Z M hz HM.out.lt wr u _ hlu (HMV.out.moved hbr)
   have HLU := hideP hlu
   have HZ := hideP hZ
   have HZR := hideP hz
   have HB := hideP hb0
   have HKL := hideP hlt
   have e4 : IntKind.i64.wrap ((k : Int) + 1) = (k : Int) + 1 := by rw [IntKind.wrap_i64]; omega
   have hlt' : (k : Int) < 2 := by omega
   have m0 : wr.cell? ⟨w.heap.size, 0, none⟩ = some _ := Zac ((hb0.block _ (Zab HB0.out)).trans HB0.out) rfl
   obtain ⟨g5, o5, c5, rfl, -, -, -, -⟩ := hlu.ex
   clear hk hbw hbr hb0 hz hlu hZ hlt
   by_cases hZM : Z < M
   ·
    rw [decide_eq_true hZM] at hlt0
    have HLT := hideP hlt0
    have HZM := hideP hZM
    clear hlt0 hZM
    cases inf with
    | false =>
     go_wp2_with (first | (go_at_call 112; refine HLT.out.mono ?_; rintro e wL ⟨rfl, hbL⟩; have cinf : wL.cell? ⟨w.heap.size + 1, 2, none⟩ = some (.bool false) := Zac (((HB.out.trans (hbL.mono HB.out.size)).block _ (Zab HB1.out)).trans HB1.out) rfl; have HBL := hideP hbL; clear hbL))
     refine ⟨⟨k + 1, by have := HKL.out; omega, by go_num, HI.out.1.trans (HBL.out.mono HI.out.1.size), Zj8 HZ.out HI.out.2.1 ⟨HZM.out, fun e => by cases e⟩⟩, ?_⟩
     have := HKL.out
     simp [intOf] <;> omega
    | true =>
     by_cases hZ0 : Z = 0
     ·
      have HZ0 := hideP hZ0
      have hdz : decide (Z = 0) = true := decide_eq_true hZ0
      clear hZ0
      go_wp2_with (first | (go_at_call 112; refine HLT.out.mono ?_; rintro e wL ⟨rfl, hbL⟩; have cinf : wL.cell? ⟨w.heap.size + 1, 2, none⟩ = some (.bool true) := Zac (((HB.out.trans (hbL.mono HB.out.size)).block _ (Zab HB1.out)).trans HB1.out) rfl; have HBL := hideP hbL; clear hbL) | (go_at_call 113; refine (Zei HM.out.n8 Z HZR.out wL _ (HLU.out.moved HBL.out)).mono ?_; rintro e wZ ⟨rfl, hbZ⟩; have HBZ := hideP hbZ; clear hbZ))
      refine ⟨⟨k + 1, by have := HKL.out; omega, by go_num, ?_⟩, ?_⟩
      ·
       have hb2 := HI.out.1.trans (HBL.out.mono HI.out.1.size)
       exact ⟨hb2.trans (HBZ.out.mono hb2.size), by simpa using Zj8 (inf := true) HZ.out (by simpa using HI.out.2.1) ⟨HZM.out, fun _ => HZ0.out⟩⟩
      ·
       have := HKL.out
       simp [intOf] <;> omega
     ·
      have HZ0 := hideP hZ0
      have hdz : decide (Z = 0) = false := decide_eq_false hZ0
      clear hZ0
      go_wp2_with (first | (go_at_call 112; refine HLT.out.mono ?_; rintro e wL ⟨rfl, hbL⟩; have cinf : wL.cell? ⟨w.heap.size + 1, 2, none⟩ = some (.bool true) := Zac (((HB.out.trans (hbL.mono HB.out.size)).block _ (Zab HB1.out)).trans HB1.out) rfl; have HBL := hideP hbL; clear hbL) | (go_at_call 113; refine (Zei HM.out.n8 Z HZR.out wL _ (HLU.out.moved HBL.out)).mono ?_; rintro e wZ ⟨rfl, hbZ⟩; have HBZ := hideP hbZ; clear hbZ))
      go_ret
      have hb2 := HB.out.trans (HBL.out.mono HB.out.size)
      exact ⟨by rw [ZlY HZ.out (fun h => HZ0.out (h.2 rfl))] <;> rfl, HBW.out.trans ((hb2.trans (HBZ.out.mono hb2.size)).mono HBW.out.size)⟩
   ·
    rw [decide_eq_false hZM] at hlt0
    have HLT := hideP hlt0
    have HZM := hideP hZM
    clear hlt0 hZM
    go_wp2_with (first | (go_at_call 112; refine HLT.out.mono ?_; rintro e wL ⟨rfl, hbL⟩; have cinf : wL.cell? ⟨w.heap.size + 1, 2, none⟩ = some (.bool inf) := Zac (((HB.out.trans (hbL.mono HB.out.size)).block _ (Zab HB1.out)).trans HB1.out) rfl; have HBL := hideP hbL; clear hbL))
    go_ret
    exact ⟨by rw [ZlY HZ.out (fun h => HZM.out h.1)] <;> rfl, HBW.out.trans ((HB.out.trans (HBL.out.mono HB.out.size)).mono HBW.out.size)⟩
  ·
   have hk2 : k = 2 := by omega
   subst hk2
   obtain ⟨hX, hX0⟩ := HI.out.2.1 (by decide)
   obtain ⟨hY, hY0⟩ := HI.out.2.2 (by decide)
   have HOK := hideP (And.intro (And.intro hX hX0) (And.intro hY hY0))
   have HB := hideP hb0
   have cinf : wr.cell? ⟨w.heap.size + 1, 2, none⟩ = some (.bool inf) := Zac ((hb0.block _ (Zab HB1.out)).trans HB1.out) rfl
   clear hk hbw hbr hb0 hX hX0 hY hY0 HI
   cases inf with
   | true =>
    go_wp2_with fail
    refine HK1.out _ _ ?_
    go_wp2_with fail
    go_ret
    have hg : goodD M X Y B true = 0 := by
     unfold goodD
     rw [if_pos ⟨HOK.out.1.1, HOK.out.2.1, fun _ => ⟨by simpa using HOK.out.1.2, by simpa using HOK.out.2.2⟩⟩, if_pos rfl]
    exact ⟨by rw [hg] <;> rfl, HBW.out.trans (HB.out.mono HBW.out.size)⟩
   | false =>
    go_wp2_with fail
    refine HK1.out _ _ ?_
    refine Zae (fun K3 HK3 => ?_)
    go_wp2_with fail
    refine HK3.out _ _ ?_
    clear HK3
    have hl0 : w.heap.size < wr.heap.size := Nat.lt_of_lt_of_le (Zab HB0.out) HB.out.size
    have hl1 : w.heap.size + 1 < wr.heap.size := Nat.lt_of_lt_of_le (Zab HB1.out) HB.out.size
    have HBR := hideP (HBW.out.trans (HB.out.mono HBW.out.size))
    have hr0 : wr.heap[w.heap.size]? = some (.cells #[.slice (some ⟨gm, om, none⟩) n cm, .int .u64 fo, tv, .int .i64 1, x4, x5, x6, x7, x8] 44 (0, 0)) := (HB.out.block _ (Zab HB0.out)).trans HB0.out
    have hr1 : wr.heap[w.heap.size + 1]? = some (.cells #[.slice (some ⟨gx, ox, none⟩) 1 cx, .slice (some ⟨gy, oy, none⟩) 1 cy, .bool false] 42 (0, 0)) := (HB.out.block _ (Zab HB1.out)).trans HB1.out
    have p0 : wr.cell? ⟨w.heap.size, 0, none⟩ = some _ := Zac hr0 rfl
    have p1 : wr.cell? ⟨w.heap.size, 1, none⟩ = some _ := Zac hr0 rfl
    have p2 : wr.cell? ⟨w.heap.size, 2, none⟩ = some _ := Zac hr0 rfl
    have p3 : wr.cell? ⟨w.heap.size, 3, none⟩ = some _ := Zac hr0 rfl
    have p4 : wr.cell? ⟨w.heap.size, 4, none⟩ = some _ := Zac hr0 rfl
    have p5 : wr.cell? ⟨w.heap.size, 5, none⟩ = some _ := Zac hr0 rfl
    have p6 : wr.cell? ⟨w.heap.size, 6, none⟩ = some _ := Zac hr0 rfl
    have p7 : wr.cell? ⟨w.heap.size, 7, none⟩ = some _ := Zac hr0 rfl
    have p8 : wr.cell? ⟨w.heap.size, 8, none⟩ = some _ := Zac hr0 rfl
    have q0 : wr.cell? ⟨w.heap.size + 1, 0, none⟩ = some _ := Zac hr1 rfl
    have q1 : wr.cell? ⟨w.heap.size + 1, 1, none⟩ = some _ := Zac hr1 rfl
    have HCF : Hid (CF w (.agg #[.slice (some ⟨gm, om, none⟩) n cm, .int .u64 fo, tv, .int .i64 1, x4, x5, x6, x7, x8]) n M 1) := ⟨_, fo, tv, x4, x5, x6, x7, x8, rfl, HF.out, HMV.out⟩
    obtain ⟨g4, o4, c4, he4, -⟩ := HBB.out.1.ex
    subst he4
    clear hr0 hr1 cinf
    obtain ⟨sb, hsb⟩ : ∃ sb : Bool, sb = decide ([Y * Y % M] = [(X * X % M * X % M + B) % M]) := ⟨_, rfl⟩
    have HSB := hideP hsb
    clear hsb
    refine Zae (fun K4 HK4 => ?_)
    refine Zae (fun K5 HK5 => ?_)
    refine Zai (S := fun V => Below wr.heap.size wr V) (by kernel_rfl) (Below.refl _ _).drew (fun hS => ?_)
    refine tkI 0 ?_ hS ?_ ?_
    rotate_left
    ·
     intro V hV
     have k0 := (hV.cell (p := ⟨w.heap.size, 0, none⟩) hl0).trans p0
     have k1 := (hV.cell (p := ⟨w.heap.size, 1, none⟩) hl0).trans p1
     have k2 := (hV.cell (p := ⟨w.heap.size, 2, none⟩) hl0).trans p2
     have k3 := (hV.cell (p := ⟨w.heap.size, 3, none⟩) hl0).trans p3
     have k4 := (hV.cell (p := ⟨w.heap.size, 4, none⟩) hl0).trans p4
     have k5 := (hV.cell (p := ⟨w.heap.size, 5, none⟩) hl0).trans p5
     have k6 := (hV.cell (p := ⟨w.heap.size, 6, none⟩) hl0).trans p6
     have k7 := (hV.cell (p := ⟨w.heap.size, 7, none⟩) hl0).trans p7
     have k8 := (hV.cell (p := ⟨w.heap.size, 8, none⟩) hl0).trans p8
     go_simp
     (try with_reducible rfl)
    simp only [Zaa, Zs, Zz]
    refine tkG 1 hS ?_
    simp only [Zaa, Zs, Zz]
    refine tkI 2 ?_ hS ?_ ?_
    rotate_left
    ·
     intro V hV
     have k0 := (hV.cell (p := ⟨w.heap.size + 1, 1, none⟩) hl1).trans q1
     go_simp
     (try with_reducible rfl)
    simp only [Zaa, Zs, Zz]
    refine tkG 3 hS ?_
    simp only [Zaa, Zs, Zz]
    refine tkI 4 ?_ hS ?_ ?_
    rotate_left
    ·
     intro V hV
     have k0 := (hV.cell (p := ⟨w.heap.size + 1, 1, none⟩) hl1).trans q1
     go_simp
     (try with_reducible rfl)
    simp only [Zaa, Zs, Zz]
    refine tkI 6 ?_ hS ?_ ?_
    rotate_left
    ·
     intro V hV
     have k0 := (hV.cell (p := ⟨w.heap.size, 0, none⟩) hl0).trans p0
     have k1 := (hV.cell (p := ⟨w.heap.size, 1, none⟩) hl0).trans p1
     have k2 := (hV.cell (p := ⟨w.heap.size, 2, none⟩) hl0).trans p2
     have k3 := (hV.cell (p := ⟨w.heap.size, 3, none⟩) hl0).trans p3
     have k4 := (hV.cell (p := ⟨w.heap.size, 4, none⟩) hl0).trans p4
     have k5 := (hV.cell (p := ⟨w.heap.size, 5, none⟩) hl0).trans p5
     have k6 := (hV.cell (p := ⟨w.heap.size, 6, none⟩) hl0).trans p6
     have k7 := (hV.cell (p := ⟨w.heap.size, 7, none⟩) hl0).trans p7
     have k8 := (hV.cell (p := ⟨w.heap.size, 8, none⟩) hl0).trans p8
     go_simp
     (try with_reducible rfl)
    simp only [Zaa, Zs, Zz]
    refine tkI 7 ?_ hS ?_ ?_
    rotate_left
    ·
     intro V hV
     have k0 := (hV.cell (p := ⟨w.heap.size, 0, none⟩) hl0).trans p0
     have k1 := (hV.cell (p := ⟨w.heap.size, 1, none⟩) hl0).trans p1
     have k2 := (hV.cell (p := ⟨w.heap.size, 2, none⟩) hl0).trans p2
     have k3 := (hV.cell (p := ⟨w.heap.size, 3, none⟩) hl0).trans p3
     have k4 := (hV.cell (p := ⟨w.heap.size, 4, none⟩) hl0).trans p4
     have k5 := (hV.cell (p := ⟨w.heap.size, 5, none⟩) hl0).trans p5
     have k6 := (hV.cell (p := ⟨w.heap.size, 6, none⟩) hl0).trans p6
     have k7 := (hV.cell (p := ⟨w.heap.size, 7, none⟩) hl0).trans p7
     have k8 := (hV.cell (p := ⟨w.heap.size, 8, none⟩) hl0).trans p8
     go_simp
     (try with_reducible rfl)
    simp only [Zaa, Zs, Zz]
    refine tkI 8 ?_ hS ?_ ?_
    rotate_left
    ·
     intro V hV
     have k0 := (hV.cell (p := ⟨w.heap.size, 0, none⟩) hl0).trans p0
     have k1 := (hV.cell (p := ⟨w.heap.size, 1, none⟩) hl0).trans p1
     have k2 := (hV.cell (p := ⟨w.heap.size, 2, none⟩) hl0).trans p2
     have k3 := (hV.cell (p := ⟨w.heap.size, 3, none⟩) hl0).trans p3
     have k4 := (hV.cell (p := ⟨w.heap.size, 4, none⟩) hl0).trans p4
     have k5 := (hV.cell (p := ⟨w.heap.size, 5, none⟩) hl0).trans p5
     have k6 := (hV.cell (p := ⟨w.heap.size, 6, none⟩) hl0).trans p6
     have k7 := (hV.cell (p := ⟨w.heap.size, 7, none⟩) hl0).trans p7
     have k8 := (hV.cell (p := ⟨w.heap.size, 8, none⟩) hl0).trans p8
     go_simp
     (try with_reducible rfl)
    simp only [Zaa, Zs, Zz]
    refine tkG 9 hS ?_
    simp only [Zaa, Zs, Zz]
    refine tkI 10 ?_ hS ?_ ?_
    rotate_left
    ·
     intro V hV
     have k0 := (hV.cell (p := ⟨w.heap.size + 1, 0, none⟩) hl1).trans q0
     go_simp
     (try with_reducible rfl)
    simp only [Zaa, Zs, Zz]
    refine tkG 11 hS ?_
    simp only [Zaa, Zs, Zz]
    refine tkI 12 ?_ hS ?_ ?_
    rotate_left
    ·
     intro V hV
     have k0 := (hV.cell (p := ⟨w.heap.size + 1, 0, none⟩) hl1).trans q0
     go_simp
     (try with_reducible rfl)
    simp only [Zaa, Zs, Zz]
    refine tkG 14 hS ?_
    simp only [Zaa, Zs, Zz]
    refine tkI 15 ?_ hS ?_ ?_
    rotate_left
    ·
     intro V hV
     have k0 := (hV.cell (p := ⟨w.heap.size + 1, 0, none⟩) hl1).trans q0
     go_simp
     (try with_reducible rfl)
    simp only [Zaa, Zs, Zz]
    refine tkG 17 hS ?_
    simp only [Zaa, Zs, Zz]
    refine tkI 18 ?_ hS ?_ ?_
    rotate_left
    ·
     intro V hV
     have k0 := (hV.cell (p := ⟨w.heap.size, 4, none⟩) hl0).trans p4
     go_simp
     (try with_reducible rfl)
    simp only [Zaa, Zs, Zz]
    refine rd1 5 (fun K hK => ?_)
    go_simp
    refine (Zej HM.out Y Y HOK.out.2.1 HOK.out.2.1 _ _ _ _ (HCF.out.moved (HBR.out.trans (hS.mono HBR.out.size))) (HY.out.moved (HBR.out.trans (hS.mono HBR.out.size))) (HY.out.moved (HBR.out.trans (hS.mono HBR.out.size)))).mono ?_
    rintro e U1 ⟨⟨rav, rfl, hra⟩, hbc⟩
    have HBra := hideP hbc
    have Hra := hideP hra
    obtain ⟨rag, rao, rac, rfl, -, -, -, -⟩ := hra.ex
    clear hra
    refine hK.out _ _ (hS.trans (hbc.mono hS.size)) (fun hS => ?_)
    clear hK K hbc
    refine rd1 13 (fun K hK => ?_)
    go_simp
    refine (Zej HM.out X X HOK.out.1.1 HOK.out.1.1 _ _ _ _ (HCF.out.moved (HBR.out.trans (hS.mono HBR.out.size))) (HX.out.moved (HBR.out.trans (hS.mono HBR.out.size))) (HX.out.moved (HBR.out.trans (hS.mono HBR.out.size)))).mono ?_
    rintro e U2 ⟨⟨rbv, rfl, hrb⟩, hbc⟩
    have HBrb := hideP hbc
    have Hrb := hideP hrb
    obtain ⟨rbg, rbo, rbc, rfl, -, -, -, -⟩ := hrb.ex
    clear hrb
    refine hK.out _ _ (hS.trans (hbc.mono hS.size)) (fun hS => ?_)
    clear hK K hbc
    refine rd1 16 (fun K hK => ?_)
    go_simp
    refine (Zej HM.out (X * X % M) X (Nat.mod_lt _ HM.out.pos) HOK.out.1.1 _ _ _ _ (HCF.out.moved (HBR.out.trans (hS.mono HBR.out.size))) Hrb.out (HX.out.moved (HBR.out.trans (hS.mono HBR.out.size)))).mono ?_
    rintro e U3 ⟨⟨rcv, rfl, hrc⟩, hbc⟩
    have HBrc := hideP hbc
    have Hrc := hideP hrc
    obtain ⟨rcg, rco, rcc, rfl, -, -, -, -⟩ := hrc.ex
    clear hrc
    refine hK.out _ _ (hS.trans (hbc.mono hS.size)) (fun hS => ?_)
    clear hK K hbc
    refine rd1 19 (fun K hK => ?_)
    go_simp
    refine (Zlg H58.out.1 HM.out (X * X % M * X % M) B B (Nat.mod_lt _ HM.out.pos) HBB.out.2 HBB.out.2 _ _ _ _ _ _ _ _ _ _ _ (HF.out.moved (HBR.out.trans (hS.mono HBR.out.size))) (HBB.out.1.moved (HBR.out.trans (hS.mono HBR.out.size))) H58.out.2.1 H58.out.2.2.1 H58.out.2.2.2.1 H58.out.2.2.2.2 Hrc.out (HBB.out.1.moved (HBR.out.trans (hS.mono HBR.out.size)))).mono ?_
    rintro e U4 ⟨⟨rdv, rfl, hrd⟩, hbc⟩
    have HBrd := hideP hbc
    have Hrd := hideP hrd
    obtain ⟨rdg, rdo, rdc, rfl, -, -, -, -⟩ := hrd.ex
    clear hrd
    refine hK.out _ _ (hS.trans (hbc.mono hS.size)) (fun hS => ?_)
    clear hK K hbc
    refine rd1 20 (fun K hK => ?_)
    go_simp
    refine (Zfw HM.out.n8 [Y * Y % M] [(X * X % M * X % M + B) % M] (by simp) rfl (fun z hz => by cases List.mem_singleton.1 hz; exact Nat.lt_trans (Nat.mod_lt _ HM.out.pos) HM.out.lt) (fun z hz => by cases List.mem_singleton.1 hz; exact Nat.lt_trans (Nat.mod_lt _ HM.out.pos) HM.out.lt) _ _ _ (((Hra.out.moved HBrb.out).moved HBrc.out).moved HBrd.out) Hrd.out).mono ?_
    rintro e U5 ⟨he, hbc⟩
    rw [← HSB.out] at he
    subst he
    refine hK.out _ _ (hS.trans (hbc.mono hS.size)) (fun hS => ?_)
    clear hK K hbc
    refine tkG 21 hS ?_
    simp only [Zaa, Zs, Zz]
    refine wpAnyH_done (by kernel_rfl) ?_ _
    refine HK5.out _ _ ?_
    clear HK5
    have HSE := hideP (HBR.out.trans (hS.mono HBR.out.size))
    clear hS
    cases sb with
    | true =>
     have hg : goodD M X Y B false = 0 := by
      unfold goodD
      rw [if_pos ⟨HOK.out.1.1, HOK.out.2.1, fun e => by cases e⟩, if_neg (by decide), if_pos]
      have h := of_decide_eq_true HSB.out.symm
      exact (List.cons.inj h).1
     have HG := hideP hg
     clear hg
     go_wp2_with fail
     refine HK4.out _ _ ?_
     go_wp2_with fail
     go_ret
     exact ⟨by rw [HG.out] <;> rfl, HSE.out⟩
    | false =>
     have hg : goodD M X Y B false = 71 := by
      unfold goodD
      rw [if_pos ⟨HOK.out.1.1, HOK.out.2.1, fun e => by cases e⟩, if_neg (by decide), if_neg]
      intro h
      exact of_decide_eq_false HSB.out.symm (by rw [h])
     have HG := hideP hg
     clear hg
     go_wp2_with fail
     go_ret
     exact ⟨by rw [HG.out] <;> rfl, HSE.out⟩
structure DCv (w : World) (cv : Value) (n M B R bx by_ : Nat) : Prop where
 ex : ∃ (mv : Value) (fo : Nat) (tv b r x y : Value), cv = .agg #[mv, .int .u64 fo, tv, .int .i64 1, b, r, x, y, .bool false] ∧ FF w (.agg #[mv, .int .u64 fo, tv]) n M ∧ LL w b n [B] ∧ LW w r 4 (limb R) ∧ LL w x n [bx] ∧ LL w y n [by_]
theorem DCv.moved {w w' : World} {cv : Value} {n M B R bx by_ : Nat} (h : DCv w cv n M B R bx by_) (hb : Below w.heap.size w w') : DCv w' cv n M B R bx by_ := by
 obtain ⟨mv, fo, tv, b, r, x, y, e, h1, h2, h3, h4, h5⟩ := h.ex
 exact ⟨mv, fo, tv, b, r, x, y, e, h1.moved hb, h2.moved hb, h3.moved hb, h4.moved hb, h5.moved hb⟩
structure JD (w : World) (v : Value) (n : Nat) (s : Nat × Nat × Nat) : Prop where
 ex : ∃ a b c, v = .agg #[a, b, c] ∧ LL w a n [s.1] ∧ LL w b n [s.2.1] ∧ LL w c n [s.2.2]
theorem JD.moved {w w' : World} {v : Value} {n : Nat} {s : Nat × Nat × Nat} (h : JD w v n s) (hb : Below w.heap.size w w') : JD w' v n s := by
 obtain ⟨a, b, c, e, h1, h2, h3⟩ := h.ex
 exact ⟨a, b, c, e, h1.moved hb, h2.moved hb, h3.moved hb⟩
structure QD (w : World) (v : Value) (n x y : Nat) (i : Bool) : Prop where
 ex : ∃ a b, v = .agg #[a, b, .bool i] ∧ LL w a n [x] ∧ LL w b n [y]
theorem QD.moved {w w' : World} {v : Value} {n x y : Nat} {i : Bool} (h : QD w v n x y i) (hb : Below w.heap.size w w') : QD w' v n x y i := by
 obtain ⟨a, b, e, h1, h2⟩ := h.ex
 exact ⟨a, b, e, h1.moved hb, h2.moved hb⟩
abbrev vT (s : Nat × Nat × Nat) (px py B R bx by_ : Nat) : Nat → Nat := fun i => if i = 0 then s.1 else if i = 1 then s.2.1 else if i = 2 then s.2.2 else if i = 3 then px else if i = 4 then py else if i = 102 then B else if i = 110 then R else if i = 111 then bx else if i = 113 then by_ else 0
theorem Zlh {s : Nat × Nat × Nat} {px py B R bx by_ M : Nat} (h0 : 0 < M) (hs : s.1 < M ∧ s.2.1 < M ∧ s.2.2 < M) (hp : px < M ∧ py < M) (hB : B < M ∧ bx < M ∧ by_ < M) (i : Nat) (hi : flD i = true) : vT s px py B R bx by_ i < M := by
 have h110 : i ≠ 110 := fun e => by subst e; revert hi; decide
 unfold vT
 repeat' split
 all_goals first | exact hs.1 | exact hs.2.1 | exact hs.2.2 | exact hp.1 | exact hp.2 | exact hB.1 | exact hB.2.1 | exact hB.2.2 | exact h0 | exact absurd ‹i = 110› h110
theorem DCv.vd {w : World} {cv : Value} {n M B R bx by_ : Nat} {hn : 2 ≤ n} {s : Nat × Nat × Nat} {px py : Nat} {bo : Nat → Bool} (h : DCv w cv n M B R bx by_) : (bD n hn M (vT s px py B R bx by_) bo).vd (fun _ => 0) w K1 cv := by
 obtain ⟨mv, fo, tv, b, r, x, y, rfl, hF, h2, h3, h4, h5⟩ := h.ex
 obtain ⟨mv', fo', tv', e, h6, h7, h8⟩ := hF.ex
 cases e
 exact ⟨[mv, .int .u64 fo, tv, .int .i64 1, b, r, x, y, .bool false], rfl, h6, ⟨fo, rfl, h8⟩, h7, rfl, h2, h3, h4, h5, rfl, trivial⟩
theorem JD.vd {w : World} {v : Value} {n M B R bx by_ : Nat} {hn : 2 ≤ n} {s : Nat × Nat × Nat} {px py : Nat} {bo : Nat → Bool} (h : JD w v n s) : (bD n hn M (vT s px py B R bx by_) bo).vd (fun _ => 0) w jP v := by
 obtain ⟨a, b, c, rfl, h1, h2, h3⟩ := h.ex
 exact ⟨[a, b, c], rfl, h1, h2, h3, trivial⟩
theorem QD.vd {w : World} {v : Value} {n M B R bx by_ : Nat} {hn : 2 ≤ n} {s : Nat × Nat × Nat} {px py : Nat} {bo : Nat → Bool} (h : QD w v n px py false) : (bD n hn M (vT s px py B R bx by_) bo).vd (fun _ => 0) w Q0 v := by
 obtain ⟨a, b, rfl, h1, h2⟩ := h.ex
 exact ⟨[a, b, .bool false], rfl, h1, h2, rfl, trivial⟩
theorem JD.of {w : World} {v : Value} {n M : Nat} {hn : 2 ≤ n} {va : Nat → Nat} {bo : Nat → Bool} {x y z : EX} (h : (bD n hn M va bo).vd (fun _ => 0) w (jE x y z) v) : JD w v n (dD n M va bo x, dD n M va bo y, dD n M va bo z) := by
 obtain ⟨l, rfl, h⟩ := h
 match l, h with
 | [a, b, c], ⟨h1, h2, h3, _⟩ => exact ⟨a, b, c, rfl, h1, h2, h3⟩
section
variable (M : Nat)
def mD (a b : Nat) : Nat := a * b % M
def aD (a b : Nat) : Nat := (a + b) % M
def sD (a b : Nat) : Nat := (a + (M - b)) % M
def dTw (s : Nat × Nat × Nat) : Nat × Nat × Nat :=
 let x := s.1
 let y := s.2.1
 let z := s.2.2
 if z = 0 ∨ y = 0 then (x, y, 0) else
  let b := mD M y y
  let d1 := mD M x b
  let d2 := aD M d1 d1
  let d := aD M d2 d2
  let a := mD M x x
  let e := aD M (aD M a a) a
  let x3 := sD M (mD M e e) (aD M d d)
  let f1 := mD M b b
  let f2 := aD M f1 f1
  let f3 := aD M f2 f2
  let f := aD M f3 f3
  (x3, sD M (mD M e (sD M d x3)) f, aD M (mD M y z) (mD M y z))
def dPl (s : Nat × Nat × Nat) (qx qy : Nat) : Nat × Nat × Nat :=
 let x := s.1
 let y := s.2.1
 let z := s.2.2
 if z = 0 then (qx, qy, 1) else
  let zz := mD M z z
  let h := sD M (mD M qx zz) x
  let r := sD M (mD M qy (mD M zz z)) y
  if h = 0 then (if r = 0 then dTw M s else (x, y, 0)) else
   let hh := mD M h h
   let hhh := mD M hh h
   let v := mD M x hh
   let x3 := sD M (sD M (mD M r r) hhh) (aD M v v)
   (x3, sD M (mD M r (sD M v x3)) (mD M y hhh), mD M z h)
end
section
variable {n M B R bx by_ : Nat} (hn : 2 ≤ n) (hM : FM n M) (hB : B < M ∧ bx < M ∧ by_ < M) {s : Nat × Nat × Nat} (hs : s.1 < M ∧ s.2.1 < M ∧ s.2.2 < M) {w : World} {cv v : Value} (hC : DCv w cv n M B R bx by_) (hJ : JD w v n s)
include hn hM hB hs hC hJ
theorem ZgW (G : List (CX × Bool)) (hG : ∀ x ∈ G, (alD n M (vT s 0 0 B R bx by_) (fun _ => false)).cx x.1 = x.2) {x y z : EX} (h : runZ G Tryz.f176 [K1, jP] = some (jE x y z)) : Calls Tryz.prog 176 #[cv, v] w fun e w' => (∃ u, e = .returned u ∧ JD w' u n (dD n M (vT s 0 0 B R bx by_) (fun _ => false) x, dD n M (vT s 0 0 B R bx by_) (fun _ => false) y, dD n M (vT s 0 0 B R bx by_) (fun _ => false) z)) ∧ Below w.heap.size w w' :=
 (Zga hn hM (Zlh hM.pos hs ⟨hM.pos, hM.pos⟩ hB) G hG (by kernel_rfl) h (vs := [cv, v]) ⟨hC.vd, hJ.vd, trivial⟩).mono fun e w' h => ⟨by obtain ⟨⟨u, e, h⟩, _⟩ := h; exact ⟨u, e, JD.of h⟩, h.2⟩
theorem ZhT : Calls Tryz.prog 176 #[cv, v] w fun e w' => (∃ u, e = .returned u ∧ JD w' u n (dTw M s)) ∧ Below w.heap.size w w' := by
 by_cases hz : s.2.2 = 0
 ·
  have := ZgW hn hM hB hs hC hJ [(zrE (.v 2), true)] (by intro x hx; cases List.mem_singleton.1 hx; exact decide_eq_true hz) ZgS
  unfold dTw
  rw [if_pos (Or.inl hz)]
  exact this
 ·
  by_cases hy : s.2.1 = 0
  ·
   have := ZgW hn hM hB hs hC hJ [(zrE (.v 2), false), (zrE (.v 1), true)] (by intro x hx; rcases List.mem_cons.1 hx with rfl | hx; exact decide_eq_false hz; cases List.mem_singleton.1 hx; exact decide_eq_true hy) ZgT
   unfold dTw
   rw [if_pos (Or.inr hy)]
   exact this
  ·
   have := ZgW hn hM hB hs hC hJ [(zrE (.v 2), false), (zrE (.v 1), false)] (by intro x hx; rcases List.mem_cons.1 hx with rfl | hx; exact decide_eq_false hz; cases List.mem_singleton.1 hx; exact decide_eq_false hy) ZhP
   unfold dTw
   rw [if_neg (fun h => h.elim hz hy)]
   exact this
omit hC hJ in
theorem plus_G {qx qy : Nat} (hq : qx < M ∧ qy < M) (hC : DCv w cv n M B R bx by_) (hJ : JD w v n s) {q : Value} (hQ : QD w q n qx qy false) (G : List (CX × Bool)) (hG : ∀ x ∈ G, (alD n M (vT s qx qy B R bx by_) (fun _ => false)).cx x.1 = x.2) {x y z : EX} (h : runZ G Tryz.f177 [K1, jP, Q0] = some (jE x y z) ∨ runO G Tryz.f177 [K1, jP, Q0] = some (jE x y z)) : Calls Tryz.prog 177 #[cv, v, q] w fun e w' => (∃ u, e = .returned u ∧ JD w' u n (dD n M (vT s qx qy B R bx by_) (fun _ => false) x, dD n M (vT s qx qy B R bx by_) (fun _ => false) y, dD n M (vT s qx qy B R bx by_) (fun _ => false) z)) ∧ Below w.heap.size w w' := by
 rcases h with h | h
 ·
  exact (Zga hn hM (Zlh hM.pos hs hq hB) G hG (by kernel_rfl) h (vs := [cv, v, q]) ⟨hC.vd, hJ.vd, hQ.vd, trivial⟩).mono fun e w' h => ⟨by obtain ⟨⟨u, e, h⟩, _⟩ := h; exact ⟨u, e, JD.of h⟩, h.2⟩
 ·
  exact (call_O hn hM (Zlh hM.pos hs hq hB) G hG (by kernel_rfl) h (vs := [cv, v, q]) ⟨hC.vd, hJ.vd, hQ.vd, trivial⟩).mono fun e w' h => ⟨by obtain ⟨⟨u, e, h⟩, _⟩ := h; exact ⟨u, e, JD.of h⟩, h.2⟩
omit hC hJ in
theorem Zgc {qx qy : Nat} (hq : qx < M ∧ qy < M) (hC : DCv w cv n M B R bx by_) (hJ : JD w v n s) {q : Value} (hQ : QD w q n qx qy false) : Calls Tryz.prog 177 #[cv, v, q] w fun e w' => (∃ u, e = .returned u ∧ JD w' u n (dPl M s qx qy)) ∧ Below w.heap.size w w' := by
 have F := fun (G : List (CX × Bool)) hG (x y z : EX) h => plus_G hn hM hB hs hq hC hJ hQ G hG (x := x) (y := y) (z := z) h
 by_cases hz : s.2.2 = 0
 ·
  have := F [(zrE (.v 2), true)] (by intro x hx; cases List.mem_singleton.1 hx; exact decide_eq_true hz) _ _ _ (Or.inr ZhS)
  unfold dPl
  rw [if_pos hz]
  exact this
 ·
  by_cases hh : dD n M (vT s qx qy B R bx by_) (fun _ => false) plH = 0
  ·
   by_cases hr : dD n M (vT s qx qy B R bx by_) (fun _ => false) plR = 0
   ·
    by_cases hy : s.2.1 = 0
    ·
     have := F [(zrE (.v 2), false), (zrE plH, true), (zrE plR, true), (zrE (.v 1), true)] (by intro x hx; rcases List.mem_cons.1 hx with rfl | hx; exact decide_eq_false hz; rcases List.mem_cons.1 hx with rfl | hx; exact decide_eq_true hh; rcases List.mem_cons.1 hx with rfl | hx; exact decide_eq_true hr; cases List.mem_singleton.1 hx; exact decide_eq_true hy) _ _ _ (Or.inl ZgU)
     have e : dPl M s qx qy = (s.1, s.2.1, 0) := by
      unfold dPl
      rw [if_neg hz]
      show (if dD n M (vT s qx qy B R bx by_) (fun _ => false) plH = 0 then (if dD n M (vT s qx qy B R bx by_) (fun _ => false) plR = 0 then dTw M s else _) else _) = _
      rw [if_pos hh, if_pos hr]
      unfold dTw
      rw [if_pos (Or.inr hy)]
     rw [e]
     exact this
    ·
     have := F [(zrE (.v 2), false), (zrE plH, true), (zrE plR, true), (zrE (.v 1), false)] (by intro x hx; rcases List.mem_cons.1 hx with rfl | hx; exact decide_eq_false hz; rcases List.mem_cons.1 hx with rfl | hx; exact decide_eq_true hh; rcases List.mem_cons.1 hx with rfl | hx; exact decide_eq_true hr; cases List.mem_singleton.1 hx; exact decide_eq_false hy) _ _ _ (Or.inl ZhR)
     have e : dPl M s qx qy = dTw M s := by
      unfold dPl
      rw [if_neg hz]
      show (if dD n M (vT s qx qy B R bx by_) (fun _ => false) plH = 0 then (if dD n M (vT s qx qy B R bx by_) (fun _ => false) plR = 0 then dTw M s else _) else _) = _
      rw [if_pos hh, if_pos hr]
     rw [e]
     unfold dTw
     rw [if_neg (fun h => h.elim hz hy)]
     exact this
   ·
    have := F [(zrE (.v 2), false), (zrE plH, true), (zrE plR, false)] (by intro x hx; rcases List.mem_cons.1 hx with rfl | hx; exact decide_eq_false hz; rcases List.mem_cons.1 hx with rfl | hx; exact decide_eq_true hh; cases List.mem_singleton.1 hx; exact decide_eq_false hr) _ _ _ (Or.inl ZhQ)
    have e : dPl M s qx qy = (s.1, s.2.1, 0) := by
     unfold dPl
     rw [if_neg hz]
     show (if dD n M (vT s qx qy B R bx by_) (fun _ => false) plH = 0 then (if dD n M (vT s qx qy B R bx by_) (fun _ => false) plR = 0 then dTw M s else _) else _) = _
     rw [if_pos hh, if_neg hr]
    rw [e]
    exact this
  ·
   have := F [(zrE (.v 2), false), (zrE plH, false)] (by intro x hx; rcases List.mem_cons.1 hx with rfl | hx; exact decide_eq_false hz; cases List.mem_singleton.1 hx; exact decide_eq_false hh) _ _ _ (Or.inl Zj6)
   have e : dPl M s qx qy = (dD n M (vT s qx qy B R bx by_) (fun _ => false) plX, dD n M (vT s qx qy B R bx by_) (fun _ => false) plY, dD n M (vT s qx qy B R bx by_) (fun _ => false) (mE (.v 2) plH)) := by
    unfold dPl
    rw [if_neg hz]
    exact if_neg hh
   rw [e]
   exact this
end
end Go.Proofs.YtcbdbnfgnonacaaGreat
namespace Go.Proofs.YtcbdbnfgnonacaaGreat.P4
open Go.RowKit Go.Shelf
theorem mD_k (m x y : Nat) : mD m (x % m) (y % m) = kmul m x y % m := (Nat.mul_mod x y m).symm
theorem aD_k (m x y : Nat) : aD m (x % m) (y % m) = kadd m x y % m := (Nat.add_mod x y m).symm
theorem sD_k (m x y : Nat) : sD m (x % m) (y % m) = ksub m x y % m := Nat.mod_add_mod _ _ _
theorem ZhU (m x y z : Nat) : kadd m (kadd m x y) z = kadd m x (kadd m y z) := Nat.add_assoc _ _ _
theorem ZaK {m f : Nat} (h : W4.MF m f) (x y : Nat) : Like m x y ↔ x % m = y % m := ⟨fun e => W4.el_inj h e, fun e => by unfold Like W4.el; rw [Nat.mul_mod, e, ← Nat.mul_mod]⟩
structure Rl (m : Nat) (s d : Nat × Nat × Nat) : Prop where
 z : d.2.2 = s.2.2 % m
 xy : d.2.2 ≠ 0 → d.1 = s.1 % m ∧ d.2.1 = s.2.1 % m
theorem Rl.inf {m : Nat} {s d : Nat × Nat × Nat} (h1 : s.2.2 % m = 0) (h2 : d.2.2 = 0) : Rl m s d := ⟨by rw [h1, h2], fun h => absurd h2 h⟩
theorem Rl.red {m : Nat} {s d : Nat × Nat × Nat} (h : Rl m s d) : Rl m (red m s) d := ⟨by show _ = s.2.2 % m % m; rw [Nat.mod_mod]; exact h.z, fun h2 => by
 have := h.xy h2
 exact ⟨by show _ = s.1 % m % m; rw [Nat.mod_mod]; exact this.1, by show _ = s.2.1 % m % m; rw [Nat.mod_mod]; exact this.2⟩⟩
theorem Zd1 {m x y : Nat} (h : y % m = 0) : x * y % m = 0 := by rw [Nat.mul_mod, h, Nat.mul_zero, Nat.zero_mod]
theorem Zj9 {m x y : Nat} (h : x % m = 0) : x * y % m = 0 := by rw [Nat.mul_mod, h, Nat.zero_mul, Nat.zero_mod]
theorem Zfy {m x : Nat} (h : x % m = 0) : (x + x) % m = 0 := by rw [Nat.add_mod, h, Nat.add_zero, Nat.zero_mod]
theorem ZmS (m x y z : Nat) (hz : z % m ≠ 0) (hy : y % m ≠ 0) : dTw m (x % m, y % m, z % m) = ((dblS m (x, y, z)).1 % m, (dblS m (x, y, z)).2.1 % m, (dblS m (x, y, z)).2.2 % m) := by
 unfold dTw
 rw [if_neg (fun h => h.elim hz hy)]
 simp only [mD_k, aD_k, sD_k, ZhU m (kmul m x x)]
 rfl
theorem ZjA {m : Nat} {s d : Nat × Nat × Nat} (h : Rl m s d) : Rl m (dblS m s) (dTw m d) := by
 obtain ⟨x, y, z⟩ := s
 obtain ⟨a, b, c⟩ := d
 by_cases hc : c = 0
 ·
  have hz : z % m = 0 := h.z.symm.trans hc
  refine Rl.inf (Zfy (Zd1 hz)) ?_
  unfold dTw
  rw [if_pos (Or.inl hc)]
 ·
  obtain ⟨h1, h2⟩ := h.xy hc
  have h3 := h.z
  have hz : z % m ≠ 0 := fun e => hc (h3.trans e)
  simp only at h1 h2 h3
  subst h1 h2 h3
  by_cases hy : y % m = 0
  ·
   refine Rl.inf (Zfy (Zj9 hy)) ?_
   unfold dTw
   rw [if_pos (Or.inr hy)]
  ·
   rw [ZmS m x y z hz hy]
   exact ⟨rfl, fun _ => ⟨rfl, rfl⟩⟩
theorem sub_zero (a b m : Nat) (hy : b < m) (hx : a < m) : (a + (m - b)) % m = 0 ↔ a = b := by
 constructor
 ·
  intro h
  by_cases h2 : a < b
  ·
   have e := Nat.mod_eq_of_lt (show a + (m - b) < m by omega)
   omega
  ·
   have e := Nat.mod_eq_of_lt (show a - b < m by omega)
   rw [show a + (m - b) = (a - b) + m by omega, Nat.add_mod_right] at h
   omega
 ·
  intro h
  rw [h, show b + (m - b) = m by omega, Nat.mod_self]
theorem ZbR {m x y : Nat} (hm : 0 < m) : ksub m x y % m = 0 ↔ x % m = y % m := by
 show (x + (m - y % m)) % m = 0 ↔ _
 rw [← Nat.mod_add_mod]
 exact sub_zero _ _ m (Nat.mod_lt _ hm) (Nat.mod_lt _ hm)
theorem ZjB (m x y z u v : Nat) (hz : z % m ≠ 0) (hh : ksub m (kmul m u (kmul m z z)) x % m ≠ 0) : dPl m (x % m, y % m, z % m) (u % m) (v % m) = ((addS m (x, y, z) (u, v)).1 % m, (addS m (x, y, z) (u, v)).2.1 % m, (addS m (x, y, z) (u, v)).2.2 % m) := by
 unfold dPl
 rw [if_neg hz]
 simp only [mD_k, aD_k, sD_k]
 rw [if_neg hh]
 rfl
theorem ZmT {m f : Nat} (hF : W4.MF m f) (h3 : 3 ≤ m) {s d : Nat × Nat × Nat} (h : Rl m s d) {u v : Nat} (hu : u < m) (hv : v < m) : Rl m (plusS m s (u, v)) (dPl m d u v) := by
 obtain ⟨x, y, z⟩ := s
 obtain ⟨a, b, c⟩ := d
 unfold plusS
 by_cases hc : c = 0
 ·
  have hz : z % m = 0 := h.z.symm.trans hc
  rw [if_pos ((ZaK hF _ _).2 (by rw [hz]; exact (Nat.zero_mod m).symm))]
  unfold dPl
  rw [if_pos hc]
  exact ⟨(Nat.mod_eq_of_lt (by omega : 1 < m)).symm, fun _ => ⟨(Nat.mod_eq_of_lt hu).symm, (Nat.mod_eq_of_lt hv).symm⟩⟩
 ·
  have hR := h
  obtain ⟨h1, h2⟩ := h.xy hc
  have h4 := h.z
  have hz : z % m ≠ 0 := fun e => hc (h4.trans e)
  simp only at h1 h2 h4
  subst h1 h2 h4
  rw [if_neg (fun e => hz (by rw [(ZaK hF _ _).1 e]; exact Nat.zero_mod m))]
  have eu : u % m = u := Nat.mod_eq_of_lt hu
  have ev' : v % m = v := Nat.mod_eq_of_lt hv
  by_cases hh : ksub m (kmul m u (kmul m z z)) x % m = 0
  ·
   by_cases hr : ksub m (kmul m v (kmul m (kmul m z z) z)) y % m = 0
   ·
    rw [if_pos ⟨(ZaK hF _ _).2 ((ZbR (by omega)).1 hh), (ZaK hF _ _).2 ((ZbR (by omega)).1 hr)⟩]
    have e : dPl m (x % m, y % m, z % m) u v = dTw m (x % m, y % m, z % m) := by
     rw [← eu, ← ev']
     unfold dPl
     rw [if_neg hz]
     simp only [mD_k, aD_k, sD_k]
     rw [if_pos hh, if_pos hr]
    rw [e]
    exact ZjA hR
   ·
    rw [if_neg (fun e => hr ((ZbR (by omega)).2 ((ZaK hF _ _).1 e.2)))]
    refine Rl.inf (Zd1 hh) ?_
    have e : dPl m (x % m, y % m, z % m) u v = (x % m, y % m, 0) := by
     rw [← eu, ← ev']
     unfold dPl
     rw [if_neg hz]
     simp only [mD_k, aD_k, sD_k]
     rw [if_pos hh, if_neg hr]
    rw [e]
  ·
   rw [if_neg (fun e => hh ((ZbR (by omega)).2 ((ZaK hF _ _).1 e.1)))]
   have e := ZjB m x y z u v hz hh
   rw [eu, ev'] at e
   rw [e]
   exact ⟨rfl, fun _ => ⟨rfl, rfl⟩⟩
end Go.Proofs.YtcbdbnfgnonacaaGreat.P4
namespace Go.Proofs.YtcbdbnfgnonacaaGreat
open Go.RowKit Go.Shelf
theorem ZmU {P : Program} {o : Oper} {a : Act} {next next' : Act → World → Prop} {Q : Exit → Act → World → Prop} {l n : Nat} (hn : ∀ a w, next a w → next' a w) (r : Result Next) (h : o.upon P a next Q r) :
  o.uponIn (Fence.wide.inRound l) n P a next' Q r := by
 cases r with
 | ok x w' =>
  cases x with
  | value v => exact hn _ _ h
  | skip => exact hn _ _ h
  | defer d => exact hn _ _ h
  | enter f args =>
   refine ⟨fun e => by simp [Fence.inRound, Fence.wide] at e, CallsIn.inRound l (callsIn_wide.2 (Calls.mono h ?_))⟩
   intro e w'' he
   cases e with
   | returned v => exact hn _ _ he
   | panicked chain => exact he
   | outgrown => exact he
  | row row args =>
   refine ⟨fun e => by simp [Fence.inRound, Fence.wide] at e, fun c cs _ => ?_⟩
   obtain ⟨v, w'', hv, hs⟩ := h c cs
   exact ⟨v, w'', hn _ _ hv, by rw [fenced_inRound]; exact stepsIn_wide.2 hs⟩
  | _ => exact absurd h (by simp [Oper.upon])
 | halt hh w' =>
  cases hh with
  | panic v => exact h
  | _ => exact absurd h (by simp [Oper.upon])
def Zfz (ops : List Oper) : Bool := ops.all fun o => match o.op with | .defer _ => false | _ => true
theorem ZgX {P : Program} {ops : Array Oper} {Q : Exit → Act → World → Prop} {l n : Nat} (hlo : ¬ LetsOut Q) :
  ∀ (rest : List Oper) (a : Act) (w : World), Zfz rest = true → wpList P ops Q rest a w → wpListIn (Fence.wide.inRound l) n P ops Q rest a w
 | [], _, _, _, h => h
 | o :: rest, a, w, hp, h => by
  unfold Zfz at hp
  rw [List.all_cons, Bool.and_eq_true] at hp
  unfold wpList at h
  unfold wpListIn
  split at h
  ·
   rename_i hw
   rw [if_pos hw]
   refine ⟨fun _ _ => trivial, ?_⟩
   rw [show (Fence.wide.inRound l).round = some l from rfl, Oper.semAt_some l a.eval o (fun c e => by have := hp.1; rw [e] at this; simp at this)]
   rcases h with h | h
   ·
    exact ZmU (fun a w h => ZgX hlo rest a w hp.2 h) _ h
   ·
    exact absurd h.2 hlo
  ·
   rename_i hw
   rw [if_neg hw]
   exact ⟨fun _ _ => trivial, ZgX hlo rest _ w hp.2 h⟩
theorem Zcb {P : Program} {id : Nat} {ops : List Oper} {Q : Exit → Act → World → Prop} {l n : Nat} {a : Act} {w : World} (hlo : ¬ LetsOut Q) (hp : Zfz ops = true)
  (h : wpList P ops.toArray Q ops a w) : (Code.region id ops.toArray false).wpIn (Fence.wide.inRound l) n P Q a w :=
 wpIn_region_lit (ZgX hlo _ _ _ hp h)
end Go.Proofs.YtcbdbnfgnonacaaGreat
