/-
 A curve's functions, by running them on terms.
-/
import Derived.Test.YtcbdbnfgnonacaaGreatCurveBasesC35
set_option maxHeartbeats 4000000
set_option maxRecDepth 100000
namespace Go.Proofs.YtcbdbnfgnonacaaGreat.Q6
open Go.RowKit Go.Shelf
attribute [local go_sem] Oper.semAt_some
theorem Zan (m : Nat) (s : T3) : (scS m s).size = 3 * 12 := ZaX _ _ _ _
theorem Zb7 (m : Nat) (s : T3) : (scS m s).all (·.oneCell') = true := ZcM _ _ _ _
theorem ZaB {B l : Nat} {W V : World} {o : Obj} (h : Below B W V) (hl : B ≤ l) : Below B W (V.putObj l o) :=
 ⟨h.os, h.tape, h.output, by rw [show (V.putObj l o).heap.size = V.heap.size by simp [World.putObj]]; exact h.size, fun k hk => (World.putObj_heap_other (by omega)).trans (h.block k hk)⟩
theorem KQ.putObj {W V : World} {R0 n ty l : Nat} {o : Obj} (h : KQ W R0 n ty V) (hl : W.heap.size ≤ l) (hR : R0 < l) : KQ W R0 n ty (V.putObj l o) := by
 obtain ⟨g, hg, hn⟩ := h.res
 exact ⟨fun b h1 h2 => (World.putObj_heap_other (by omega)).trans (h.same b h1 h2), ZaB h.below (by omega), g, (World.putObj_heap_other (by omega)).trans hg, hn⟩
theorem Zce : Tryz.prog.underlying 65 = some (.array 4 27) := by kernel_rfl
theorem infoWd {C : Array Value} (h : C.size = 4) : (Tryz.prog.info? 65).map (·.size) = some C.size := by rw [h]; kernel_rfl
theorem Zc8 {P : Program} {op : Oper} {l : List Value} {ds : List Deferred} {w w' : World} {K : Act → World → Prop} {Q : Exit → Act → World → Prop} (args : Array Operand) (tys : Array TypeId) (d : Nat) {f : Nat} (ho : op.op = .call { callee := .value (.func f), args := args, argTypes := tys }) (hd : op.dst = some d) {av : Array Value}
  (hx : args.map (Act.eval { tmps := l.toArray, defers := ds }) = av) (hm : ∀ av w, (callFunc f av).run P w = .ok (.enter f av) w) {v : Value} (hc : Calls P f av w fun e w'' => e = .returned v ∧ w'' = w')
  (h : K { tmps := (l.set d v).toArray, defers := ds } w') : op.wp P { tmps := l.toArray, defers := ds } w K Q := by
 unfold Oper.wp execOp
 have he : (do let d ← resolve (Act.eval { tmps := l.toArray, defers := ds }) { callee := .value (.func f), args := args, argTypes := tys } op.type; invoke d.target d.args).run P w = .ok (.enter f av) w := by
  have hf : Act.eval { tmps := l.toArray, defers := ds } (.func f) = .func (.func f) #[] #[] := rfl
  simp only [resolve, invoke, Deferred.ofValue, hf, Sem.run_bind, Sem.run_pure, Result.andThen, hx]
  simp [hm]
 simp only [ho]
 rw [he]
 refine hc.mono ?_
 rintro e w'' ⟨rfl, rfl⟩
 show K _ _
 rw [hd, Zab]
 exact h
theorem Zcf {w : World} {g p m : Nat} {b : K} (hG : GAt w g p m b) (x y : K) (k : Nat) :
  Calls Tryz.prog 172 #[.pointer (some ⟨g, 0, none⟩), .agg (pt x y true), .agg (W4.cs (limb k))] w fun e w' => e = .returned (.agg (sc m k1 k1 k0)) ∧ Below w.heap.size w w' := by
 have := ZbH ⟨m, g, p, b, b, b, k, v5 x y x x x, fun _ => false, 0⟩ nofit [] hG (fun _ h => by cases h) (fun _ h => by cases h) (ZbS w) (noL w) Tryz.func172 (args := [gp0, ptE (.v 0) (.v 1) (.lit true), .row [.e 2 (.c 0)]]) (y := scE (.c 1, .c 1, .c 0)) (by kernel_rfl) (fun _ => 0)
 simp only [scE, Al.sv, List.map_cons, List.map_nil, Zbz, ZaO, rw_w] at this
 exact this
theorem Zcg {w : World} {g p m : Nat} {b : K} (hG : GAt w g p m b) (x y : K) (hx : Fits x) (hy : Fits y) (k : Nat) (hk : k < 2 ^ 256) :
  Calls Tryz.prog 172 #[.pointer (some ⟨g, 0, none⟩), .agg (pt x y false), .agg (W4.cs (limb k))] w fun e w' => e = .returned (.agg (scS m (timesS m (x, y) k))) ∧ Below w.heap.size w w' := by
 have hg := hG.glt
 have hp := hG.plt
 have HG9 := hideP hG
 have HK := hideP hk
 clear hG hk
 refine (callsIn_wide (n := 6)).1 ?_
 refine callsIn_of_wp_marks Tryz.func172 rfl trivial ?_ rfl
 simp only [Tryz.ntmps172, List.size_toArray, List.length_cons, List.length_nil, Nat.reduceAdd, Nat.reduceSub, Array.replicate_succ, Array.replicate_zero, List.push_toArray, List.append_toArray, List.nil_append, List.cons_append]
 refine wpIn_wide.2 ?_
 refine Zad (fun K0 HK0 => ?_)
 go_wp2_with fail
 refine HK0.out _ _ ?_
 clear HK0 K0
 refine Zam (fun W0 hW0 => ?_)
 have hb0 : W0.heap[w.heap.size]? = some (.cells #[.pointer (some ⟨g, 0, none⟩)] 148 (0, 0)) := by
  rw [hW0]
  exact ((Zag _ _ (by simp <;> omega)).trans ((Zag _ _ (by simp <;> omega)).trans ((Zag _ _ (by simp <;> omega)).trans (Zaf _ _))))
 have hb1 : W0.heap[w.heap.size + 1]? = some (.cells (pt x y false) 153 (0, 0)) := by
  rw [hW0]
  exact ((Zag _ _ (by simp <;> omega)).trans ((Zag _ _ (by simp <;> omega)).trans (Zav _ _ _)))
 have hb2 : W0.heap[w.heap.size + 1 + 1]? = some (.cells (W4.cs (limb k)) 65 (0, 0)) := by
  rw [hW0]
  exact ((Zag _ _ (by simp <;> omega)).trans (ZaF _ _ _ _))
 have hbr : ∃ C : Array Value, W0.heap[w.heap.size + 1 + 1 + 1]? = some (.cells C 279 (0, 0)) ∧ C.size = 3 * 12 := by
  rw [hW0]
  exact ⟨_, ZbM _ _ _ _ _, rfl⟩
 have hbw : Below w.heap.size w W0 := by
  rw [hW0]
  repeat first | exact Below.refl _ _ | (refine Below.alloc ?_ (by simp <;> omega) _)
 clear hW0
 have HG := hideP (HG9.out.below hbw)
 clear HG9
 have HBW := hideP hbw
 clear hbw
 generalize hN : w.heap.size = N at *
 clear hN
 generalize hB1 : N + 1 = B1 at *
 generalize hB2 : B1 + 1 = B2 at *
 generalize hB3 : B2 + 1 = B3 at *
 have o1 : N < B1 := by omega
 have o2 : B1 < B2 := by omega
 have o3 : B2 < B3 := by omega
 clear hB3 hB2 hB1
 have H0 := hideP hb0
 have H1 := hideP hb1
 have H2 := hideP hb2
 clear hb0 hb1 hb2
 obtain ⟨Cr, hbr, s_R⟩ := hbr
 have l3 := Zaa hbr
 have Hr := hideP hbr
 clear hbr
 refine Zad (fun K1 HK1 => ?_)
 refine wp_region_list ?_
 refine Zac rfl (fun K hK => ?_)
 have hf := Zae H0.out (o := 0) rfl
 go_simp
 refine hK _ _ ?_
 clear hK K hf
 refine Zac rfl (fun K hK => ?_)
 refine ZaT (av := #[.pointer (some ⟨g, 0, none⟩)]) _ _ 11 rfl rfl (by simp only [List.map_toArray, List.map_cons, List.map_nil]; rfl) (en Tryz.func235) (Zb6 HG.out) ?_
 intro x1 hbc
 refine hK _ _ ?_
 clear hK K
 simp only [Zs, Zz]
 refine Zac rfl (fun K hK => ?_)
 go_simp
 refine hK _ _ ?_
 clear hK K
 refine ZaN (fun x2 hx2 => ?_)
 have hb7 : ∃ C : Array Value, x2.heap[x1.heap.size]? = some (.cells C 279 (0, 0)) ∧ C.size = 3 * 12 := by
  rw [hx2]
  exact ⟨_, Zaf _ _, rfl⟩
 have hbe : Below x1.heap.size x1 x2 := by
  rw [hx2]
  exact (Below.refl _ _).alloc (Nat.le_refl _) _
 have hsz : x2.heap.size = x1.heap.size + 1 := by rw [hx2]; simp
 clear hx2
 obtain ⟨C7, hb7, s_7⟩ := hb7
 have o7 : W0.heap.size ≤ x1.heap.size := hbc.size
 have hB12 : Below W0.heap.size W0 x2 := hbc.trans (hbe.mono o7)
 generalize hL : x1.heap.size = L at *
 clear hbc hbe hL
 have hQ := KQ.start hb7 s_7
 refine Zal rfl 279 (.tmp 7) (.tmp 11) rfl rfl L 0 (sc m k1 k1 k0) rfl rfl (hQ.there (ZaX _ _ _ _)) (infoSc (ZaX _ _ _ _)) (ZcM _ _ _ _) ?_
 have g7 := hQ.put (C := sc m k1 k1 k0) (ZaX _ _ _ _)
 have hQ2 := hQ.store (C := sc m k1 k1 k0) (ZaX _ _ _ _)
 generalize World.setCells x2 L 0 (sc m k1 k1 k0).toList = x3 at g7 hQ2 ⊢
 have hB3 : Below W0.heap.size W0 x3 := hB12.trans (hQ2.below.mono o7)
 clear hQ hQ2 hb7 hB12
 clear hsz
 refine wpList_nil ?_
 refine HK1.out _ _ ?_
 clear HK1 K1
 have l7 := Zaa g7
 have G7 := hideP g7
 clear g7
 refine Zad (fun K2 HK2 => ?_)
 refine Zad (fun K1 HK1 => ?_)
 refine wp_region_list ?_
 refine Zac rfl (fun K hK => ?_)
 go_simp
 refine hK _ _ ?_
 clear hK K
 refine Zac rfl (fun K hK => ?_)
 have hf := pt_i ((hB3.block _ (Zaa H1.out)).trans H1.out)
 go_simp
 refine hK _ _ ?_
 clear hK K hf
 refine wpList_nil ?_
 refine HK1.out _ _ ?_
 clear HK1 K1
 refine wp_cond_false rfl ?_
 refine wp_skip ?_
 refine HK2.out _ _ ?_
 clear HK2 K2
 refine Zad (fun K1 HK1 => ?_)
 refine wp_region_list ?_
 refine Zac rfl (fun K hK => ?_)
 have hf := Zae ((hB3.block _ (Zaa H0.out)).trans H0.out) (o := 0) rfl
 go_simp
 refine hK _ _ ?_
 clear hK K hf
 refine Zak rfl 153 (.tmp 4) 16 rfl rfl B1 0 (pt x y false) rfl _ (Zah ((hB3.block _ (Zaa H1.out)).trans H1.out)) Zcc rfl (infoPt (ZaD _ _ _)) ?_
 simp only [Zs, Zz]
 refine Zac rfl (fun K hK => ?_)
 refine Zb4 (.tmp 15) (.tmp 16) _ 17 rfl rfl rfl rfl (en Tryz.func205) (ZeA (HG.out.below hB3) x y false hx hy) ?_
 intro x4 hbc
 refine hK _ _ ?_
 clear hK K
 simp only [Zs, Zz]
 refine Zac rfl (fun K hK => ?_)
 go_simp
 refine hK _ _ ?_
 clear hK K
 refine ZaN (fun x5 hx5 => ?_)
 have hb8 : ∃ C : Array Value, x5.heap[x4.heap.size]? = some (.cells C 277 (0, 0)) ∧ C.size = 2 * 12 := by
  rw [hx5]
  exact ⟨_, Zaf _ _, rfl⟩
 have hbe : Below x4.heap.size x4 x5 := by
  rw [hx5]
  exact (Below.refl _ _).alloc (Nat.le_refl _) _
 clear hx5
 obtain ⟨C8, hb8, s_8⟩ := hb8
 have o8 : x3.heap.size ≤ x4.heap.size := hbc.size
 have hB12 : Below x3.heap.size x3 x5 := hbc.trans (hbe.mono o8)
 generalize hM : x4.heap.size = M at *
 clear hbc hbe hM
 have hQ := KQ.start hb8 s_8
 refine Zal rfl 277 (.tmp 8) (.tmp 17) rfl rfl M 0 (pl m x y) rfl rfl (hQ.there (ZaQ _ _ _)) (infoPl (ZaQ _ _ _)) (ZcL _ _ _) ?_
 have g8 := hQ.put (C := pl m x y) (ZaQ _ _ _)
 have hQ2 := hQ.store (C := pl m x y) (ZaQ _ _ _)
 generalize World.setCells x5 M 0 (pl m x y).toList = x6 at g8 hQ2 ⊢
 have hB6 : Below x3.heap.size x3 x6 := hB12.trans (hQ2.below.mono o8)
 clear hQ hQ2 hb8 hB12
 refine wpList_nil ?_
 refine HK1.out _ _ ?_
 clear HK1 K1
 have l8 := Zaa g8
 refine Zad (fun K3 HK3 => ?_)
 refine Zad (fun K1 HK1 => ?_)
 refine wp_region_list ?_
 have hB36 : Below W0.heap.size W0 x6 := hB3.trans (hB6.mono hB3.size)
 refine Zak rfl 65 (.tmp 5) 18 rfl rfl B2 0 (W4.cs (limb k)) rfl _ (Zah ((hB36.block _ (Zaa H2.out)).trans H2.out)) Zce rfl (infoWd (W4.Za5 _)) ?_
 simp only [Zs, Zz]
 refine Zac rfl (fun K hK => ?_)
 refine Zc8 (av := #[.agg (W4.cs (limb k))]) _ _ 19 rfl rfl (by simp only [List.map_toArray, List.map_cons, List.map_nil]; rfl) (en Tryz.func229) (ZdJ k x6) ?_
 refine hK _ _ ?_
 clear hK K
 simp only [Zs, Zz]
 refine wpList_nil ?_
 refine HK1.out _ _ ?_
 clear HK1 K1
 refine Zam (fun W7 hW7 => ?_)
 have hrow : RowK x6.heap.size k W7 := by
  rw [hW7]
  exact Zaf _ _
 have hb67 : Below x6.heap.size x6 W7 := by
  rw [hW7]
  exact (Below.refl _ _).alloc (Nat.le_refl _) _
 clear hW7
 have hB37 : Below x3.heap.size x3 W7 := hB6.trans (hb67.mono hB6.size)
 have hB07 : Below W0.heap.size W0 W7 := hB3.trans (hB37.mono hB3.size)
 have h0 := (hB07.block _ (Zaa H0.out)).trans H0.out
 have hr := (hB07.block _ l3).trans Hr.out
 have h7 := (hB37.block _ l7).trans G7.out
 have h8 := (hb67.block _ l8).trans g8
 have hG7 := HG.out.below hB07
 have hbw7 : Below N w W7 := HBW.out.trans (hB07.mono (by omega))
 have nLQ : L < x6.heap.size := Nat.lt_of_lt_of_le l7 hB6.size
 have nML : L < M := Nat.lt_of_lt_of_le l7 o8
 generalize hQN : x6.heap.size = QN at *
 have l9 : QN < W7.heap.size := Zaa hrow
 have l7' : L < W7.heap.size := by omega
 have l8' : M < W7.heap.size := by omega
 have l3' : B3 < W7.heap.size := by omega
 have lN' : N < W7.heap.size := by omega
 have n3 : B3 < L := by omega
 have nN : N < L := by omega
 clear HG HBW H0 H1 H2 Hr G7 g8 hB3 hB6 hB36 hb67 hB37 hB07 l7 l8 l3 hQN o7 o8
 refine wp_block ?_
 refine (wpIn_wide (n := 6)).1 ?_
 refine Zcw (n := 6) (by omega) rfl (en Tryz.func251) (fun q => #[.bool (bitq k q)]) (bl k) (fun _ => rfl) (KpK QN k) (ZcX _ (by omega) QN k HK.out W7 hrow)
  (fun j W => W.heap[L]? = some (.cells (scS m (timesJ m (x, y) k j)) 279 (0, 0)) ∧ KQ W7 L (3 * 12) 279 W) (fun _ _ => False)
  (fun j V V' h hb => ⟨(hb.block _ (Zaa h.1)).trans h.1, h.2.call hb⟩) (fun _ _ _ h _ => h)
  (fun j V l' o o' h hl _ _ => ⟨(World.putObj_heap_other (by omega)).trans h.1, KQ.putObj h.2 hl (by omega)⟩) (fun _ _ _ _ _ h _ _ _ => h)
  (fun V V' l' o o' h hl _ _ hk => (World.putObj_heap_other (by omega)).trans (h hk)) ?h0 ?round ?done ?stop
 case h0 => exact ⟨h7, KQ.start h7 (Zan m (timesJ m (x, y) k 0))⟩
 case stop => exact fun _ _ _ _ h _ => h.elim
 case round =>
  rintro l' j W hj ⟨hw7, hkq⟩ hl' ⟨rr, hlr⟩
  have HALL := hideP (And.intro hw7 (And.intro hkq hlr))
  clear hw7 hkq hlr
  gi_wp2
  obtain ⟨hw7, hkq, hlr⟩ := HALL.out
  clear HALL
  refine ⟨KeepsFrom.refl _ _, fun r => ?_⟩
  have h72 : (W.putObj l' (.loop r)).heap[L]? = some (.cells (scS m (timesJ m (x, y) k j)) 279 (0, 0)) := (World.putObj_heap_other (by omega)).trans hw7
  have hkq2 : KQ W7 L (3 * 12) 279 (W.putObj l' (.loop r)) := KQ.putObj hkq hl' (by omega)
  have HWW : Hid (∀ b, b < W7.heap.size → (W.putObj l' (.loop r)).heap[b]? = W.heap[b]?) := fun b hb => World.putObj_heap_other (by omega)
  generalize W.putObj l' (.loop r) = W2 at *
  have hst : timesJ m (x, y) k (j + 1) = stepS m (x, y) (bitq k j) (timesJ m (x, y) k j) := rfl
  generalize timesJ m (x, y) k j = t at *
  generalize bitq k j = bit at *
  have HST := hideP hst
  have HW7 := hideP hw7
  clear hst hw7 hlr hj
  refine wpIn_block ?_
  refine wpIn_seq ?_
  refine ZaJ (fun ⟨_, _, h⟩ => h) rfl ?_
  refine Zac rfl (fun K hK => ?_)
  have hf := Zae (hkq2.box h0 (by omega)) (o := 0) rfl
  go_simp
  refine hK _ _ ?_
  clear hK K hf
  refine Zak rfl 279 (.tmp 7) 22 rfl rfl L 0 (scS m t) rfl _ (Zah h72) Zbi rfl (infoSc (Zan _ _)) ?_
  simp only [Zs, Zz]
  refine Zac rfl (fun K hK => ?_)
  refine Zb4 (.tmp 21) (.tmp 22) _ 23 rfl rfl rfl rfl (en Tryz.func236) (Zc7 (hG7.kq hkq2 (by omega) (by omega)) t) ?_
  intro y1 hbc
  refine hK _ _ ?_
  clear hK K
  simp only [Zs, Zz]
  have hQ := (KQ.start h72 (Zan m t)).call hbc
  rw [← Zbj m (dblS m t)]
  refine Zal rfl 279 (.tmp 7) (.tmp 23) rfl rfl L 0 (scS m (red m (dblS m t))) rfl rfl (hQ.there (Zan _ _)) (infoSc (Zan _ _)) (Zb7 _ _) ?_
  have g9 := hQ.put (C := scS m (red m (dblS m t))) (Zan _ _)
  have hQ2 := hQ.store (C := scS m (red m (dblS m t))) (Zan _ _)
  generalize World.setCells y1 L 0 (scS m (red m (dblS m t))).toList = y2 at g9 hQ2 ⊢
  clear hQ hbc h72 HW7
  have tr : KQ W7 L (3 * 12) 279 y2 := ⟨fun b h1 h2 => (hQ2.same b (Nat.lt_of_lt_of_le h1 hkq2.size) h2).trans (hkq2.same b h1 h2), hkq2.below.trans hQ2.below, hQ2.res⟩
  refine wpList_nil ?_
  refine (?_ : Code.wpIn _ _ _ _ _ _ _)
  refine wpIn_seq ?_
  refine ZaJ (fun ⟨_, _, h⟩ => h) rfl ?_
  refine Zac rfl (fun K hK => ?_)
  go_simp
  refine hK _ _ ?_
  clear hK K
  refine wpList_nil ?_
  refine (?_ : Code.wpIn _ _ _ _ _ _ _)
  have fin : ∀ (y3 : World), KQ W2 L (3 * 12) 279 y3 → KeepsFrom W7.heap.size W2 y3 ∧ KpK QN k W y3 := fun y3 h3 => by
   refine ⟨⟨h3.size, fun b o hbb ho _ => (h3.same b (Zaa ho) (by omega)).trans ho⟩, fun hk => ?_⟩
   exact (h3.same QN (Nat.lt_of_lt_of_le l9 hkq2.size) (by omega)).trans ((HWW.out QN l9).trans hk)
  cases bit with
  | false =>
   refine wpIn_cond_false rfl ?_
   refine wpIn_skip ?_
   refine ⟨(fin _ hQ2).1, (fin _ hQ2).2, ?_, tr⟩
   rw [HST.out, stepS, if_neg (by decide), Zbj, ← Zbj m (dblS m t)]
   exact g9
  | true =>
   refine wpIn_cond_true rfl ?_
   refine ZaJ (fun ⟨_, _, h⟩ => h) rfl ?_
   refine Zac rfl (fun K hK => ?_)
   have hf := Zae (tr.box h0 (by omega)) (o := 0) rfl
   go_simp
   refine hK _ _ ?_
   clear hK K hf
   refine Zak rfl 279 (.tmp 7) 26 rfl rfl L 0 (scS m (red m (dblS m t))) rfl _ (Zah g9) Zbi rfl (infoSc (Zan _ _)) ?_
   simp only [Zs, Zz]
   refine Zak rfl 277 (.tmp 8) 27 rfl rfl M 0 (pl m x y) rfl _ (Zah (tr.box h8 (by omega))) Zdl rfl (infoPl (ZaQ _ _ _)) ?_
   simp only [Zs, Zz]
   refine Zac rfl (fun K hK => ?_)
   refine ZaT (av := #[.pointer (some ⟨g, 0, none⟩), .agg (scS m (red m (dblS m t))), .agg (pl m x y)]) _ _ 28 rfl rfl (by simp only [List.map_toArray, List.map_cons, List.map_nil]; rfl) (en Tryz.func203) (ZeB (hG7.kq tr (by omega) (by omega)) (red m (dblS m t)) (x, y)) ?_
   intro y3 hbc
   refine hK _ _ ?_
   clear hK K
   simp only [Zs, Zz]
   have hQ3 := hQ2.call hbc
   have tr3 := tr.call hbc
   refine Zal rfl 279 (.tmp 7) (.tmp 28) rfl rfl L 0 (scS m (plusS m (red m (dblS m t)) (x, y))) rfl rfl (hQ3.there (Zan _ _)) (infoSc (Zan _ _)) (Zb7 _ _) ?_
   have g10 := hQ3.put (C := scS m (plusS m (red m (dblS m t)) (x, y))) (Zan _ _)
   have hQ4 := hQ3.store (C := scS m (plusS m (red m (dblS m t)) (x, y))) (Zan _ _)
   have tr4 := tr3.store (C := scS m (plusS m (red m (dblS m t)) (x, y))) (Zan _ _)
   generalize World.setCells y3 L 0 (scS m (plusS m (red m (dblS m t)) (x, y))).toList = y4 at g10 hQ4 tr4 ⊢
   refine wpList_nil ?_
   refine ⟨(fin _ hQ4).1, (fin _ hQ4).2, ?_, tr4⟩
   rw [HST.out, stepS, if_pos rfl, Zbj]
   exact g10
 case done =>
  rintro Db W hDb ⟨hw7, hkq⟩ hdef
  show K3 _ _
  refine HK3.out _ _ ?_
  clear HK3 K3
  have hts : timesJ m (x, y) k (bl k) = timesS m (x, y) k := rfl
  rw [hts] at hw7
  generalize timesS m (x, y) k = t at hw7 ⊢
  refine wp_seq ?_
  refine wp_region_list ?_
  refine Zak rfl 279 (.tmp 7) 29 rfl rfl L 0 (scS m t) rfl _ (Zah hw7) Zbi rfl (infoSc (Zan _ _)) ?_
  simp only [Zs, Zz]
  have hr3 := hkq.box hr (by omega)
  have hQ := KQ.start hr3 s_R
  refine Zal rfl 279 (.tmp 6) (.tmp 29) rfl rfl B3 0 (scS m t) rfl rfl (hQ.there (Zan _ _)) (infoSc (Zan _ _)) (Zb7 _ _) ?_
  have g6 := hQ.put (C := scS m t) (Zan _ _)
  have hQ2 := hQ.store (C := scS m t) (Zan _ _)
  generalize World.setCells W B3 0 (scS m t).toList = W6 at g6 hQ2 ⊢
  refine wpList_nil ?_
  refine wp_ret ?_
  have hdef6 := (hQ2.same Db (Zaa hdef) (by omega)).trans hdef
  refine ⟨by simp, .inl ⟨_, _, rfl, run_takeDeferred hdef6, ?_⟩⟩
  have hg9 : (W6.putObj Db (.deferred none)).heap[B3]? = some (.cells (scS m t) 279 (0, 0)) := (World.putObj_heap_other (by omega)).trans g6
  refine ⟨.agg (scS m t), ZaH (p := ⟨B3, 0, none⟩) rfl rfl (loadC _ B3 0 279 (scS m t) _ (Zah hg9) Zbi rfl (infoSc (Zan _ _))), rfl, ?_⟩
  exact ZaB (hbw7.trans ((hkq.below.mono (by omega)).trans (hQ2.below.mono (by omega)))) (by omega)
abbrev P3 := K × K × Bool
theorem Zdm {w : World} {g p m : Nat} {b : K} (hG : GAt w g p m b) (x y : K) (hx : Fits x) (hy : Fits y) (i : Bool) {e0 : Int} (h : goodN m b x y i = e0) : Calls Tryz.prog 130 #[.pointer (some ⟨g, 0, none⟩), .agg (pt x y i)] w fun e w' => e = .returned (.int .i64 e0) ∧ Below w.heap.size w w' := by
 rw [← h]
 exact Zc6 hG x y hx hy i
theorem Zbv (m : Nat) (b x y : K) (i : Bool) : goodN m b x y i = 0 ∨ goodN m b x y i = 70 ∨ goodN m b x y i = 71 := by
 unfold goodN
 repeat' split
 all_goals simp
def timesP (m : Nat) (x y : K) (i : Bool) (k : Nat) : T3 := if i = true then (k1, k1, k0) else timesS m (x, y) k
theorem Zdn {w : World} {g p m : Nat} {b : K} (hG : GAt w g p m b) (x y : K) (hx : Fits x) (hy : Fits y) (i : Bool) (k : Nat) (hk : k < 2 ^ 256) : Calls Tryz.prog 172 #[.pointer (some ⟨g, 0, none⟩), .agg (pt x y i), .agg (W4.cs (limb k))] w fun e w' => e = .returned (.agg (scS m (timesP m x y i k))) ∧ Below w.heap.size w w' := by
 cases i with
 | true => exact Zcf hG x y k
 | false => exact Zcg hG x y hx hy k hk
structure GB (w : World) (g : Nat) (x y : K) (k : Nat) : Prop where
 base : w.rangeAt g (1 + 3 * 12) (pt x y false).toList
 ord : w.rangeAt g (2 + 5 * 12) (W4.cs (limb k)).toList
 lt : g < w.heap.size
theorem GB.below {w w' : World} {g k : Nat} {x y : K} (h : GB w g x y k) (hb : Below w.heap.size w w') : GB w' g x y k :=
 ⟨Za0 (hb.block _ h.lt) h.base, Za0 (hb.block _ h.lt) h.ord, Nat.lt_of_lt_of_le h.lt hb.size⟩
structure CAt (w : World) (c g p m : Nat) (b bx bY : K) (k : Nat) : Prop where
 at_ : w.cell? ⟨c, 2, none⟩ = some (.pointer (some ⟨g, 0, none⟩))
 ga : GAt w g p m b
 gb : GB w g bx bY k
 clt : c < w.heap.size
theorem CAt.below {w w' : World} {c g p m : Nat} {b bx bY : K} {k : Nat} (h : CAt w c g p m b bx bY k) (hb : Below w.heap.size w w') : CAt w' c g p m b bx bY k :=
 ⟨(hb.cell (p := ⟨c, 2, none⟩) h.clt).trans h.at_, h.ga.below hb, h.gb.below hb, Nat.lt_of_lt_of_le h.clt hb.size⟩
end Go.Proofs.YtcbdbnfgnonacaaGreat.Q6
namespace Go.Proofs.YtcbdbnfgnonacaaGreat
open Go.RowKit Go.Shelf
theorem ZeE (a : Nat) : W6.cs (limb a) = P6.nv a := (P6.Za3 a).symm
theorem ZiF {A B C D : Array Value} (hA : A.size = 6) (hB : B.size = 6) (hC : C.size = 6) (hD : D.size = 6) (i : Bool) (w : World) :
  (Instr.build 30 #[(0, .agg A), (1, .agg B), (2, .agg C), (3, .agg D), (4, .bool i)]).run Tryz.prog w = .ok (.agg (A ++ (B ++ (C ++ (D ++ #[.bool i]))))) w := by
 refine Zb8 (fs := fsOf (Tryz.prog.underlying 30)) (z := #[] ++ (P6.zn ++ (P6.zn ++ (P6.zn ++ (P6.zn ++ #[.bool false]))))) (places := #[(0, 6), (6, 6), (12, 6), (18, 6), (24, 1)]) (by kernel_rfl) (by kernel_rfl) (by kernel_rfl) ?_
 rw [Zbq (X := A) rfl (off := 0) (size := 6) rfl hA rfl P6.Zca, Array.empty_append]
 rw [Zbq (X := B) rfl (off := 6) (size := 6) rfl hB hA P6.Zca]
 rw [← Array.append_assoc (xs := A), Zbq (X := C) rfl (off := 12) (size := 6) rfl hC (by rw [Array.size_append, hA, hB]) P6.Zca]
 rw [← Array.append_assoc (xs := A ++ B), Zbq (X := D) rfl (off := 18) (size := 6) rfl hD (by rw [Array.size_append, Array.size_append, hA, hB, hC]) P6.Zca]
 have e : A ++ B ++ C ++ (D ++ #[Value.bool false]) = (A ++ B ++ C ++ D) ++ (#[Value.bool false] ++ #[]) := by rw [Array.append_empty, ← Array.append_assoc]
 rw [e, Zbq (X := #[.bool i]) rfl (off := 24) (size := 1) rfl rfl (by rw [Array.size_append, Array.size_append, Array.size_append, hA, hB, hC, hD]) rfl, Array.append_empty]
 simp only [Array.append_assoc]
 rfl
theorem ZiG {A C : Array Value} (hA : A.size = 6) (hC : C.size = 6) (i : Bool) (w : World) :
  (Instr.build 30 #[(0, .agg A), (2, .agg C), (4, .bool i)]).run Tryz.prog w = .ok (.agg (A ++ (P6.zn ++ (C ++ (P6.zn ++ #[.bool i]))))) w := by
 refine Zb8 (fs := fsOf (Tryz.prog.underlying 30)) (z := #[] ++ (P6.zn ++ (P6.zn ++ (P6.zn ++ (P6.zn ++ #[.bool false]))))) (places := #[(0, 6), (6, 6), (12, 6), (18, 6), (24, 1)]) (by kernel_rfl) (by kernel_rfl) (by kernel_rfl) ?_
 rw [Zbq (X := A) rfl (off := 0) (size := 6) rfl hA rfl P6.Zca, Array.empty_append]
 rw [← Array.append_assoc (xs := A), Zbq (X := C) rfl (off := 12) (size := 6) rfl hC (by rw [Array.size_append, hA, P6.Zca]) P6.Zca]
 have e : A ++ P6.zn ++ (C ++ (P6.zn ++ #[Value.bool false])) = (A ++ P6.zn ++ C ++ P6.zn) ++ (#[Value.bool false] ++ #[]) := by simp only [Array.append_empty, Array.append_assoc]
 rw [e, Zbq (X := #[.bool i]) rfl (off := 24) (size := 1) rfl rfl (by rw [Array.size_append, Array.size_append, Array.size_append, hA, hC, P6.Zca]) rfl, Array.append_empty]
 simp only [Array.append_assoc]
 rfl
theorem bd_pn4 (a b c d : Nat) (i : Bool) (w : World) : (Instr.build 30 #[(0, .agg (P6.nv a)), (1, .agg (P6.nv b)), (2, .agg (P6.nv c)), (3, .agg (P6.nv d)), (4, .bool i)]).run Tryz.prog w = .ok (.agg (pn a b c d i)) w := by
 rw [Zcp, ZeE, ZeE, ZeE, ZeE]
 exact ZiF (P6.Zai _) (P6.Zai _) (P6.Zai _) (P6.Zai _) i w
theorem bd_pn2 (a c : Nat) (i : Bool) (w : World) : (Instr.build 30 #[(0, .agg (P6.nv a)), (2, .agg (P6.nv c)), (4, .bool i)]).run Tryz.prog w = .ok (.agg (pn a 0 c 0 i)) w := by
 have hz : W6.cs (limb 0) = P6.zn := by rw [ZeE]; exact P6.ZcN
 rw [Zcp, hz, ZeE, ZeE]
 exact ZiG (P6.Zai _) (P6.Zai _) i w
section
variable {w : World} {b t : Nat} {x y : Q6.K} {i : Bool}
theorem q6_x0 (h : w.heap[b]? = some (.cells (Q6.pt x y i) t (0, 0))) : w.rangeAt b 0 (P6.nv x.1).toList := by
 refine ZaS (A := #[]) (C := P6.nv x.2 ++ (Q6.nv y ++ #[.bool i])) (t := t) ?_ rfl
 rw [h, Q6.ZaR, Q6.Za3 x, Array.empty_append, Array.append_assoc]
theorem q6_x1 (h : w.heap[b]? = some (.cells (Q6.pt x y i) t (0, 0))) : w.rangeAt b 6 (P6.nv x.2).toList := by
 refine ZaS (A := P6.nv x.1) (C := Q6.nv y ++ #[.bool i]) (t := t) ?_ (P6.Zai _)
 rw [h, Q6.ZaR, Q6.Za3 x, Array.append_assoc]
theorem q6_y0 (h : w.heap[b]? = some (.cells (Q6.pt x y i) t (0, 0))) : w.rangeAt b 12 (P6.nv y.1).toList := by
 refine ZaS (A := Q6.nv x) (C := P6.nv y.2 ++ #[.bool i]) (t := t) ?_ (Q6.Zai _)
 rw [h, Q6.ZaR, Q6.Za3 y, Array.append_assoc]
theorem q6_y1 (h : w.heap[b]? = some (.cells (Q6.pt x y i) t (0, 0))) : w.rangeAt b 18 (P6.nv y.2).toList := by
 refine ZaS (A := Q6.nv x ++ P6.nv y.1) (C := #[.bool i]) (t := t) ?_ (by rw [Array.size_append, Q6.Zai, P6.Zai])
 rw [h, Q6.ZaR, Q6.Za3 y, Array.append_assoc, Array.append_assoc]
end
theorem Zge (x y : P6.K) (i : Bool) (w : World) : Calls Tryz.prog 22 #[.agg (P6.pt x y i)] w fun e w' => e = .returned (.agg (pn x 0 y 0 i)) ∧ Below w.heap.size w w' := by
 go_enter Tryz.func22, Tryz.ntmps22
 refine Zad (fun K0 HK0 => ?_)
 go_wp2_with fail
 refine HK0.out _ _ ?_
 clear HK0 K0
 refine Zam (fun W0 hW0 => ?_)
 have hb0 : W0.heap[w.heap.size]? = some (.cells (P6.pt x y i) 53 (0, 0)) := by
  rw [hW0]
  exact ((Zag _ _ (by simp <;> omega)).trans (Zaf _ _))
 have hbr : ∃ C : Array Value, W0.heap[w.heap.size + 1]? = some (.cells C 30 (0, 0)) ∧ C.size = 25 := by
  rw [hW0]
  exact ⟨_, Zav _ _ _, rfl⟩
 have hbw : Below w.heap.size w W0 := by
  rw [hW0]
  repeat first | exact Below.refl _ _ | (refine Below.alloc ?_ (by simp <;> omega) _)
 clear hW0
 obtain ⟨C, hC, hs⟩ := hbr
 have HC := hideP hC
 have H0 := hideP hb0
 have HBW := hideP hbw
 clear hC hb0 hbw
 generalize w.heap.size = N at *
 generalize hB1 : N + 1 = B1 at *
 have o1 : N < B1 := by omega
 clear hB1
 refine Zad (fun K1 HK1 => ?_)
 refine wp_region_list ?_
 refine Zac rfl (fun K hK => ?_)
 go_simp
 refine hK _ _ ?_
 clear hK K
 refine Zak rfl 28 (.tmp 3) 4 rfl rfl N 0 (P6.nv x) rfl _ (P6.pt_x H0.out) P6.underE rfl (P6.infoE (P6.Zai _)) ?_
 simp only [Zs, Zz]
 refine Zac rfl (fun K hK => ?_)
 go_simp
 refine hK _ _ ?_
 clear hK K
 refine Zak rfl 28 (.tmp 5) 6 rfl rfl N 6 (P6.nv y) rfl _ (P6.pt_y H0.out) P6.underE rfl (P6.infoE (P6.Zai _)) ?_
 simp only [Zs, Zz]
 refine Zac rfl (fun K hK => ?_)
 go_simp
 refine hK _ _ ?_
 clear hK K
 refine Zac rfl (fun K hK => ?_)
 have hf := P6.pt_i H0.out
 go_simp
 refine hK _ _ ?_
 clear hK K hf
 refine Zac rfl (fun K hK => ?_)
 refine P4.ZbI 30 _ #[(0, .agg (P6.nv x)), (2, .agg (P6.nv y)), (4, .bool i)] 9 rfl rfl (by simp only [List.map_toArray, List.map_cons, List.map_nil]; rfl) (bd_pn2 x y i W0) ?_
 refine hK _ _ ?_
 clear hK K
 simp only [Zs, Zz]
 have hQ := KQ.start HC.out hs
 refine Zal rfl 30 (.tmp 2) (.tmp 9) rfl rfl B1 0 (pn x 0 y 0 i) rfl rfl (hQ.there (Za8 _ _ _ _ _)) (infoPn (Za8 _ _ _ _ _)) (Zgd _ _ _ _ _) ?_
 have g1 := hQ.put (C := pn x 0 y 0 i) (Za8 _ _ _ _ _)
 have hS := hQ.store (C := pn x 0 y 0 i) (Za8 _ _ _ _ _)
 generalize World.setCells _ B1 0 (pn x 0 y 0 i).toList = x10 at g1 hS ⊢
 refine wpList_nil ?_
 refine HK1.out _ _ ?_
 refine wp_ret ?_
 exact bodyPost_ret_by (ZaH rfl rfl (loadC _ B1 0 30 (pn x 0 y 0 i) _ (Zah g1) Zd4 rfl (infoPn (Za8 _ _ _ _ _)))) rfl ⟨rfl, HBW.out.trans (hS.below.mono (by omega))⟩
theorem Zgf (x y : Q6.K) (i : Bool) (w : World) : Calls Tryz.prog 25 #[.agg (Q6.pt x y i)] w fun e w' => e = .returned (.agg (pn x.1 x.2 y.1 y.2 i)) ∧ Below w.heap.size w w' := by
 go_enter Tryz.func25, Tryz.ntmps25
 refine Zad (fun K0 HK0 => ?_)
 go_wp2_with fail
 refine HK0.out _ _ ?_
 clear HK0 K0
 refine Zam (fun W0 hW0 => ?_)
 have hb0 : W0.heap[w.heap.size]? = some (.cells (Q6.pt x y i) 58 (0, 0)) := by
  rw [hW0]
  exact ((Zag _ _ (by simp <;> omega)).trans (Zaf _ _))
 have hbr : ∃ C : Array Value, W0.heap[w.heap.size + 1]? = some (.cells C 30 (0, 0)) ∧ C.size = 25 := by
  rw [hW0]
  exact ⟨_, Zav _ _ _, rfl⟩
 have hbw : Below w.heap.size w W0 := by
  rw [hW0]
  repeat first | exact Below.refl _ _ | (refine Below.alloc ?_ (by simp <;> omega) _)
 clear hW0
 obtain ⟨C, hC, hs⟩ := hbr
 have HC := hideP hC
 have H0 := hideP hb0
 have HBW := hideP hbw
 clear hC hb0 hbw
 generalize w.heap.size = N at *
 generalize hB1 : N + 1 = B1 at *
 have o1 : N < B1 := by omega
 clear hB1
 refine Zad (fun K1 HK1 => ?_)
 refine wp_region_list ?_
 refine Zac rfl (fun K hK => ?_)
 go_simp
 refine hK _ _ ?_
 clear hK K
 refine Zac rfl (fun K hK => ?_)
 go_simp
 refine hK _ _ ?_
 clear hK K
 refine Zak rfl 28 (.tmp 4) 5 rfl rfl N 0 (P6.nv x.1) rfl _ (q6_x0 H0.out) P6.underE rfl (P6.infoE (P6.Zai _)) ?_
 simp only [Zs, Zz]
 refine Zac rfl (fun K hK => ?_)
 go_simp
 refine hK _ _ ?_
 clear hK K
 refine Zac rfl (fun K hK => ?_)
 go_simp
 refine hK _ _ ?_
 clear hK K
 refine Zak rfl 28 (.tmp 7) 8 rfl rfl N 6 (P6.nv x.2) rfl _ (q6_x1 H0.out) P6.underE rfl (P6.infoE (P6.Zai _)) ?_
 simp only [Zs, Zz]
 refine Zac rfl (fun K hK => ?_)
 go_simp
 refine hK _ _ ?_
 clear hK K
 refine Zac rfl (fun K hK => ?_)
 go_simp
 refine hK _ _ ?_
 clear hK K
 refine Zak rfl 28 (.tmp 10) 11 rfl rfl N 12 (P6.nv y.1) rfl _ (q6_y0 H0.out) P6.underE rfl (P6.infoE (P6.Zai _)) ?_
 simp only [Zs, Zz]
 refine Zac rfl (fun K hK => ?_)
 go_simp
 refine hK _ _ ?_
 clear hK K
 refine Zac rfl (fun K hK => ?_)
 go_simp
 refine hK _ _ ?_
 clear hK K
 refine Zak rfl 28 (.tmp 13) 14 rfl rfl N 18 (P6.nv y.2) rfl _ (q6_y1 H0.out) P6.underE rfl (P6.infoE (P6.Zai _)) ?_
 simp only [Zs, Zz]
 refine Zac rfl (fun K hK => ?_)
 go_simp
 refine hK _ _ ?_
 clear hK K
 refine Zac rfl (fun K hK => ?_)
 have hf := Q6.pt_i H0.out
 go_simp
 refine hK _ _ ?_
 clear hK K hf
 refine Zac rfl (fun K hK => ?_)
 refine P4.ZbI 30 _ #[(0, .agg (P6.nv x.1)), (1, .agg (P6.nv x.2)), (2, .agg (P6.nv y.1)), (3, .agg (P6.nv y.2)), (4, .bool i)] 17 rfl rfl (by simp only [List.map_toArray, List.map_cons, List.map_nil]; rfl) (bd_pn4 _ _ _ _ i W0) ?_
 refine hK _ _ ?_
 clear hK K
 simp only [Zs, Zz]
 have hQ := KQ.start HC.out hs
 refine Zal rfl 30 (.tmp 2) (.tmp 17) rfl rfl B1 0 (pn x.1 x.2 y.1 y.2 i) rfl rfl (hQ.there (Za8 _ _ _ _ _)) (infoPn (Za8 _ _ _ _ _)) (Zgd _ _ _ _ _) ?_
 have g1 := hQ.put (C := pn x.1 x.2 y.1 y.2 i) (Za8 _ _ _ _ _)
 have hS := hQ.store (C := pn x.1 x.2 y.1 y.2 i) (Za8 _ _ _ _ _)
 generalize World.setCells _ B1 0 (pn x.1 x.2 y.1 y.2 i).toList = x10 at g1 hS ⊢
 refine wpList_nil ?_
 refine HK1.out _ _ ?_
 refine wp_ret ?_
 exact bodyPost_ret_by (ZaH rfl rfl (loadC _ B1 0 30 (pn x.1 x.2 y.1 y.2 i) _ (Zah g1) Zd4 rfl (infoPn (Za8 _ _ _ _ _)))) rfl ⟨rfl, HBW.out.trans (hS.below.mono (by omega))⟩
end Go.Proofs.YtcbdbnfgnonacaaGreat
namespace Go.Proofs.YtcbdbnfgnonacaaGreat.P4
open Go.RowKit Go.Shelf
def mulP (m : Nat) (b x y : K) (i : Bool) (k : Nat) : P3 := if goodN m b x y i = 0 then outS m (timesP m x y i k) else (k0, k0, false)
def Zbk (m : Nat) (b x y : K) (i : Bool) (kk : Nat) : Int := if goodN m b x y i = 0 then (if Like m (timesP m x y i kk).2.2 k0 then 0 else 72) else goodN m b x y i
abbrev cp0 : SV := .one (.xp 1 0)
abbrev wdE : SV := .row [.e 2 (.c 0)]
abbrev iE (e : Int) : SV := .one (.v (.int .i64 e))
abbrev P0 : SV := ptE (.v 0) (.v 1) (.at_ 0)
abbrev S2 : EX × EX × EX := (.v 2, .v 3, .v 4)
def vA (x y x2 y2 : K) (s u : T3) (q : P3) : Nat → K
 | 0 => x
 | 1 => y
 | 2 => s.1
 | 3 => s.2.1
 | 4 => s.2.2
 | 5 => q.1
 | 6 => q.2.1
 | 7 => x2
 | 8 => y2
 | 9 => u.1
 | 10 => u.2.1
 | _ => u.2.2
def bA (i : Bool) (q : P3) (i2 : Bool) : Nat → Bool
 | 0 => i
 | 1 => q.2.2
 | _ => i2
def fitA : Nat → Bool
 | 0 => true
 | 1 => true
 | 7 => true
 | 8 => true
 | _ => false
theorem fitsA {x y x2 y2 : K} {s u : T3} {q : P3} (hx : Fits x) (hy : Fits y) (hx2 : Fits x2) (hy2 : Fits y2) (i : Nat) (h : fitA i = true) : Fits (vA x y x2 y2 s u q i) := by
 unfold fitA at h
 split at h
 ·
  exact hx
 ·
  exact hy
 ·
  exact hx2
 ·
  exact hy2
 ·
  cases h
def xlC (o : Bool) (i q t : Nat) : Option SV := match i with
 | 0 => if q = 1 + 3 * 4 ∧ t = 125 then some (ptE (.c 3) (.c 4) (.lit false)) else if o = true ∧ q = 2 + 5 * 4 ∧ t = 65 then some wdE else none
 | _ + 1 => if q = 1 ∧ t = 114 then some gp0 else none
section
variable {w : World} {D : Dt} (HG : GAt w D.g D.p D.m D.b)
include HG
theorem Zcm (X Y : EX) (C : CX) (hX : Fits ((al D).d X)) (hY : Fits ((al D).d Y)) {e : Int} (h : goodN D.m D.b ((al D).d X) ((al D).d Y) ((al D).cx C) = e) : FactOK Tryz.prog (al D) w (111, [gp0, ptE X Y C], iE e) :=
 ⟨en Tryz.func111, fun β V hV => by
  simp only [Al.sv, List.map_cons, List.map_nil, ZaO]
  exact Zdm (HG.below hV) _ _ hX hY _ h⟩
theorem ZcP (hk : D.kw < 2 ^ 256) (X Y : EX) (C : CX) (S : EX × EX × EX) (hX : Fits ((al D).d X)) (hY : Fits ((al D).d Y)) (h : timesP D.m ((al D).d X) ((al D).d Y) ((al D).cx C) D.kw = ((al D).d S.1, (al D).d S.2.1, (al D).d S.2.2)) : FactOK Tryz.prog (al D) w (169, [gp0, ptE X Y C, wdE], scE S) :=
 ⟨en Tryz.func169, fun β V hV => by
  have := Zdn (HG.below hV) _ _ hX hY ((al D).cx C) D.kw hk
  rw [h] at this
  clear h
  simp only [scE, Al.sv, List.map_cons, List.map_nil, ZaO, Zbz, rw_w]
  exact this⟩
theorem out_f (S : EX × EX × EX) (X Y : EX) (C : CX) (h : outS D.m ((al D).d S.1, (al D).d S.2.1, (al D).d S.2.2) = ((al D).d X, (al D).d Y, (al D).cx C)) : FactOK Tryz.prog (al D) w (179, [gp0, scE S], ptE X Y C) :=
 ⟨en Tryz.func179, fun β V hV => by
  have := out_S (HG.below hV) ((al D).d S.1, (al D).d S.2.1, (al D).d S.2.2)
  rw [h] at this
  clear h
  simp only [scE, Al.sv, List.map_cons, List.map_nil, ZaO, Zbz]
  exact this⟩
end
section
variable {w : World} {c g p m : Nat} {b bx bY : K} {kk : Nat} (hG : CAt w c g p m b bx bY kk)
include hG
theorem ZeF {kw : Nat} {v : Nat → K} {bo : Nat → Bool} {o : Bool} (ho : o = true → kw = kk) : XLOK (al ⟨m, g, p, b, bx, bY, kw, v, bo, c⟩) (xlC o) w := fun i q t y β V h hV => by
 have H := hG.below hV
 unfold xlC at h
 split at h
 ·
  split at h
  ·
   rename_i e
   obtain ⟨rfl, rfl⟩ := e
   cases h
   rw [Al.sv, ZaO]
   exact loadC V g _ _ _ _ H.gb.base Zcc rfl (infoPt (ZaD _ _ _))
  ·
   split at h
   ·
    rename_i e
    obtain ⟨ho', rfl, rfl⟩ := e
    cases h
    rw [Al.sv, rw_w, ho ho']
    exact loadC V g _ _ _ _ H.gb.ord Zce rfl (infoWd (W4.Za5 _))
   ·
    cases h
 ·
  split at h
  ·
   rename_i e
   obtain ⟨rfl, rfl⟩ := e
   cases h
   exact ld1 (by kernel_rfl) H.at_
  ·
   cases h
theorem Zb2 (kw : Nat) (v : Nat → K) (bo : Nat → Bool) (hv : ∀ i, fitA i = true → Fits (v i)) (o : Bool) (ho : o = true → kw = kk) (G : List (CX × Bool)) (gOK : GsOK (al ⟨m, g, p, b, bx, bY, kw, v, bo, c⟩) G) (F : List Fact) (hF : ZbV Tryz.prog (al ⟨m, g, p, b, bx, bY, kw, v, bo, c⟩) w F) {f : Nat} {fn : Func} (hf : Tryz.prog.funcs[f]? = some fn) {args : List SV} {y : SV} (h : runG fitA G (factT F) (xlC o) fn args = some y) :
  Calls Tryz.prog f (args.map ((al ⟨m, g, p, b, bx, bY, kw, v, bo, c⟩).sv fun _ => 0)).toArray w fun e w' => e = .returned ((al ⟨m, g, p, b, bx, bY, kw, v, bo, c⟩).sv (fun _ => 0) y) ∧ Below w.heap.size w w' :=
 ZbH ⟨m, g, p, b, bx, bY, kw, v, bo, c⟩ fitA G hG.ga hv gOK.all (ZbU hF) (ZeF hG ho) hf h _
set_option maxRecDepth 100000
theorem Zcn : Calls Tryz.prog 16 #[.pointer (some ⟨c, 0, none⟩)] w fun e w' => e = .returned (.agg (pt bx bY false)) ∧ Below w.heap.size w w' := by
 have := Zb2 hG 0 (fun _ => k0) (fun _ => false) (fun _ _ => Zbt) false (fun h => by cases h) [] trivial [] trivial Tryz.func16 (args := [cp0]) (y := ptE (.c 3) (.c 4) (.lit false)) (by kernel_rfl)
 simp only [Al.sv, List.map_cons, List.map_nil, ZaO] at this
 exact this
variable (x y : K) (hx : Fits x) (hy : Fits y)
include hx hy
theorem Zhj (i : Bool) : Calls Tryz.prog 35 #[.pointer (some ⟨c, 0, none⟩), .agg (pt x y i)] w fun e w' => e = .returned (.int .i64 (goodN m b x y i)) ∧ Below w.heap.size w w' := by
 have := Zb2 hG 0 (vA x y x y (k0, k0, k0) (k0, k0, k0) (k0, k0, i)) (bA i (k0, k0, i) i) (fitsA hx hy hx hy) false (fun h => by cases h) [] trivial [(111, [gp0, P0], iE (goodN m b x y i))] ⟨Zcm hG.ga (.v 0) (.v 1) (.at_ 0) (by exact hx) (by exact hy) rfl, trivial⟩ Tryz.func35 (args := [cp0, P0]) (y := iE (goodN m b x y i)) (by kernel_rfl)
 simp only [Al.sv, List.map_cons, List.map_nil, ZaO] at this
 exact this
theorem Zci (hk : kk < 2 ^ 256) (i : Bool) : Calls Tryz.prog 28 #[.pointer (some ⟨c, 0, none⟩), .agg (pt x y i)] w fun e w' => e = .returned (.int .i64 (Zbk m b x y i kk)) ∧ Below w.heap.size w w' := by
 unfold Zbk
 have bad : ∀ e0 : Int, goodN m b x y i = e0 → runG fitA [] (factT [(111, [gp0, P0], iE e0)]) (xlC false) Tryz.f28 [cp0, P0] = some (iE e0) → Calls Tryz.prog 28 #[.pointer (some ⟨c, 0, none⟩), .agg (pt x y i)] w fun e w' => e = .returned (.int .i64 e0) ∧ Below w.heap.size w w' := fun e0 he h => by
  have := Zb2 hG 0 (vA x y x y (k0, k0, k0) (k0, k0, k0) (k0, k0, i)) (bA i (k0, k0, i) i) (fitsA hx hy hx hy) false (fun h => by cases h) [] trivial [(111, [gp0, P0], iE e0)] ⟨Zcm hG.ga (.v 0) (.v 1) (.at_ 0) (by exact hx) (by exact hy) he, trivial⟩ Tryz.func28 h
  simp only [Al.sv, List.map_cons, List.map_nil, ZaO] at this
  exact this
 rcases Zbv m b x y i with he | he | he
 ·
  rw [he, if_pos rfl]
  have main : ∀ s : T3, timesP m x y i kk = s → Calls Tryz.prog 28 #[.pointer (some ⟨c, 0, none⟩), .agg (pt x y i)] w fun e w' => e = .returned (.int .i64 (if Like m s.2.2 k0 then 0 else 72)) ∧ Below w.heap.size w w' := fun s hs => by
   have hF : ZbV Tryz.prog (al ⟨m, g, p, b, bx, bY, kk, vA x y x y s (k0, k0, k0) (k0, k0, i), bA i (k0, k0, i) i, c⟩) w [(111, [gp0, P0], iE 0), (169, [gp0, P0, wdE], scE S2)] := ⟨Zcm hG.ga (.v 0) (.v 1) (.at_ 0) (by exact hx) (by exact hy) he, ZcP hG.ga hk (.v 0) (.v 1) (.at_ 0) S2 (by exact hx) (by exact hy) hs, trivial⟩
   by_cases hz : Like m s.2.2 k0
   ·
    rw [if_pos hz]
    have := Zb2 hG kk _ _ (fitsA hx hy hx hy) true (fun _ => rfl) [(.lk 0 (.v 4) (.c 0), true)] ⟨(Zat _ _ _).trans (decide_eq_true hz), trivial⟩ _ hF Tryz.func28 (args := [cp0, P0]) (y := iE 0) (by kernel_rfl)
    simp only [Al.sv, List.map_cons, List.map_nil, ZaO] at this
    exact this
   ·
    rw [if_neg hz]
    have := Zb2 hG kk _ _ (fitsA hx hy hx hy) true (fun _ => rfl) [(.lk 0 (.v 4) (.c 0), false)] ⟨(Zat _ _ _).trans (decide_eq_false hz), trivial⟩ _ hF Tryz.func28 (args := [cp0, P0]) (y := iE 72) (by kernel_rfl)
    simp only [Al.sv, List.map_cons, List.map_nil, ZaO] at this
    exact this
  exact main _ rfl
 ·
  rw [he]
  exact bad 70 he (by kernel_rfl)
 ·
  rw [he]
  exact bad 71 he (by kernel_rfl)
theorem Zk3 (i : Bool) (k : Nat) (hk : k < 2 ^ 256) : Calls Tryz.prog 43 #[.pointer (some ⟨c, 0, none⟩), .agg (pt x y i), .agg (W4.cs (limb k))] w fun e w' => e = .returned (.tuple #[.agg (ptS (mulP m b x y i k)), .int .i64 (goodN m b x y i)]) ∧ Below w.heap.size w w' := by
 unfold mulP
 have bad : ∀ e0 : Int, goodN m b x y i = e0 → runG fitA [] (factT [(111, [gp0, P0], iE e0)]) (xlC false) Tryz.f43 [cp0, P0, wdE] = some (.tup (ptE (.c 0) (.c 0) (.lit false)) (iE e0)) → Calls Tryz.prog 43 #[.pointer (some ⟨c, 0, none⟩), .agg (pt x y i), .agg (W4.cs (limb k))] w fun e w' => e = .returned (.tuple #[.agg (ptS (k0, k0, false)), .int .i64 e0]) ∧ Below w.heap.size w w' := fun e0 he h => by
  have := Zb2 hG k (vA x y x y (k0, k0, k0) (k0, k0, k0) (k0, k0, i)) (bA i (k0, k0, i) i) (fitsA hx hy hx hy) false (fun h => by cases h) [] trivial [(111, [gp0, P0], iE e0)] ⟨Zcm hG.ga (.v 0) (.v 1) (.at_ 0) (by exact hx) (by exact hy) he, trivial⟩ Tryz.func43 h
  simp only [Al.sv, List.map_cons, List.map_nil, ZaO, rw_w] at this
  exact this
 rcases Zbv m b x y i with he | he | he
 ·
  rw [he, if_pos rfl]
  have main : ∀ (s : T3) (q : P3), timesP m x y i k = s → outS m s = q → Calls Tryz.prog 43 #[.pointer (some ⟨c, 0, none⟩), .agg (pt x y i), .agg (W4.cs (limb k))] w fun e w' => e = .returned (.tuple #[.agg (ptS q), .int .i64 0]) ∧ Below w.heap.size w w' := fun s q hs hq => by
   have hF : ZbV Tryz.prog (al ⟨m, g, p, b, bx, bY, k, vA x y x y s (k0, k0, k0) q, bA i q i, c⟩) w [(111, [gp0, P0], iE 0), (169, [gp0, P0, wdE], scE S2), (179, [gp0, scE S2], ptE (.v 5) (.v 6) (.at_ 1))] := ⟨Zcm hG.ga (.v 0) (.v 1) (.at_ 0) (by exact hx) (by exact hy) he, ZcP hG.ga hk (.v 0) (.v 1) (.at_ 0) S2 (by exact hx) (by exact hy) hs, out_f hG.ga S2 (.v 5) (.v 6) (.at_ 1) hq, trivial⟩
   have := Zb2 hG k _ _ (fitsA hx hy hx hy) false (fun h => by cases h) [] trivial _ hF Tryz.func43 (args := [cp0, P0, wdE]) (y := .tup (ptE (.v 5) (.v 6) (.at_ 1)) (iE 0)) (by kernel_rfl)
   simp only [Al.sv, List.map_cons, List.map_nil, ZaO, rw_w] at this
   exact this
  exact main _ _ rfl rfl
 ·
  rw [he, if_neg (by decide)]
  exact bad 70 he (by kernel_rfl)
 ·
  rw [he, if_neg (by decide)]
  exact bad 71 he (by kernel_rfl)
variable (x2 y2 : K) (hx2 : Fits x2) (hy2 : Fits y2)
include hx2 hy2
end
end Go.Proofs.YtcbdbnfgnonacaaGreat.P4
