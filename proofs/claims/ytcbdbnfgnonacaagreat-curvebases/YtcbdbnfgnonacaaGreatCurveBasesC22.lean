/-
 Elements and places that are held against one another.
-/
import Derived.Test.YtcbdbnfgnonacaaGreatCurveBasesC21
set_option maxHeartbeats 4000000
set_option maxRecDepth 100000
namespace Go.Proofs.YtcbdbnfgnonacaaGreat.P4
open Go.RowKit Go.Shelf
attribute [local go_sem] Oper.semAt_some
theorem Zan (m : Nat) (s : T3) : (scS m s).size = 3 * 4 := ZaX _ _ _ _
theorem Zb7 (m : Nat) (s : T3) : (scS m s).all (·.oneCell') = true := ZcM _ _ _ _
theorem ZaB {B l : Nat} {W V : World} {o : Obj} (h : Below B W V) (hl : B ≤ l) : Below B W (V.putObj l o) :=
 ⟨h.os, h.tape, h.output, by rw [show (V.putObj l o).heap.size = V.heap.size by simp [World.putObj]]; exact h.size, fun k hk => (World.putObj_heap_other (by omega)).trans (h.block k hk)⟩
theorem KQ.putObj {W V : World} {R0 n ty l : Nat} {o : Obj} (h : KQ W R0 n ty V) (hl : W.heap.size ≤ l) (hR : R0 < l) : KQ W R0 n ty (V.putObj l o) := by
 obtain ⟨g, hg, hn⟩ := h.res
 exact ⟨fun b h1 h2 => (World.putObj_heap_other (by omega)).trans (h.same b h1 h2), ZaB h.below (by omega), g, (World.putObj_heap_other (by omega)).trans hg, hn⟩
theorem Zce : Tryz.prog.underlying 65 = some (.array 4 27) := by kernel_rfl
theorem infoWd {C : Array Value} (h : C.size = 4) : (Tryz.prog.info? 65).map (·.size) = some C.size := by rw [h]; kernel_rfl
theorem Zc8 {P : Program} {op : Oper} {l : List Value} {ds : List Deferred} {w w' : World} {K : Act → World → Prop} {Q : Exit → Act → World → Prop} (args : Array Operand) (tys : Array TypeId) (d : Nat) {f : Nat} (ho : op.op = .call { callee := .value (.func f), args := args, argTypes := tys }) (hd : op.dst = some d) {av : Array Value}
  (hx : args.map (Act.eval { tmps := l.toArray, defers := ds }) = av) (hm : ∀ av w, (callFunc f av).run P w = .ok (.enter f av) w) {v : Value} (hc : Calls P f av w fun e w'' => e = .returned v ∧ w'' = w')
  (h : K { tmps := (l.set d v).toArray, defers := ds } w') : op.wp P { tmps := l.toArray, defers := ds } w K Q := by
 unfold Oper.wp execOp
 have he : (do let d ← resolve (Act.eval { tmps := l.toArray, defers := ds }) { callee := .value (.func f), args := args, argTypes := tys } op.type; invoke d.target d.args).run P w = .ok (.enter f av) w := by
  have hf : Act.eval { tmps := l.toArray, defers := ds } (.func f) = .func (.func f) #[] #[] := rfl
  simp only [resolve, invoke, Deferred.ofValue, hf, Sem.run_bind, Sem.run_pure, Result.andThen, hx]
  simp [hm]
 simp only [ho]
 rw [he]
 refine hc.mono ?_
 rintro e w'' ⟨rfl, rfl⟩
 show K _ _
 rw [hd, Zab]
 exact h
theorem Zcf {w : World} {g p m : Nat} {b : K} (hG : GAt w g p m b) (x y : K) (k : Nat) :
  Calls Tryz.prog 169 #[.pointer (some ⟨g, 0, none⟩), .agg (pt x y true), .agg (W4.cs (limb k))] w fun e w' => e = .returned (.agg (sc m k1 k1 k0)) ∧ Below w.heap.size w w' := by
 have := ZbH ⟨m, g, p, b, b, b, k, v5 x y x x x, fun _ => false, 0⟩ nofit [] hG (fun _ h => by cases h) (fun _ h => by cases h) (ZbS w) (noL w) Tryz.func169 (args := [gp0, ptE (.v 0) (.v 1) (.lit true), .row [.e 2 (.c 0)]]) (y := scE (.c 1, .c 1, .c 0)) (by kernel_rfl) (fun _ => 0)
 simp only [scE, Al.sv, List.map_cons, List.map_nil, Zbz, ZaO, rw_w] at this
 exact this
theorem Zcg {w : World} {g p m : Nat} {b : K} (hG : GAt w g p m b) (x y : K) (hx : Fits x) (hy : Fits y) (k : Nat) (hk : k < 2 ^ 256) :
  Calls Tryz.prog 169 #[.pointer (some ⟨g, 0, none⟩), .agg (pt x y false), .agg (W4.cs (limb k))] w fun e w' => e = .returned (.agg (scS m (timesS m (x, y) k))) ∧ Below w.heap.size w w' := by
 have hg := hG.glt
 have hp := hG.plt
 have HG9 := hideP hG
 have HK := hideP hk
 clear hG hk
 refine (callsIn_wide (n := 6)).1 ?_
 refine callsIn_of_wp_marks Tryz.func169 rfl trivial ?_ rfl
 simp only [Tryz.ntmps169, List.size_toArray, List.length_cons, List.length_nil, Nat.reduceAdd, Nat.reduceSub, Array.replicate_succ, Array.replicate_zero, List.push_toArray, List.append_toArray, List.nil_append, List.cons_append]
 refine wpIn_wide.2 ?_
 refine Zad (fun K0 HK0 => ?_)
 go_wp2_with fail
 refine HK0.out _ _ ?_
 clear HK0 K0
 refine Zam (fun W0 hW0 => ?_)
 have hb0 : W0.heap[w.heap.size]? = some (.cells #[.pointer (some ⟨g, 0, none⟩)] 114 (0, 0)) := by
  rw [hW0]
  exact ((Zag _ _ (by simp <;> omega)).trans ((Zag _ _ (by simp <;> omega)).trans ((Zag _ _ (by simp <;> omega)).trans (Zaf _ _))))
 have hb1 : W0.heap[w.heap.size + 1]? = some (.cells (pt x y false) 125 (0, 0)) := by
  rw [hW0]
  exact ((Zag _ _ (by simp <;> omega)).trans ((Zag _ _ (by simp <;> omega)).trans (Zav _ _ _)))
 have hb2 : W0.heap[w.heap.size + 1 + 1]? = some (.cells (W4.cs (limb k)) 65 (0, 0)) := by
  rw [hW0]
  exact ((Zag _ _ (by simp <;> omega)).trans (ZaF _ _ _ _))
 have hbr : ∃ C : Array Value, W0.heap[w.heap.size + 1 + 1 + 1]? = some (.cells C 264 (0, 0)) ∧ C.size = 3 * 4 := by
  rw [hW0]
  exact ⟨_, ZbM _ _ _ _ _, rfl⟩
 have hbw : Below w.heap.size w W0 := by
  rw [hW0]
  repeat first | exact Below.refl _ _ | (refine Below.alloc ?_ (by simp <;> omega) _)
 clear hW0
 have HG := hideP (HG9.out.below hbw)
 clear HG9
 have HBW := hideP hbw
 clear hbw
 generalize hN : w.heap.size = N at *
 clear hN
 generalize hB1 : N + 1 = B1 at *
 generalize hB2 : B1 + 1 = B2 at *
 generalize hB3 : B2 + 1 = B3 at *
 have o1 : N < B1 := by omega
 have o2 : B1 < B2 := by omega
 have o3 : B2 < B3 := by omega
 clear hB3 hB2 hB1
 have H0 := hideP hb0
 have H1 := hideP hb1
 have H2 := hideP hb2
 clear hb0 hb1 hb2
 obtain ⟨Cr, hbr, s_R⟩ := hbr
 have l3 := Zaa hbr
 have Hr := hideP hbr
 clear hbr
 refine Zad (fun K1 HK1 => ?_)
 refine wp_region_list ?_
 refine Zac rfl (fun K hK => ?_)
 have hf := Zae H0.out (o := 0) rfl
 go_simp
 refine hK _ _ ?_
 clear hK K hf
 refine Zac rfl (fun K hK => ?_)
 refine ZaT (av := #[.pointer (some ⟨g, 0, none⟩)]) _ _ 11 rfl rfl (by simp only [List.map_toArray, List.map_cons, List.map_nil]; rfl) (en Tryz.func228) (Zb6 HG.out) ?_
 intro x1 hbc
 refine hK _ _ ?_
 clear hK K
 simp only [Zs, Zz]
 refine Zac rfl (fun K hK => ?_)
 go_simp
 refine hK _ _ ?_
 clear hK K
 refine ZaN (fun x2 hx2 => ?_)
 have hb7 : ∃ C : Array Value, x2.heap[x1.heap.size]? = some (.cells C 264 (0, 0)) ∧ C.size = 3 * 4 := by
  rw [hx2]
  exact ⟨_, Zaf _ _, rfl⟩
 have hbe : Below x1.heap.size x1 x2 := by
  rw [hx2]
  exact (Below.refl _ _).alloc (Nat.le_refl _) _
 have hsz : x2.heap.size = x1.heap.size + 1 := by rw [hx2]; simp
 clear hx2
 obtain ⟨C7, hb7, s_7⟩ := hb7
 have o7 : W0.heap.size ≤ x1.heap.size := hbc.size
 have hB12 : Below W0.heap.size W0 x2 := hbc.trans (hbe.mono o7)
 generalize hL : x1.heap.size = L at *
 clear hbc hbe hL
 have hQ := KQ.start hb7 s_7
 refine Zal rfl 264 (.tmp 7) (.tmp 11) rfl rfl L 0 (sc m k1 k1 k0) rfl rfl (hQ.there (ZaX _ _ _ _)) (infoSc (ZaX _ _ _ _)) (ZcM _ _ _ _) ?_
 have g7 := hQ.put (C := sc m k1 k1 k0) (ZaX _ _ _ _)
 have hQ2 := hQ.store (C := sc m k1 k1 k0) (ZaX _ _ _ _)
 generalize World.setCells x2 L 0 (sc m k1 k1 k0).toList = x3 at g7 hQ2 ⊢
 have hB3 : Below W0.heap.size W0 x3 := hB12.trans (hQ2.below.mono o7)
 clear hQ hQ2 hb7 hB12
 clear hsz
 refine wpList_nil ?_
 refine HK1.out _ _ ?_
 clear HK1 K1
 have l7 := Zaa g7
 have G7 := hideP g7
 clear g7
 refine Zad (fun K2 HK2 => ?_)
 refine Zad (fun K1 HK1 => ?_)
 refine wp_region_list ?_
 refine Zac rfl (fun K hK => ?_)
 go_simp
 refine hK _ _ ?_
 clear hK K
 refine Zac rfl (fun K hK => ?_)
 have hf := pt_i ((hB3.block _ (Zaa H1.out)).trans H1.out)
 go_simp
 refine hK _ _ ?_
 clear hK K hf
 refine wpList_nil ?_
 refine HK1.out _ _ ?_
 clear HK1 K1
 refine wp_cond_false rfl ?_
 refine wp_skip ?_
 refine HK2.out _ _ ?_
 clear HK2 K2
 refine Zad (fun K1 HK1 => ?_)
 refine wp_region_list ?_
 refine Zac rfl (fun K hK => ?_)
 have hf := Zae ((hB3.block _ (Zaa H0.out)).trans H0.out) (o := 0) rfl
 go_simp
 refine hK _ _ ?_
 clear hK K hf
 refine Zak rfl 125 (.tmp 4) 16 rfl rfl B1 0 (pt x y false) rfl _ (Zah ((hB3.block _ (Zaa H1.out)).trans H1.out)) Zcc rfl (infoPt (ZaD _ _ _)) ?_
 simp only [Zs, Zz]
 refine Zac rfl (fun K hK => ?_)
 refine Zb4 (.tmp 15) (.tmp 16) _ 17 rfl rfl rfl rfl (en Tryz.func182) (ZeA (HG.out.below hB3) x y false hx hy) ?_
 intro x4 hbc
 refine hK _ _ ?_
 clear hK K
 simp only [Zs, Zz]
 refine Zac rfl (fun K hK => ?_)
 go_simp
 refine hK _ _ ?_
 clear hK K
 refine ZaN (fun x5 hx5 => ?_)
 have hb8 : ∃ C : Array Value, x5.heap[x4.heap.size]? = some (.cells C 262 (0, 0)) ∧ C.size = 2 * 4 := by
  rw [hx5]
  exact ⟨_, Zaf _ _, rfl⟩
 have hbe : Below x4.heap.size x4 x5 := by
  rw [hx5]
  exact (Below.refl _ _).alloc (Nat.le_refl _) _
 clear hx5
 obtain ⟨C8, hb8, s_8⟩ := hb8
 have o8 : x3.heap.size ≤ x4.heap.size := hbc.size
 have hB12 : Below x3.heap.size x3 x5 := hbc.trans (hbe.mono o8)
 generalize hM : x4.heap.size = M at *
 clear hbc hbe hM
 have hQ := KQ.start hb8 s_8
 refine Zal rfl 262 (.tmp 8) (.tmp 17) rfl rfl M 0 (pl m x y) rfl rfl (hQ.there (ZaQ _ _ _)) (infoPl (ZaQ _ _ _)) (ZcL _ _ _) ?_
 have g8 := hQ.put (C := pl m x y) (ZaQ _ _ _)
 have hQ2 := hQ.store (C := pl m x y) (ZaQ _ _ _)
 generalize World.setCells x5 M 0 (pl m x y).toList = x6 at g8 hQ2 ⊢
 have hB6 : Below x3.heap.size x3 x6 := hB12.trans (hQ2.below.mono o8)
 clear hQ hQ2 hb8 hB12
 refine wpList_nil ?_
 refine HK1.out _ _ ?_
 clear HK1 K1
 have l8 := Zaa g8
 refine Zad (fun K3 HK3 => ?_)
 refine Zad (fun K1 HK1 => ?_)
 refine wp_region_list ?_
 have hB36 : Below W0.heap.size W0 x6 := hB3.trans (hB6.mono hB3.size)
 refine Zak rfl 65 (.tmp 5) 18 rfl rfl B2 0 (W4.cs (limb k)) rfl _ (Zah ((hB36.block _ (Zaa H2.out)).trans H2.out)) Zce rfl (infoWd (W4.Za5 _)) ?_
 simp only [Zs, Zz]
 refine Zac rfl (fun K hK => ?_)
 refine Zc8 (av := #[.agg (W4.cs (limb k))]) _ _ 19 rfl rfl (by simp only [List.map_toArray, List.map_cons, List.map_nil]; rfl) (en Tryz.func229) (ZdJ k x6) ?_
 refine hK _ _ ?_
 clear hK K
 simp only [Zs, Zz]
 refine wpList_nil ?_
 refine HK1.out _ _ ?_
 clear HK1 K1
 refine Zam (fun W7 hW7 => ?_)
 have hrow : RowK x6.heap.size k W7 := by
  rw [hW7]
  exact Zaf _ _
 have hb67 : Below x6.heap.size x6 W7 := by
  rw [hW7]
  exact (Below.refl _ _).alloc (Nat.le_refl _) _
 clear hW7
 have hB37 : Below x3.heap.size x3 W7 := hB6.trans (hb67.mono hB6.size)
 have hB07 : Below W0.heap.size W0 W7 := hB3.trans (hB37.mono hB3.size)
 have h0 := (hB07.block _ (Zaa H0.out)).trans H0.out
 have hr := (hB07.block _ l3).trans Hr.out
 have h7 := (hB37.block _ l7).trans G7.out
 have h8 := (hb67.block _ l8).trans g8
 have hG7 := HG.out.below hB07
 have hbw7 : Below N w W7 := HBW.out.trans (hB07.mono (by omega))
 have nLQ : L < x6.heap.size := Nat.lt_of_lt_of_le l7 hB6.size
 have nML : L < M := Nat.lt_of_lt_of_le l7 o8
 generalize hQN : x6.heap.size = QN at *
 have l9 : QN < W7.heap.size := Zaa hrow
 have l7' : L < W7.heap.size := by omega
 have l8' : M < W7.heap.size := by omega
 have l3' : B3 < W7.heap.size := by omega
 have lN' : N < W7.heap.size := by omega
 have n3 : B3 < L := by omega
 have nN : N < L := by omega
 clear HG HBW H0 H1 H2 Hr G7 g8 hB3 hB6 hB36 hb67 hB37 hB07 l7 l8 l3 hQN o7 o8
 refine wp_block ?_
 refine (wpIn_wide (n := 6)).1 ?_
 refine Zcw (n := 6) (by omega) rfl (en Tryz.func251) (fun q => #[.bool (bitq k q)]) (bl k) (fun _ => rfl) (KpK QN k) (ZcX _ (by omega) QN k HK.out W7 hrow)
  (fun j W => W.heap[L]? = some (.cells (scS m (timesJ m (x, y) k j)) 264 (0, 0)) ∧ KQ W7 L (3 * 4) 264 W) (fun _ _ => False)
  (fun j V V' h hb => ⟨(hb.block _ (Zaa h.1)).trans h.1, h.2.call hb⟩) (fun _ _ _ h _ => h)
  (fun j V l' o o' h hl _ _ => ⟨(World.putObj_heap_other (by omega)).trans h.1, KQ.putObj h.2 hl (by omega)⟩) (fun _ _ _ _ _ h _ _ _ => h)
  (fun V V' l' o o' h hl _ _ hk => (World.putObj_heap_other (by omega)).trans (h hk)) ?h0 ?round ?done ?stop
 case h0 => exact ⟨h7, KQ.start h7 (Zan m (timesJ m (x, y) k 0))⟩
 case stop => exact fun _ _ _ _ h _ => h.elim
 case round =>
  rintro l' j W hj ⟨hw7, hkq⟩ hl' ⟨rr, hlr⟩
  have HALL := hideP (And.intro hw7 (And.intro hkq hlr))
  clear hw7 hkq hlr
  gi_wp2
  obtain ⟨hw7, hkq, hlr⟩ := HALL.out
  clear HALL
  refine ⟨KeepsFrom.refl _ _, fun r => ?_⟩
  have h72 : (W.putObj l' (.loop r)).heap[L]? = some (.cells (scS m (timesJ m (x, y) k j)) 264 (0, 0)) := (World.putObj_heap_other (by omega)).trans hw7
  have hkq2 : KQ W7 L (3 * 4) 264 (W.putObj l' (.loop r)) := KQ.putObj hkq hl' (by omega)
  have HWW : Hid (∀ b, b < W7.heap.size → (W.putObj l' (.loop r)).heap[b]? = W.heap[b]?) := fun b hb => World.putObj_heap_other (by omega)
  generalize W.putObj l' (.loop r) = W2 at *
  have hst : timesJ m (x, y) k (j + 1) = stepS m (x, y) (bitq k j) (timesJ m (x, y) k j) := rfl
  generalize timesJ m (x, y) k j = t at *
  generalize bitq k j = bit at *
  have HST := hideP hst
  have HW7 := hideP hw7
  clear hst hw7 hlr hj
  refine wpIn_block ?_
  refine wpIn_seq ?_
  refine ZaJ (fun ⟨_, _, h⟩ => h) rfl ?_
  refine Zac rfl (fun K hK => ?_)
  have hf := Zae (hkq2.box h0 (by omega)) (o := 0) rfl
  go_simp
  refine hK _ _ ?_
  clear hK K hf
  refine Zak rfl 264 (.tmp 7) 22 rfl rfl L 0 (scS m t) rfl _ (Zah h72) Zbi rfl (infoSc (Zan _ _)) ?_
  simp only [Zs, Zz]
  refine Zac rfl (fun K hK => ?_)
  refine Zb4 (.tmp 21) (.tmp 22) _ 23 rfl rfl rfl rfl (en Tryz.func230) (Zc7 (hG7.kq hkq2 (by omega) (by omega)) t) ?_
  intro y1 hbc
  refine hK _ _ ?_
  clear hK K
  simp only [Zs, Zz]
  have hQ := (KQ.start h72 (Zan m t)).call hbc
  rw [← Zbj m (dblS m t)]
  refine Zal rfl 264 (.tmp 7) (.tmp 23) rfl rfl L 0 (scS m (red m (dblS m t))) rfl rfl (hQ.there (Zan _ _)) (infoSc (Zan _ _)) (Zb7 _ _) ?_
  have g9 := hQ.put (C := scS m (red m (dblS m t))) (Zan _ _)
  have hQ2 := hQ.store (C := scS m (red m (dblS m t))) (Zan _ _)
  generalize World.setCells y1 L 0 (scS m (red m (dblS m t))).toList = y2 at g9 hQ2 ⊢
  clear hQ hbc h72 HW7
  have tr : KQ W7 L (3 * 4) 264 y2 := ⟨fun b h1 h2 => (hQ2.same b (Nat.lt_of_lt_of_le h1 hkq2.size) h2).trans (hkq2.same b h1 h2), hkq2.below.trans hQ2.below, hQ2.res⟩
  refine wpList_nil ?_
  refine (?_ : Code.wpIn _ _ _ _ _ _ _)
  refine wpIn_seq ?_
  refine ZaJ (fun ⟨_, _, h⟩ => h) rfl ?_
  refine Zac rfl (fun K hK => ?_)
  go_simp
  refine hK _ _ ?_
  clear hK K
  refine wpList_nil ?_
  refine (?_ : Code.wpIn _ _ _ _ _ _ _)
  have fin : ∀ (y3 : World), KQ W2 L (3 * 4) 264 y3 → KeepsFrom W7.heap.size W2 y3 ∧ KpK QN k W y3 := fun y3 h3 => by
   refine ⟨⟨h3.size, fun b o hbb ho _ => (h3.same b (Zaa ho) (by omega)).trans ho⟩, fun hk => ?_⟩
   exact (h3.same QN (Nat.lt_of_lt_of_le l9 hkq2.size) (by omega)).trans ((HWW.out QN l9).trans hk)
  cases bit with
  | false =>
   refine wpIn_cond_false rfl ?_
   refine wpIn_skip ?_
   refine ⟨(fin _ hQ2).1, (fin _ hQ2).2, ?_, tr⟩
   rw [HST.out, stepS, if_neg (by decide), Zbj, ← Zbj m (dblS m t)]
   exact g9
  | true =>
   refine wpIn_cond_true rfl ?_
   refine ZaJ (fun ⟨_, _, h⟩ => h) rfl ?_
   refine Zac rfl (fun K hK => ?_)
   have hf := Zae (tr.box h0 (by omega)) (o := 0) rfl
   go_simp
   refine hK _ _ ?_
   clear hK K hf
   refine Zak rfl 264 (.tmp 7) 26 rfl rfl L 0 (scS m (red m (dblS m t))) rfl _ (Zah g9) Zbi rfl (infoSc (Zan _ _)) ?_
   simp only [Zs, Zz]
   refine Zak rfl 262 (.tmp 8) 27 rfl rfl M 0 (pl m x y) rfl _ (Zah (tr.box h8 (by omega))) Zdl rfl (infoPl (ZaQ _ _ _)) ?_
   simp only [Zs, Zz]
   refine Zac rfl (fun K hK => ?_)
   refine ZaT (av := #[.pointer (some ⟨g, 0, none⟩), .agg (scS m (red m (dblS m t))), .agg (pl m x y)]) _ _ 28 rfl rfl (by simp only [List.map_toArray, List.map_cons, List.map_nil]; rfl) (en Tryz.func180) (ZeB (hG7.kq tr (by omega) (by omega)) (red m (dblS m t)) (x, y)) ?_
   intro y3 hbc
   refine hK _ _ ?_
   clear hK K
   simp only [Zs, Zz]
   have hQ3 := hQ2.call hbc
   have tr3 := tr.call hbc
   refine Zal rfl 264 (.tmp 7) (.tmp 28) rfl rfl L 0 (scS m (plusS m (red m (dblS m t)) (x, y))) rfl rfl (hQ3.there (Zan _ _)) (infoSc (Zan _ _)) (Zb7 _ _) ?_
   have g10 := hQ3.put (C := scS m (plusS m (red m (dblS m t)) (x, y))) (Zan _ _)
   have hQ4 := hQ3.store (C := scS m (plusS m (red m (dblS m t)) (x, y))) (Zan _ _)
   have tr4 := tr3.store (C := scS m (plusS m (red m (dblS m t)) (x, y))) (Zan _ _)
   generalize World.setCells y3 L 0 (scS m (plusS m (red m (dblS m t)) (x, y))).toList = y4 at g10 hQ4 tr4 ⊢
   refine wpList_nil ?_
   refine ⟨(fin _ hQ4).1, (fin _ hQ4).2, ?_, tr4⟩
   rw [HST.out, stepS, if_pos rfl, Zbj]
   exact g10
 case done =>
  rintro Db W hDb ⟨hw7, hkq⟩ hdef
  show K3 _ _
  refine HK3.out _ _ ?_
  clear HK3 K3
  have hts : timesJ m (x, y) k (bl k) = timesS m (x, y) k := rfl
  rw [hts] at hw7
  generalize timesS m (x, y) k = t at hw7 ⊢
  refine wp_seq ?_
  refine wp_region_list ?_
  refine Zak rfl 264 (.tmp 7) 29 rfl rfl L 0 (scS m t) rfl _ (Zah hw7) Zbi rfl (infoSc (Zan _ _)) ?_
  simp only [Zs, Zz]
  have hr3 := hkq.box hr (by omega)
  have hQ := KQ.start hr3 s_R
  refine Zal rfl 264 (.tmp 6) (.tmp 29) rfl rfl B3 0 (scS m t) rfl rfl (hQ.there (Zan _ _)) (infoSc (Zan _ _)) (Zb7 _ _) ?_
  have g6 := hQ.put (C := scS m t) (Zan _ _)
  have hQ2 := hQ.store (C := scS m t) (Zan _ _)
  generalize World.setCells W B3 0 (scS m t).toList = W6 at g6 hQ2 ⊢
  refine wpList_nil ?_
  refine wp_ret ?_
  have hdef6 := (hQ2.same Db (Zaa hdef) (by omega)).trans hdef
  refine ⟨by simp, .inl ⟨_, _, rfl, run_takeDeferred hdef6, ?_⟩⟩
  have hg9 : (W6.putObj Db (.deferred none)).heap[B3]? = some (.cells (scS m t) 264 (0, 0)) := (World.putObj_heap_other (by omega)).trans g6
  refine ⟨.agg (scS m t), ZaH (p := ⟨B3, 0, none⟩) rfl rfl (loadC _ B3 0 264 (scS m t) _ (Zah hg9) Zbi rfl (infoSc (Zan _ _))), rfl, ?_⟩
  exact ZaB (hbw7.trans ((hkq.below.mono (by omega)).trans (hQ2.below.mono (by omega)))) (by omega)
abbrev P3 := K × K × Bool
noncomputable def ptS (p : P3) : Array Value := pt p.1 p.2.1 p.2.2
def outS (m : Nat) (s : T3) : P3 :=
 if Like m s.2.2 k0 then (k0, k0, true)
 else (rest m (kmul m s.1 (kmul m (kinv m s.2.2) (kinv m s.2.2))), rest m (kmul m s.2.1 (kmul m (kmul m (kinv m s.2.2) (kinv m s.2.2)) (kinv m s.2.2))), false)
theorem out_S {w : World} {g p m : Nat} {b : K} (hG : GAt w g p m b) (s : T3) : Calls Tryz.prog 179 #[.pointer (some ⟨g, 0, none⟩), .agg (scS m s)] w fun e w' => e = .returned (.agg (ptS (outS m s))) ∧ Below w.heap.size w w' := by
 unfold outS
 by_cases hz : Like m s.2.2 k0
 ·
  rw [if_pos hz]
  exact Zjx hG s.1 s.2.1 s.2.2 hz
 ·
  rw [if_neg hz]
  exact Zet hG s.1 s.2.1 s.2.2 hz
theorem Zdm {w : World} {g p m : Nat} {b : K} (hG : GAt w g p m b) (x y : K) (hx : Fits x) (hy : Fits y) (i : Bool) {e0 : Int} (h : goodN m b x y i = e0) : Calls Tryz.prog 111 #[.pointer (some ⟨g, 0, none⟩), .agg (pt x y i)] w fun e w' => e = .returned (.int .i64 e0) ∧ Below w.heap.size w w' := by
 rw [← h]
 exact Zc6 hG x y hx hy i
theorem Zbv (m : Nat) (b x y : K) (i : Bool) : goodN m b x y i = 0 ∨ goodN m b x y i = 70 ∨ goodN m b x y i = 71 := by
 unfold goodN
 repeat' split
 all_goals simp
def timesP (m : Nat) (x y : K) (i : Bool) (k : Nat) : T3 := if i = true then (k1, k1, k0) else timesS m (x, y) k
theorem Zdn {w : World} {g p m : Nat} {b : K} (hG : GAt w g p m b) (x y : K) (hx : Fits x) (hy : Fits y) (i : Bool) (k : Nat) (hk : k < 2 ^ 256) : Calls Tryz.prog 169 #[.pointer (some ⟨g, 0, none⟩), .agg (pt x y i), .agg (W4.cs (limb k))] w fun e w' => e = .returned (.agg (scS m (timesP m x y i k))) ∧ Below w.heap.size w w' := by
 cases i with
 | true => exact Zcf hG x y k
 | false => exact Zcg hG x y hx hy k hk
structure GB (w : World) (g : Nat) (x y : K) (k : Nat) : Prop where
 base : w.rangeAt g (1 + 3 * 4) (pt x y false).toList
 ord : w.rangeAt g (2 + 5 * 4) (W4.cs (limb k)).toList
 lt : g < w.heap.size
theorem GB.below {w w' : World} {g k : Nat} {x y : K} (h : GB w g x y k) (hb : Below w.heap.size w w') : GB w' g x y k :=
 ⟨Za0 (hb.block _ h.lt) h.base, Za0 (hb.block _ h.lt) h.ord, Nat.lt_of_lt_of_le h.lt hb.size⟩
theorem underA : Tryz.prog.underlying 34 = some (.struct (fsOf (Tryz.prog.underlying 34))) := by kernel_rfl
theorem infoA {C : Array Value} (h : C.size = 2 * 4 + 1) : (Tryz.prog.info? 34).map (·.size) = some C.size := by rw [h]; kernel_rfl
structure CAt (w : World) (c g p m : Nat) (b bx bY : K) (k : Nat) : Prop where
 at_ : w.cell? ⟨c, 1, none⟩ = some (.pointer (some ⟨g, 0, none⟩))
 ga : GAt w g p m b
 gb : GB w g bx bY k
 clt : c < w.heap.size
theorem CAt.below {w w' : World} {c g p m : Nat} {b bx bY : K} {k : Nat} (h : CAt w c g p m b bx bY k) (hb : Below w.heap.size w w') : CAt w' c g p m b bx bY k :=
 ⟨(hb.cell (p := ⟨c, 1, none⟩) h.clt).trans h.at_, h.ga.below hb, h.gb.below hb, Nat.lt_of_lt_of_le h.clt hb.size⟩
theorem ZbI {P : Program} {op : Oper} {l : List Value} {ds : List Deferred} {w : World} {K : Act → World → Prop} {Q : Exit → Act → World → Prop} (t : TypeId) (ps : Array (Nat × Operand)) (vs : Array (Nat × Value)) (d : Nat) (ho : op.op = .build t ps) (hd : op.dst = some d)
  (hps : ps.map (fun x => (x.1, Act.eval { tmps := l.toArray, defers := ds } x.2)) = vs) {v : Value} (hb : (Instr.build t vs).run P w = .ok v w) (h : K { tmps := (l.set d v).toArray, defers := ds } w) : op.wp P { tmps := l.toArray, defers := ds } w K Q := by
 unfold Oper.wp execOp
 simp only [ho, hps, hb, Sem.run_bind, Sem.run_pure, Result.andThen]
 show K _ _
 rw [hd, Zab]
 exact h
end Go.Proofs.YtcbdbnfgnonacaaGreat.P4
namespace Go.Proofs.YtcbdbnfgnonacaaGreat.Q4
open Go.RowKit Go.Shelf
abbrev K := Nat × Nat
noncomputable def ev (m : Nat) (x : K) : Array Value := Classical.choose (⟨_, rfl⟩ : ∃ C : Array Value, C = P4.ev m x.1 ++ P4.ev m x.2)
theorem Zbc (m : Nat) (x : K) : ev m x = P4.ev m x.1 ++ P4.ev m x.2 := Classical.choose_spec (⟨_, rfl⟩ : ∃ C : Array Value, C = P4.ev m x.1 ++ P4.ev m x.2)
noncomputable def nv (x : K) : Array Value := Classical.choose (⟨_, rfl⟩ : ∃ C : Array Value, C = P4.nv x.1 ++ P4.nv x.2)
theorem Za3 (x : K) : nv x = P4.nv x.1 ++ P4.nv x.2 := Classical.choose_spec (⟨_, rfl⟩ : ∃ C : Array Value, C = P4.nv x.1 ++ P4.nv x.2)
def Fits (x : K) : Prop := P4.Fits x.1 ∧ P4.Fits x.2
def rest (m : Nat) (x : K) : K := (P4.rest m x.1, P4.rest m x.2)
def kadd (m : Nat) (x y : K) : K := (P4.kadd m x.1 y.1, P4.kadd m x.2 y.2)
def ksub (m : Nat) (x y : K) : K := (P4.ksub m x.1 y.1, P4.ksub m x.2 y.2)
def kneg (m : Nat) (x : K) : K := (P4.kneg m x.1, P4.kneg m x.2)
def kmul (m : Nat) (x y : K) : K :=
 (P4.ksub m (P4.kmul m x.1 y.1) (P4.kmul m x.2 y.2), P4.ksub m (P4.ksub m (P4.kmul m (P4.kadd m x.1 x.2) (P4.kadd m y.1 y.2)) (P4.kmul m x.1 y.1)) (P4.kmul m x.2 y.2))
def kinv (m : Nat) (x : K) : K :=
 (P4.kmul m x.1 (P4.kinv m (P4.kadd m (P4.kmul m x.1 x.1) (P4.kmul m x.2 x.2))), P4.kneg m (P4.kmul m x.2 (P4.kinv m (P4.kadd m (P4.kmul m x.1 x.1) (P4.kmul m x.2 x.2)))))
def k0 : K := (0, 0)
def k1 : K := (1, 0)
theorem Zau (m : Nat) (x : K) : (ev m x).size = 2 * 4 := by rw [Zbc, Array.size_append, P4.Zau, P4.Zau]
theorem Zai (x : K) : (nv x).size = 2 * 4 := by rw [Za3, Array.size_append, P4.Zai, P4.Zai]
theorem ZeC {A B : Array Value} (h1 : A.all (·.oneCell') = true) (h2 : B.all (·.oneCell') = true) : (A ++ B).all (·.oneCell') = true := by
 rw [Array.all_append, h1, h2]; rfl
theorem Zbl (m : Nat) (x : K) : (ev m x).all (·.oneCell') = true := by rw [Zbc]; exact ZeC (P4.Zbl _ _) (P4.Zbl _ _)
theorem Zb1 (x : K) : (nv x).all (·.oneCell') = true := by rw [Za3]; exact ZeC (P4.Zb1 _) (P4.Zb1 _)
theorem underQ : Tryz.prog.underlying 47 = some (.array 2 32) := by kernel_rfl
abbrev FOK (w : World) (p m : Nat) : Prop := W4.Good w p m
structure RAt (w : World) (p m : Nat) : Prop where
 ok : FOK w p m
 plt : p < w.heap.size
theorem RAt.below {w w' : World} {p m : Nat} (h : RAt w p m) (hb : Below w.heap.size w w') : RAt w' p m := ⟨h.ok.of_same (hb.block _ h.plt), Nat.lt_of_lt_of_le h.plt hb.size⟩
def szq : Nat → Nat := fun _ => 4
noncomputable abbrev alq (m p : Nat) (v : Nat → Nat) : Al szq where
 K := Nat
 v := v
 c := fun _ => 0
 u := fun k x => match k with
  | 0 => P4.kneg m x
  | 1 => P4.kinv m x
  | _ => P4.rest m x
 b := fun k x y => match k with
  | 0 => P4.kadd m x y
  | 1 => P4.ksub m x y
  | _ => P4.kmul m x y
 cells := fun k x => match k with
  | 0 => P4.ev m x
  | _ => P4.nv x
 hs := fun k x => match k with
  | 0 => P4.Zau m x
  | _ + 1 => P4.Zai x
 h1 := fun k x => match k with
  | 0 => P4.Zbl m x
  | _ + 1 => P4.Zb1 x
 lk := fun _ _ _ => false
 bo := fun _ => false
 xb := fun _ => p
 ov := fun _ => .bool false
 ho := fun _ => ⟨rfl, rfl⟩
def rT (fl : Nat → Bool) (f : Nat) (xs : List SV) : Option SV := match xs with
 | [.one (.xp 0 0), .row [.e 0 x], .row [.e 0 y]] => if f = 273 then some (.row [.e 0 (.b 0 x y)]) else if f = 280 then some (.row [.e 0 (.b 1 x y)]) else if f = 276 then some (.row [.e 0 (.b 2 x y)]) else none
 | [.one (.xp 0 0), .row [.e 0 x]] => if f = 277 then some (.row [.e 0 (.u 0 x)]) else if f = 275 then some (.row [.e 0 (.u 1 x)]) else if f = 278 then some (.row [.e 1 (.u 2 x)]) else none
 | [.one (.xp 0 0), .row [.e 1 (.v i)]] => if f = 274 ∧ fl i = true then some (.row [.e 0 (.v i)]) else none
 | _ => none
section
variable {w : World} {p m : Nat} (hG : RAt w p m) {fl : Nat → Bool} (v : Nat → Nat)
theorem h_e (x : EX) (β : Nat → Nat) : ((alq m p v).rw β [.e 0 x]).toArray = P4.ev m ((alq m p v).d x) := by simp [Al.rw, Al.ch, alq]
theorem h_n (x : EX) (β : Nat → Nat) : ((alq m p v).rw β [.e 1 x]).toArray = P4.nv ((alq m p v).d x) := by simp [Al.rw, Al.ch, alq]
include hG
theorem Zkx (hv : ∀ i, fl i = true → P4.Fits (v i)) : TOK Tryz.prog (alq m p v) (rT fl) w := fun f xs y β V h hV => by
 have H := (hG.below hV).ok
 unfold rT at h
 split at h
 ·
  split at h
  ·
   rename_i e; subst e; cases h; refine ⟨en Tryz.func273, ?_⟩; simp only [Al.sv, List.map_cons, List.map_nil, h_e]; exact P4.Zf4 H _ _
  ·
   split at h
   ·
    rename_i e; subst e; cases h; refine ⟨en Tryz.func280, ?_⟩; simp only [Al.sv, List.map_cons, List.map_nil, h_e]; exact P4.Zf5 H _ _
   ·
    split at h
    ·
     rename_i e; subst e; cases h; refine ⟨en Tryz.func276, ?_⟩; simp only [Al.sv, List.map_cons, List.map_nil, h_e]; exact P4.Zf6 H _ _
    ·
     cases h
 ·
  split at h
  ·
   rename_i e; subst e; cases h; refine ⟨en Tryz.func277, ?_⟩; simp only [Al.sv, List.map_cons, List.map_nil, h_e]; exact P4.Zf7 H _
  ·
   split at h
   ·
    rename_i e; subst e; cases h; refine ⟨en Tryz.func275, ?_⟩; simp only [Al.sv, List.map_cons, List.map_nil, h_e]; exact P4.Zf8 H _
   ·
    split at h
    ·
     rename_i e; subst e; cases h; refine ⟨en Tryz.func278, ?_⟩; simp only [Al.sv, List.map_cons, List.map_nil, h_e, h_n]; exact P4.Zf9 H _
    ·
     cases h
 ·
  split at h
  ·
   rename_i e; obtain ⟨rfl, hi⟩ := e; cases h; refine ⟨en Tryz.func274, ?_⟩; simp only [Al.sv, List.map_cons, List.map_nil, h_e, h_n]; exact P4.c_In H _ (hv _ hi)
  ·
   cases h
 ·
  cases h
theorem Zch (hv : ∀ i, fl i = true → P4.Fits (v i)) {f : Nat} {fn : Func} (hf : Tryz.prog.funcs[f]? = some fn) {args : List SV} {y : SV} (h : runS Tryz.prog szq (env0 (rT fl)) fn 100 args = some y) : Calls Tryz.prog f (args.map ((alq m p v).sv fun _ => 0)).toArray w fun e w' => e = .returned ((alq m p v).sv (fun _ => 0) y) ∧ Below w.heap.size w w' :=
 Zeh (by kernel_rfl) (Zd1 (Zkx hG v hv)) hf h
end
abbrev rcE : SV := .row [.s (.xp 0 0)]
def qv (x y : K) : Nat → Nat
 | 0 => x.1
 | 1 => x.2
 | 2 => y.1
 | _ => y.2
section
variable {p m : Nat} {v : Nat → Nat}
theorem Zdo : (alq m p v).sv (fun _ => 0) rcE = .agg #[.pointer (some ⟨p, 0, none⟩)] := rfl
theorem sq_e (x y : EX) : (alq m p v).sv (fun _ => 0) (.row [.e 0 x, .e 0 y]) = .agg (ev m ((alq m p v).d x, (alq m p v).d y)) := by
 rw [Al.sv, Zbc]
 congr 1
 apply Array.toList_inj.1
 simp [Al.rw, Al.ch]
theorem sq_n (x y : EX) : (alq m p v).sv (fun _ => 0) (.row [.e 1 x, .e 1 y]) = .agg (nv ((alq m p v).d x, (alq m p v).d y)) := by
 rw [Al.sv, Za3]
 congr 1
 apply Array.toList_inj.1
 simp [Al.rw, Al.ch]
end
set_option maxRecDepth 100000
theorem qAdd {w : World} {p m : Nat} (hG : RAt w p m) (x y : K) : Calls Tryz.prog 286 #[.agg #[.pointer (some ⟨p, 0, none⟩)], .agg (ev m x), .agg (ev m y)] w fun e w' => e = .returned (.agg (ev m (kadd m x y))) ∧ Below w.heap.size w w' := by
 have := Zch hG (fl := fun _ => false) (qv x y) (fun _ h => by cases h) Tryz.func286 (args := [rcE, .row [.e 0 (.v 0), .e 0 (.v 1)], .row [.e 0 (.v 2), .e 0 (.v 3)]]) (y := .row [.e 0 (.b 0 (.v 0) (.v 2)), .e 0 (.b 0 (.v 1) (.v 3))]) (by kernel_rfl)
 simp only [List.map_cons, List.map_nil, Zdo, sq_e] at this
 exact this
theorem qSub {w : World} {p m : Nat} (hG : RAt w p m) (x y : K) : Calls Tryz.prog 292 #[.agg #[.pointer (some ⟨p, 0, none⟩)], .agg (ev m x), .agg (ev m y)] w fun e w' => e = .returned (.agg (ev m (ksub m x y))) ∧ Below w.heap.size w w' := by
 have := Zch hG (fl := fun _ => false) (qv x y) (fun _ h => by cases h) Tryz.func292 (args := [rcE, .row [.e 0 (.v 0), .e 0 (.v 1)], .row [.e 0 (.v 2), .e 0 (.v 3)]]) (y := .row [.e 0 (.b 1 (.v 0) (.v 2)), .e 0 (.b 1 (.v 1) (.v 3))]) (by kernel_rfl)
 simp only [List.map_cons, List.map_nil, Zdo, sq_e] at this
 exact this
theorem qNeg {w : World} {p m : Nat} (hG : RAt w p m) (x : K) : Calls Tryz.prog 290 #[.agg #[.pointer (some ⟨p, 0, none⟩)], .agg (ev m x)] w fun e w' => e = .returned (.agg (ev m (kneg m x))) ∧ Below w.heap.size w w' := by
 have := Zch hG (fl := fun _ => false) (qv x x) (fun _ h => by cases h) Tryz.func290 (args := [rcE, .row [.e 0 (.v 0), .e 0 (.v 1)]]) (y := .row [.e 0 (.u 0 (.v 0)), .e 0 (.u 0 (.v 1))]) (by kernel_rfl)
 simp only [List.map_cons, List.map_nil, Zdo, sq_e] at this
 exact this
theorem qIn {w : World} {p m : Nat} (hG : RAt w p m) (x : K) (hx : Fits x) : Calls Tryz.prog 287 #[.agg #[.pointer (some ⟨p, 0, none⟩)], .agg (nv x)] w fun e w' => e = .returned (.agg (ev m (x))) ∧ Below w.heap.size w w' := by
 have := Zch hG (fl := fun i => i == 0 || i == 1) (qv x x) (fun i h => by match i, h with | 0, _ => exact hx.1 | 1, _ => exact hx.2) Tryz.func287 (args := [rcE, .row [.e 1 (.v 0), .e 1 (.v 1)]]) (y := .row [.e 0 (.v 0), .e 0 (.v 1)]) (by kernel_rfl)
 simp only [List.map_cons, List.map_nil, Zdo, sq_e, sq_n] at this
 exact this
theorem qOut {w : World} {p m : Nat} (hG : RAt w p m) (x : K) : Calls Tryz.prog 291 #[.agg #[.pointer (some ⟨p, 0, none⟩)], .agg (ev m x)] w fun e w' => e = .returned (.agg (nv (rest m x))) ∧ Below w.heap.size w w' := by
 have := Zch hG (fl := fun _ => false) (qv x x) (fun _ h => by cases h) Tryz.func291 (args := [rcE, .row [.e 0 (.v 0), .e 0 (.v 1)]]) (y := .row [.e 1 (.u 2 (.v 0)), .e 1 (.u 2 (.v 1))]) (by kernel_rfl)
 simp only [List.map_cons, List.map_nil, Zdo, sq_e, sq_n] at this
 exact this
theorem qMul {w : World} {p m : Nat} (hG : RAt w p m) (x y : K) : Calls Tryz.prog 289 #[.agg #[.pointer (some ⟨p, 0, none⟩)], .agg (ev m x), .agg (ev m y)] w fun e w' => e = .returned (.agg (ev m (kmul m x y))) ∧ Below w.heap.size w w' := by
 have := Zch hG (fl := fun _ => false) (qv x y) (fun _ h => by cases h) Tryz.func289 (args := [rcE, .row [.e 0 (.v 0), .e 0 (.v 1)], .row [.e 0 (.v 2), .e 0 (.v 3)]]) (y := .row [.e 0 (.b 1 (.b 2 (.v 0) (.v 2)) (.b 2 (.v 1) (.v 3))), .e 0 (.b 1 (.b 1 (.b 2 (.b 0 (.v 0) (.v 1)) (.b 0 (.v 2) (.v 3))) (.b 2 (.v 0) (.v 2))) (.b 2 (.v 1) (.v 3)))]) (by kernel_rfl)
 simp only [List.map_cons, List.map_nil, Zdo, sq_e] at this
 exact this
theorem qInv {w : World} {p m : Nat} (hG : RAt w p m) (x : K) : Calls Tryz.prog 288 #[.agg #[.pointer (some ⟨p, 0, none⟩)], .agg (ev m x)] w fun e w' => e = .returned (.agg (ev m (kinv m x))) ∧ Below w.heap.size w w' := by
 have := Zch hG (fl := fun _ => false) (qv x x) (fun _ h => by cases h) Tryz.func288 (args := [rcE, .row [.e 0 (.v 0), .e 0 (.v 1)]]) (y := .row [.e 0 (.b 2 (.v 0) (.u 1 (.b 0 (.b 2 (.v 0) (.v 0)) (.b 2 (.v 1) (.v 1))))), .e 0 (.u 0 (.b 2 (.v 1) (.u 1 (.b 0 (.b 2 (.v 0) (.v 0)) (.b 2 (.v 1) (.v 1))))))]) (by kernel_rfl)
 simp only [List.map_cons, List.map_nil, Zdo, sq_e] at this
 exact this
def ifv (p : Nat) : Value := .iface 131 (.agg #[.pointer (some ⟨p, 0, none⟩)])
def rcv (p : Nat) : Value := .agg #[.pointer (some ⟨p, 0, none⟩)]
section
variable (p : Nat) (a b : Value) (w : World)
set_option maxRecDepth 100000
theorem Zev : (callMethod (ifv p) "Add" #[a, b]).run Tryz.prog w = .ok (.enter 286 #[rcv p, a, b]) w := by kernel_rfl
theorem Zew : (callMethod (ifv p) "Sub" #[a, b]).run Tryz.prog w = .ok (.enter 292 #[rcv p, a, b]) w := by kernel_rfl
theorem Zex : (callMethod (ifv p) "Mul" #[a, b]).run Tryz.prog w = .ok (.enter 289 #[rcv p, a, b]) w := by kernel_rfl
theorem Zey : (callMethod (ifv p) "Neg" #[a]).run Tryz.prog w = .ok (.enter 290 #[rcv p, a]) w := by kernel_rfl
theorem Zez : (callMethod (ifv p) "Inv" #[a]).run Tryz.prog w = .ok (.enter 288 #[rcv p, a]) w := by kernel_rfl
theorem Zg6 : (callMethod (ifv p) "In" #[a]).run Tryz.prog w = .ok (.enter 287 #[rcv p, a]) w := by kernel_rfl
theorem Ze6 : (callMethod (ifv p) "Out" #[a]).run Tryz.prog w = .ok (.enter 291 #[rcv p, a]) w := by kernel_rfl
theorem Ze0 : (nilAhead (Tryz.prog.types.size + Made.depth) 131 (rcv p) "Add").run Tryz.prog w = .ok (some false) w := by kernel_rfl
theorem Ze1 : (nilAhead (Tryz.prog.types.size + Made.depth) 131 (rcv p) "Sub").run Tryz.prog w = .ok (some false) w := by kernel_rfl
theorem Ze2 : (nilAhead (Tryz.prog.types.size + Made.depth) 131 (rcv p) "Mul").run Tryz.prog w = .ok (some false) w := by kernel_rfl
theorem Ze3 : (nilAhead (Tryz.prog.types.size + Made.depth) 131 (rcv p) "Neg").run Tryz.prog w = .ok (some false) w := by kernel_rfl
theorem Ze4 : (nilAhead (Tryz.prog.types.size + Made.depth) 131 (rcv p) "Inv").run Tryz.prog w = .ok (some false) w := by kernel_rfl
theorem Zg7 : (nilAhead (Tryz.prog.types.size + Made.depth) 131 (rcv p) "In").run Tryz.prog w = .ok (some false) w := by kernel_rfl
theorem Ze5 : (nilAhead (Tryz.prog.types.size + Made.depth) 131 (rcv p) "Out").run Tryz.prog w = .ok (some false) w := by kernel_rfl
end
theorem RAt.of {w : World} {p m : Nat} (h : FOK w p m) : RAt w p m := by
 obtain ⟨f, h1, h2⟩ := h.ex
 exact ⟨h, h2.lt⟩
section
variable {w : World} {p m : Nat} (hg : FOK w p m) (x y : K)
include hg
theorem Zf4 : Calls Tryz.prog 286 #[rcv p, .agg (ev m x), .agg (ev m y)] w fun e w' => e = .returned (.agg (ev m (kadd m x y))) ∧ Below w.heap.size w w' := qAdd (RAt.of hg) x y
theorem Zf5 : Calls Tryz.prog 292 #[rcv p, .agg (ev m x), .agg (ev m y)] w fun e w' => e = .returned (.agg (ev m (ksub m x y))) ∧ Below w.heap.size w w' := qSub (RAt.of hg) x y
theorem Zf6 : Calls Tryz.prog 289 #[rcv p, .agg (ev m x), .agg (ev m y)] w fun e w' => e = .returned (.agg (ev m (kmul m x y))) ∧ Below w.heap.size w w' := qMul (RAt.of hg) x y
theorem Zf7 : Calls Tryz.prog 290 #[rcv p, .agg (ev m x)] w fun e w' => e = .returned (.agg (ev m (kneg m x))) ∧ Below w.heap.size w w' := qNeg (RAt.of hg) x
theorem Zf8 : Calls Tryz.prog 288 #[rcv p, .agg (ev m x)] w fun e w' => e = .returned (.agg (ev m (kinv m x))) ∧ Below w.heap.size w w' := qInv (RAt.of hg) x
theorem c_In (hx : Fits x) : Calls Tryz.prog 287 #[rcv p, .agg (nv x)] w fun e w' => e = .returned (.agg (ev m x)) ∧ Below w.heap.size w w' := qIn (RAt.of hg) x hx
theorem Zf9 : Calls Tryz.prog 291 #[rcv p, .agg (ev m x)] w fun e w' => e = .returned (.agg (nv (rest m x))) ∧ Below w.heap.size w w' := qOut (RAt.of hg) x
end
theorem Zcy {P : Program} {t e1 : TypeId} {d n1 : Nat} {d1 : TypeDesc} {X1 Y1 X2 Y2 : Array Value} {b1 b2 : Bool} {w : World} (hu : P.underlying t = some (.array 2 e1))
  (hu1 : P.underlying e1 = some d1) (hd1 : d1.isRow = true) (hi1 : (P.info? e1).map (·.size) = some n1)
  (hX1 : X1.size = n1) (hX2 : X2.size = n1) (hY1 : Y1.size = n1) (hY2 : Y2.size = n1) (h1 : (Op.equalIn d e1 (.agg X1) (.agg X2)).run P w = .ok b1 w) (h2 : (Op.equalIn d e1 (.agg Y1) (.agg Y2)).run P w = .ok b2 w) :
  (Op.equalIn (d + 1) t (.agg (X1 ++ Y1)) (.agg (X2 ++ Y2))).run P w = .ok (b1 && b2) w := by
 have p1 := ZaM (P := P) (w := w) (A := #[]) (off := 0) (X := X1) (C := Y1) hu1 hd1 hi1 rfl hX1
 have p2 := ZaM (P := P) (w := w) (A := #[]) (off := 0) (X := X2) (C := Y2) hu1 hd1 hi1 rfl hX2
 have q1 := ZaM (P := P) (w := w) (A := X1) (X := Y1) (C := #[]) hu1 hd1 hi1 hX1 hY1
 have q2 := ZaM (P := P) (w := w) (A := X2) (X := Y2) (C := #[]) hu1 hd1 hi1 hX2 hY2
 have hs : (sizeOf e1).run P w = .ok n1 w := by
  cases hq : P.info? e1 with
  | none => simp [hq] at hi1
  | some i =>
   have hs : i.size = n1 := by simpa [hq] using hi1
   simp [sizeOf, typeInfo, Sem.run_bind, hq, hs, go_sem]
 rw [Array.empty_append] at p1 p2
 rw [Array.append_empty] at q1 q2
 unfold Op.equalIn
 simp only [Sem.run_bind, run_underlying hu w, Result.andThen, hs]
 cases b1 <;> cases b2 <;> simp [Sem.run_bind, List.range', p1, p2, q1, q2, h1, h2, Result.andThen]
def Like (m : Nat) (x y : K) : Prop := P4.Like m x.1 y.1 ∧ P4.Like m x.2 y.2
instance (m : Nat) (x y : K) : Decidable (Like m x y) := inferInstanceAs (Decidable (_ ∧ _))
theorem eqE : ∀ (d : Nat) {w : World} {p m : Nat} (_ : FOK w p m) (x y : K) (W : World) (_ : 1 ≤ d := by decide), (Op.equalIn (d + 2) 47 (.agg (ev m x)) (.agg (ev m y))).run Tryz.prog W = .ok (decide (Like m x y)) W
 | 0, _, _, _, _, _, _, _, h => absurd h (by decide)
 | d + 1, w, p, m, hg, x, y, W, _ => by
  rw [Zbc, Zbc]
  have iE : (Tryz.prog.info? 32).map (·.size) = some 4 := by rw [P4.infoE (P4.Zau m x.1), P4.Zau]
  refine (Zcy underQ P4.underE rfl iE (P4.Zau _ _) (P4.Zau _ _) (P4.Zau _ _) (P4.Zau _ _) (P4.eqE d hg x.1 y.1 W) (P4.eqE d hg x.2 y.2 W)).trans ?_
  refine congrArg (Result.ok · W) ?_
  rw [Bool.eq_iff_iff]
  simp only [Bool.and_eq_true, decide_eq_true_eq]
  exact Iff.rfl
theorem ZbG {w : World} {p m : Nat} (hg : FOK w p m) (x : K) : Fits (rest m x) := ⟨P4.ZbG hg _, P4.ZbG hg _⟩
theorem Zbh (m : Nat) (x : K) : ev m (rest m x) = ev m x := by
 rw [Zbc, Zbc]
 show P4.ev m (P4.rest m x.1) ++ P4.ev m (P4.rest m x.2) = _
 rw [P4.Zbh, P4.Zbh]
theorem Zbt : Fits k0 := ⟨P4.Zbt, P4.Zbt⟩
theorem eqN : ∀ (d : Nat) {x y : K} (_ : Fits x) (_ : Fits y) (W : World) (_ : 1 ≤ d := by decide), (Op.equalIn (d + 2) 47 (.agg (nv x)) (.agg (nv y))).run Tryz.prog W = .ok (decide (x = y)) W
 | 0, _, _, _, _, _, h => absurd h (by decide)
 | d + 1, x, y, hx, hy, W, _ => by
  rw [Za3, Za3]
  have iE : (Tryz.prog.info? 32).map (·.size) = some 4 := by rw [P4.infoE (P4.Zai x.1), P4.Zai]
  refine (Zcy underQ P4.underE rfl iE (P4.Zai _) (P4.Zai _) (P4.Zai _) (P4.Zai _) (P4.eqN d hx.1 hy.1 W) (P4.eqN d hx.2 hy.2 W)).trans ?_
  refine congrArg (Result.ok · W) ?_
  rw [Bool.eq_iff_iff]
  simp only [Bool.and_eq_true, decide_eq_true_eq]
  exact Prod.ext_iff.symm
theorem underE : Tryz.prog.underlying 47 = some (.array 2 32) := by kernel_rfl
theorem infoE {C : Array Value} (h : C.size = 8) : (Tryz.prog.info? 47).map (·.size) = some C.size := by rw [h]; kernel_rfl
structure GAt (w : World) (g p m : Nat) (b : K) : Prop where
 fld : w.cell? ⟨g, 0, none⟩ = some (ifv p)
 zero : w.rangeAt g 1 (ev m k0).toList
 one : w.rangeAt g (1 + 8) (ev m k1).toList
 b : w.rangeAt g (1 + 2 * 8) (ev m b).toList
 ok : FOK w p m
 glt : g < w.heap.size
 plt : p < w.heap.size
theorem Za0 {w w' : World} {g o : Nat} {l : List Value} (h : w'.heap[g]? = w.heap[g]?) (hr : w.rangeAt g o l) : w'.rangeAt g o l := fun j v hv => by
 have := hr j v hv
 unfold World.cell? at this ⊢
 rw [h]
 exact this
theorem GAt.same {w w' : World} {g p m : Nat} {b : K} (h : GAt w g p m b) (hg : w'.heap[g]? = w.heap[g]?) (hp : w'.heap[p]? = w.heap[p]?) (hs : w.heap.size ≤ w'.heap.size) : GAt w' g p m b :=
 ⟨by have := h.fld; unfold World.cell? at this ⊢; rw [hg]; exact this, Za0 hg h.zero, Za0 hg h.one, Za0 hg h.b, h.ok.of_same hp, Nat.lt_of_lt_of_le h.glt hs, Nat.lt_of_lt_of_le h.plt hs⟩
theorem GAt.below {w w' : World} {g p m : Nat} {b : K} (h : GAt w g p m b) (hb : Below w.heap.size w w') : GAt w' g p m b := h.same (hb.block _ h.glt) (hb.block _ h.plt) hb.size
theorem GAt.kq {W V : World} {R0 n ty g p m : Nat} {b : K} (h : GAt W g p m b) (hS : KQ W R0 n ty V) (h1 : g ≠ R0) (h2 : p ≠ R0) : GAt V g p m b := h.same (hS.same _ h.glt h1) (hS.same _ h.plt h2) hS.size
def zn : Array Value := Array.replicate 8 (.int .u64 0)
noncomputable def pl (m : Nat) (x y : K) : Array Value := Classical.choose (⟨_, rfl⟩ : ∃ C : Array Value, C = ev m x ++ ev m y)
theorem Zbu (m : Nat) (x y : K) : pl m x y = ev m x ++ ev m y := Classical.choose_spec (⟨_, rfl⟩ : ∃ C : Array Value, C = ev m x ++ ev m y)
noncomputable def sc (m : Nat) (x y z : K) : Array Value := Classical.choose (⟨_, rfl⟩ : ∃ C : Array Value, C = pl m x y ++ ev m z)
theorem Zcb (m : Nat) (x y z : K) : sc m x y z = pl m x y ++ ev m z := Classical.choose_spec (⟨_, rfl⟩ : ∃ C : Array Value, C = pl m x y ++ ev m z)
noncomputable def pt (x y : K) (i : Bool) : Array Value := Classical.choose (⟨_, rfl⟩ : ∃ C : Array Value, C = nv x ++ (nv y ++ #[.bool i]))
theorem ZaR (x y : K) (i : Bool) : pt x y i = nv x ++ (nv y ++ #[.bool i]) := Classical.choose_spec (⟨_, rfl⟩ : ∃ C : Array Value, C = nv x ++ (nv y ++ #[.bool i]))
theorem ZaQ (m : Nat) (x y : K) : (pl m x y).size = 2 * 8 := by rw [Zbu, Array.size_append, Zau, Zau]
theorem ZaX (m : Nat) (x y z : K) : (sc m x y z).size = 3 * 8 := by rw [Zcb, Array.size_append, ZaQ, Zau]
theorem ZaD (x y : K) (i : Bool) : (pt x y i).size = 2 * 8 + 1 := by rw [ZaR, Array.size_append, Array.size_append, Zai, Zai]; rfl
theorem ZaG {A B : Array Value} (h1 : A.all (·.oneCell') = true) (h2 : B.all (·.oneCell') = true) : (A ++ B).all (·.oneCell') = true := by
 rw [Array.all_append, h1, h2]; rfl
theorem ZcL (m : Nat) (x y : K) : (pl m x y).all (·.oneCell') = true := by
 rw [Zbu]
 exact ZaG (Zbl _ _) (Zbl _ _)
theorem ZcM (m : Nat) (x y z : K) : (sc m x y z).all (·.oneCell') = true := by
 rw [Zcb]
 exact ZaG (ZcL _ _ _) (Zbl _ _)
theorem Zdl : Tryz.prog.underlying 267 = some (.struct (fsOf (Tryz.prog.underlying 267))) := by kernel_rfl
theorem Zbi : Tryz.prog.underlying 269 = some (.struct (fsOf (Tryz.prog.underlying 269))) := by kernel_rfl
theorem Zcc : Tryz.prog.underlying 133 = some (.struct (fsOf (Tryz.prog.underlying 133))) := by kernel_rfl
theorem infoPl {C : Array Value} (h : C.size = 2 * 8) : (Tryz.prog.info? 267).map (·.size) = some C.size := by rw [h]; kernel_rfl
theorem infoSc {C : Array Value} (h : C.size = 3 * 8) : (Tryz.prog.info? 269).map (·.size) = some C.size := by rw [h]; kernel_rfl
theorem infoPt {C : Array Value} (h : C.size = 2 * 8 + 1) : (Tryz.prog.info? 133).map (·.size) = some C.size := by rw [h]; kernel_rfl
section
variable {w : World} {b t m : Nat} {x y z : K} {i : Bool}
theorem pt_i (h : w.heap[b]? = some (.cells (pt x y i) t (0, 0))) : w.cell? ⟨b, 2 * 8, none⟩ = some (.bool i) := by
 have := ZaS (w := w) (b := b) (t := t) (A := nv x ++ nv y) (B := #[.bool i]) (C := #[]) (o := 2 * 8) (by rw [h, ZaR, Array.append_empty, Array.append_assoc]) (by rw [Array.size_append, Zai, Zai])
 exact this 0 _ rfl
end
theorem ZcN : nv k0 = zn := by first | (rw [Za3]; rfl) | (rw [Za3, P4.Za3, P4.Za3]; rfl)
theorem gqE : Tryz.prog.eqGuardType Tryz.prog.depth 47 = false := by kernel_rfl
theorem gqPl : Tryz.prog.eqGuardType Tryz.prog.depth 267 = false := by kernel_rfl
theorem eqPl {w : World} {p m : Nat} (hg : FOK w p m) (x y x' y' : K) (W : World) : (Op.equalIn 10000 267 (.agg (pl m x y)) (.agg (pl m x' y'))).run Tryz.prog W = .ok (decide (Like m x x') && decide (Like m y y')) W := by
 have iE : (Tryz.prog.info? 47).map (·.size) = some 8 := by rw [infoE (Zau m x), Zau]
 rw [Zbu, Zbu]
 exact Zdt (f1 := (fsOf (Tryz.prog.underlying 267))[0]!) (f2 := (fsOf (Tryz.prog.underlying 267))[1]!) (e1 := 47) (e2 := 47) (d := 9999) (n1 := 8) (n2 := 8) (by kernel_rfl) (by kernel_rfl) (by decide +kernel) (by decide +kernel) (by kernel_rfl) (by kernel_rfl) (by kernel_rfl) (by kernel_rfl)
  underE rfl iE underE rfl iE (Zau _ _) (Zau _ _) (Zau _ _) (Zau _ _) (eqE 9997 hg x x' W) (eqE 9997 hg y y' W)
theorem gqPt : Tryz.prog.eqGuardType Tryz.prog.depth 133 = false := by kernel_rfl
theorem eqB (d : Nat) (a b : Bool) (W : World) : (Op.equalIn (d + 1) 4 (.bool a) (.bool b)).run Tryz.prog W = .ok (a == b) W := by
 unfold Op.equalIn
 simp [go_sem]
theorem eqPt {x y x' y' : K} (hx : Fits x) (hy : Fits y) (hx' : Fits x') (hy' : Fits y') (i i' : Bool) (W : World) : (Op.equalIn 10000 133 (.agg (pt x y i)) (.agg (pt x' y' i'))).run Tryz.prog W = .ok (decide (x = x') && (decide (y = y') && (i == i'))) W := by
 have iE : (Tryz.prog.info? 47).map (·.size) = some 8 := by rw [infoE (Zai x), Zai]
 rw [ZaR, ZaR]
 exact ZbW (f1 := (fsOf (Tryz.prog.underlying 133))[0]!) (f2 := (fsOf (Tryz.prog.underlying 133))[1]!) (f3 := (fsOf (Tryz.prog.underlying 133))[2]!) (e1 := 47) (e2 := 47) (e3 := 4) (d := 9999) (n1 := 8) (n2 := 8) (by kernel_rfl) (by kernel_rfl) (by decide +kernel) (by decide +kernel) (by decide +kernel) (by kernel_rfl) (by kernel_rfl) (by kernel_rfl) (by kernel_rfl) (by kernel_rfl) (by kernel_rfl)
  underE rfl iE underE rfl iE (by kernel_rfl) (Zai _) (Zai _) (Zai _) (Zai _) (eqN 9997 hx hx' W) (eqN 9997 hy hy' W) (eqB 9998 i i' W)
end Go.Proofs.YtcbdbnfgnonacaaGreat.Q4
