/-
 Plain points: boxes that are filled part by part.
-/
import Derived.Test.YtcbdbnfgnonacaaGreatCurveBasesC23
import Derived.Laws.IdiomCopy
set_option maxHeartbeats 4000000
set_option maxRecDepth 100000
namespace Go.Proofs.YtcbdbnfgnonacaaGreat.Q4
open Go.RowKit Go.Shelf
attribute [local go_sem] Oper.semAt_some
theorem Zan (m : Nat) (s : T3) : (scS m s).size = 3 * 8 := ZaX _ _ _ _
theorem Zb7 (m : Nat) (s : T3) : (scS m s).all (·.oneCell') = true := ZcM _ _ _ _
theorem ZaB {B l : Nat} {W V : World} {o : Obj} (h : Below B W V) (hl : B ≤ l) : Below B W (V.putObj l o) :=
 ⟨h.os, h.tape, h.output, by rw [show (V.putObj l o).heap.size = V.heap.size by simp [World.putObj]]; exact h.size, fun k hk => (World.putObj_heap_other (by omega)).trans (h.block k hk)⟩
theorem KQ.putObj {W V : World} {R0 n ty l : Nat} {o : Obj} (h : KQ W R0 n ty V) (hl : W.heap.size ≤ l) (hR : R0 < l) : KQ W R0 n ty (V.putObj l o) := by
 obtain ⟨g, hg, hn⟩ := h.res
 exact ⟨fun b h1 h2 => (World.putObj_heap_other (by omega)).trans (h.same b h1 h2), ZaB h.below (by omega), g, (World.putObj_heap_other (by omega)).trans hg, hn⟩
theorem Zce : Tryz.prog.underlying 65 = some (.array 4 27) := by kernel_rfl
theorem infoWd {C : Array Value} (h : C.size = 4) : (Tryz.prog.info? 65).map (·.size) = some C.size := by rw [h]; kernel_rfl
theorem Zc8 {P : Program} {op : Oper} {l : List Value} {ds : List Deferred} {w w' : World} {K : Act → World → Prop} {Q : Exit → Act → World → Prop} (args : Array Operand) (tys : Array TypeId) (d : Nat) {f : Nat} (ho : op.op = .call { callee := .value (.func f), args := args, argTypes := tys }) (hd : op.dst = some d) {av : Array Value}
  (hx : args.map (Act.eval { tmps := l.toArray, defers := ds }) = av) (hm : ∀ av w, (callFunc f av).run P w = .ok (.enter f av) w) {v : Value} (hc : Calls P f av w fun e w'' => e = .returned v ∧ w'' = w')
  (h : K { tmps := (l.set d v).toArray, defers := ds } w') : op.wp P { tmps := l.toArray, defers := ds } w K Q := by
 unfold Oper.wp execOp
 have he : (do let d ← resolve (Act.eval { tmps := l.toArray, defers := ds }) { callee := .value (.func f), args := args, argTypes := tys } op.type; invoke d.target d.args).run P w = .ok (.enter f av) w := by
  have hf : Act.eval { tmps := l.toArray, defers := ds } (.func f) = .func (.func f) #[] #[] := rfl
  simp only [resolve, invoke, Deferred.ofValue, hf, Sem.run_bind, Sem.run_pure, Result.andThen, hx]
  simp [hm]
 simp only [ho]
 rw [he]
 refine hc.mono ?_
 rintro e w'' ⟨rfl, rfl⟩
 show K _ _
 rw [hd, Zab]
 exact h
theorem Zcf {w : World} {g p m : Nat} {b : K} (hG : GAt w g p m b) (x y : K) (k : Nat) :
  Calls Tryz.prog 170 #[.pointer (some ⟨g, 0, none⟩), .agg (pt x y true), .agg (W4.cs (limb k))] w fun e w' => e = .returned (.agg (sc m k1 k1 k0)) ∧ Below w.heap.size w w' := by
 have := ZbH ⟨m, g, p, b, b, b, k, v5 x y x x x, fun _ => false, 0⟩ nofit [] hG (fun _ h => by cases h) (fun _ h => by cases h) (ZbS w) (noL w) Tryz.func170 (args := [gp0, ptE (.v 0) (.v 1) (.lit true), .row [.e 2 (.c 0)]]) (y := scE (.c 1, .c 1, .c 0)) (by kernel_rfl) (fun _ => 0)
 simp only [scE, Al.sv, List.map_cons, List.map_nil, Zbz, ZaO, rw_w] at this
 exact this
theorem Zcg {w : World} {g p m : Nat} {b : K} (hG : GAt w g p m b) (x y : K) (hx : Fits x) (hy : Fits y) (k : Nat) (hk : k < 2 ^ 256) :
  Calls Tryz.prog 170 #[.pointer (some ⟨g, 0, none⟩), .agg (pt x y false), .agg (W4.cs (limb k))] w fun e w' => e = .returned (.agg (scS m (timesS m (x, y) k))) ∧ Below w.heap.size w w' := by
 have hg := hG.glt
 have hp := hG.plt
 have HG9 := hideP hG
 have HK := hideP hk
 clear hG hk
 refine (callsIn_wide (n := 6)).1 ?_
 refine callsIn_of_wp_marks Tryz.func170 rfl trivial ?_ rfl
 simp only [Tryz.ntmps170, List.size_toArray, List.length_cons, List.length_nil, Nat.reduceAdd, Nat.reduceSub, Array.replicate_succ, Array.replicate_zero, List.push_toArray, List.append_toArray, List.nil_append, List.cons_append]
 refine wpIn_wide.2 ?_
 refine Zad (fun K0 HK0 => ?_)
 go_wp2_with fail
 refine HK0.out _ _ ?_
 clear HK0 K0
 refine Zam (fun W0 hW0 => ?_)
 have hb0 : W0.heap[w.heap.size]? = some (.cells #[.pointer (some ⟨g, 0, none⟩)] 115 (0, 0)) := by
  rw [hW0]
  exact ((Zag _ _ (by simp <;> omega)).trans ((Zag _ _ (by simp <;> omega)).trans ((Zag _ _ (by simp <;> omega)).trans (Zaf _ _))))
 have hb1 : W0.heap[w.heap.size + 1]? = some (.cells (pt x y false) 133 (0, 0)) := by
  rw [hW0]
  exact ((Zag _ _ (by simp <;> omega)).trans ((Zag _ _ (by simp <;> omega)).trans (Zav _ _ _)))
 have hb2 : W0.heap[w.heap.size + 1 + 1]? = some (.cells (W4.cs (limb k)) 65 (0, 0)) := by
  rw [hW0]
  exact ((Zag _ _ (by simp <;> omega)).trans (ZaF _ _ _ _))
 have hbr : ∃ C : Array Value, W0.heap[w.heap.size + 1 + 1 + 1]? = some (.cells C 269 (0, 0)) ∧ C.size = 3 * 8 := by
  rw [hW0]
  exact ⟨_, ZbM _ _ _ _ _, rfl⟩
 have hbw : Below w.heap.size w W0 := by
  rw [hW0]
  repeat first | exact Below.refl _ _ | (refine Below.alloc ?_ (by simp <;> omega) _)
 clear hW0
 have HG := hideP (HG9.out.below hbw)
 clear HG9
 have HBW := hideP hbw
 clear hbw
 generalize hN : w.heap.size = N at *
 clear hN
 generalize hB1 : N + 1 = B1 at *
 generalize hB2 : B1 + 1 = B2 at *
 generalize hB3 : B2 + 1 = B3 at *
 have o1 : N < B1 := by omega
 have o2 : B1 < B2 := by omega
 have o3 : B2 < B3 := by omega
 clear hB3 hB2 hB1
 have H0 := hideP hb0
 have H1 := hideP hb1
 have H2 := hideP hb2
 clear hb0 hb1 hb2
 obtain ⟨Cr, hbr, s_R⟩ := hbr
 have l3 := Zaa hbr
 have Hr := hideP hbr
 clear hbr
 refine Zad (fun K1 HK1 => ?_)
 refine wp_region_list ?_
 refine Zac rfl (fun K hK => ?_)
 have hf := Zae H0.out (o := 0) rfl
 go_simp
 refine hK _ _ ?_
 clear hK K hf
 refine Zac rfl (fun K hK => ?_)
 refine ZaT (av := #[.pointer (some ⟨g, 0, none⟩)]) _ _ 11 rfl rfl (by simp only [List.map_toArray, List.map_cons, List.map_nil]; rfl) (en Tryz.func231) (Zb6 HG.out) ?_
 intro x1 hbc
 refine hK _ _ ?_
 clear hK K
 simp only [Zs, Zz]
 refine Zac rfl (fun K hK => ?_)
 go_simp
 refine hK _ _ ?_
 clear hK K
 refine ZaN (fun x2 hx2 => ?_)
 have hb7 : ∃ C : Array Value, x2.heap[x1.heap.size]? = some (.cells C 269 (0, 0)) ∧ C.size = 3 * 8 := by
  rw [hx2]
  exact ⟨_, Zaf _ _, rfl⟩
 have hbe : Below x1.heap.size x1 x2 := by
  rw [hx2]
  exact (Below.refl _ _).alloc (Nat.le_refl _) _
 have hsz : x2.heap.size = x1.heap.size + 1 := by rw [hx2]; simp
 clear hx2
 obtain ⟨C7, hb7, s_7⟩ := hb7
 have o7 : W0.heap.size ≤ x1.heap.size := hbc.size
 have hB12 : Below W0.heap.size W0 x2 := hbc.trans (hbe.mono o7)
 generalize hL : x1.heap.size = L at *
 clear hbc hbe hL
 have hQ := KQ.start hb7 s_7
 refine Zal rfl 269 (.tmp 7) (.tmp 11) rfl rfl L 0 (sc m k1 k1 k0) rfl rfl (hQ.there (ZaX _ _ _ _)) (infoSc (ZaX _ _ _ _)) (ZcM _ _ _ _) ?_
 have g7 := hQ.put (C := sc m k1 k1 k0) (ZaX _ _ _ _)
 have hQ2 := hQ.store (C := sc m k1 k1 k0) (ZaX _ _ _ _)
 generalize World.setCells x2 L 0 (sc m k1 k1 k0).toList = x3 at g7 hQ2 ⊢
 have hB3 : Below W0.heap.size W0 x3 := hB12.trans (hQ2.below.mono o7)
 clear hQ hQ2 hb7 hB12
 clear hsz
 refine wpList_nil ?_
 refine HK1.out _ _ ?_
 clear HK1 K1
 have l7 := Zaa g7
 have G7 := hideP g7
 clear g7
 refine Zad (fun K2 HK2 => ?_)
 refine Zad (fun K1 HK1 => ?_)
 refine wp_region_list ?_
 refine Zac rfl (fun K hK => ?_)
 go_simp
 refine hK _ _ ?_
 clear hK K
 refine Zac rfl (fun K hK => ?_)
 have hf := pt_i ((hB3.block _ (Zaa H1.out)).trans H1.out)
 go_simp
 refine hK _ _ ?_
 clear hK K hf
 refine wpList_nil ?_
 refine HK1.out _ _ ?_
 clear HK1 K1
 refine wp_cond_false rfl ?_
 refine wp_skip ?_
 refine HK2.out _ _ ?_
 clear HK2 K2
 refine Zad (fun K1 HK1 => ?_)
 refine wp_region_list ?_
 refine Zac rfl (fun K hK => ?_)
 have hf := Zae ((hB3.block _ (Zaa H0.out)).trans H0.out) (o := 0) rfl
 go_simp
 refine hK _ _ ?_
 clear hK K hf
 refine Zak rfl 133 (.tmp 4) 16 rfl rfl B1 0 (pt x y false) rfl _ (Zah ((hB3.block _ (Zaa H1.out)).trans H1.out)) Zcc rfl (infoPt (ZaD _ _ _)) ?_
 simp only [Zs, Zz]
 refine Zac rfl (fun K hK => ?_)
 refine Zb4 (.tmp 15) (.tmp 16) _ 17 rfl rfl rfl rfl (en Tryz.func190) (ZeA (HG.out.below hB3) x y false hx hy) ?_
 intro x4 hbc
 refine hK _ _ ?_
 clear hK K
 simp only [Zs, Zz]
 refine Zac rfl (fun K hK => ?_)
 go_simp
 refine hK _ _ ?_
 clear hK K
 refine ZaN (fun x5 hx5 => ?_)
 have hb8 : ∃ C : Array Value, x5.heap[x4.heap.size]? = some (.cells C 267 (0, 0)) ∧ C.size = 2 * 8 := by
  rw [hx5]
  exact ⟨_, Zaf _ _, rfl⟩
 have hbe : Below x4.heap.size x4 x5 := by
  rw [hx5]
  exact (Below.refl _ _).alloc (Nat.le_refl _) _
 clear hx5
 obtain ⟨C8, hb8, s_8⟩ := hb8
 have o8 : x3.heap.size ≤ x4.heap.size := hbc.size
 have hB12 : Below x3.heap.size x3 x5 := hbc.trans (hbe.mono o8)
 generalize hM : x4.heap.size = M at *
 clear hbc hbe hM
 have hQ := KQ.start hb8 s_8
 refine Zal rfl 267 (.tmp 8) (.tmp 17) rfl rfl M 0 (pl m x y) rfl rfl (hQ.there (ZaQ _ _ _)) (infoPl (ZaQ _ _ _)) (ZcL _ _ _) ?_
 have g8 := hQ.put (C := pl m x y) (ZaQ _ _ _)
 have hQ2 := hQ.store (C := pl m x y) (ZaQ _ _ _)
 generalize World.setCells x5 M 0 (pl m x y).toList = x6 at g8 hQ2 ⊢
 have hB6 : Below x3.heap.size x3 x6 := hB12.trans (hQ2.below.mono o8)
 clear hQ hQ2 hb8 hB12
 refine wpList_nil ?_
 refine HK1.out _ _ ?_
 clear HK1 K1
 have l8 := Zaa g8
 refine Zad (fun K3 HK3 => ?_)
 refine Zad (fun K1 HK1 => ?_)
 refine wp_region_list ?_
 have hB36 : Below W0.heap.size W0 x6 := hB3.trans (hB6.mono hB3.size)
 refine Zak rfl 65 (.tmp 5) 18 rfl rfl B2 0 (W4.cs (limb k)) rfl _ (Zah ((hB36.block _ (Zaa H2.out)).trans H2.out)) Zce rfl (infoWd (W4.Za5 _)) ?_
 simp only [Zs, Zz]
 refine Zac rfl (fun K hK => ?_)
 refine Zc8 (av := #[.agg (W4.cs (limb k))]) _ _ 19 rfl rfl (by simp only [List.map_toArray, List.map_cons, List.map_nil]; rfl) (en Tryz.func229) (ZdJ k x6) ?_
 refine hK _ _ ?_
 clear hK K
 simp only [Zs, Zz]
 refine wpList_nil ?_
 refine HK1.out _ _ ?_
 clear HK1 K1
 refine Zam (fun W7 hW7 => ?_)
 have hrow : RowK x6.heap.size k W7 := by
  rw [hW7]
  exact Zaf _ _
 have hb67 : Below x6.heap.size x6 W7 := by
  rw [hW7]
  exact (Below.refl _ _).alloc (Nat.le_refl _) _
 clear hW7
 have hB37 : Below x3.heap.size x3 W7 := hB6.trans (hb67.mono hB6.size)
 have hB07 : Below W0.heap.size W0 W7 := hB3.trans (hB37.mono hB3.size)
 have h0 := (hB07.block _ (Zaa H0.out)).trans H0.out
 have hr := (hB07.block _ l3).trans Hr.out
 have h7 := (hB37.block _ l7).trans G7.out
 have h8 := (hb67.block _ l8).trans g8
 have hG7 := HG.out.below hB07
 have hbw7 : Below N w W7 := HBW.out.trans (hB07.mono (by omega))
 have nLQ : L < x6.heap.size := Nat.lt_of_lt_of_le l7 hB6.size
 have nML : L < M := Nat.lt_of_lt_of_le l7 o8
 generalize hQN : x6.heap.size = QN at *
 have l9 : QN < W7.heap.size := Zaa hrow
 have l7' : L < W7.heap.size := by omega
 have l8' : M < W7.heap.size := by omega
 have l3' : B3 < W7.heap.size := by omega
 have lN' : N < W7.heap.size := by omega
 have n3 : B3 < L := by omega
 have nN : N < L := by omega
 clear HG HBW H0 H1 H2 Hr G7 g8 hB3 hB6 hB36 hb67 hB37 hB07 l7 l8 l3 hQN o7 o8
 refine wp_block ?_
 refine (wpIn_wide (n := 6)).1 ?_
 refine Zcw (n := 6) (by omega) rfl (en Tryz.func251) (fun q => #[.bool (bitq k q)]) (bl k) (fun _ => rfl) (KpK QN k) (ZcX _ (by omega) QN k HK.out W7 hrow)
  (fun j W => W.heap[L]? = some (.cells (scS m (timesJ m (x, y) k j)) 269 (0, 0)) ∧ KQ W7 L (3 * 8) 269 W) (fun _ _ => False)
  (fun j V V' h hb => ⟨(hb.block _ (Zaa h.1)).trans h.1, h.2.call hb⟩) (fun _ _ _ h _ => h)
  (fun j V l' o o' h hl _ _ => ⟨(World.putObj_heap_other (by omega)).trans h.1, KQ.putObj h.2 hl (by omega)⟩) (fun _ _ _ _ _ h _ _ _ => h)
  (fun V V' l' o o' h hl _ _ hk => (World.putObj_heap_other (by omega)).trans (h hk)) ?h0 ?round ?done ?stop
 case h0 => exact ⟨h7, KQ.start h7 (Zan m (timesJ m (x, y) k 0))⟩
 case stop => exact fun _ _ _ _ h _ => h.elim
 case round =>
  rintro l' j W hj ⟨hw7, hkq⟩ hl' ⟨rr, hlr⟩
  have HALL := hideP (And.intro hw7 (And.intro hkq hlr))
  clear hw7 hkq hlr
  gi_wp2
  obtain ⟨hw7, hkq, hlr⟩ := HALL.out
  clear HALL
  refine ⟨KeepsFrom.refl _ _, fun r => ?_⟩
  have h72 : (W.putObj l' (.loop r)).heap[L]? = some (.cells (scS m (timesJ m (x, y) k j)) 269 (0, 0)) := (World.putObj_heap_other (by omega)).trans hw7
  have hkq2 : KQ W7 L (3 * 8) 269 (W.putObj l' (.loop r)) := KQ.putObj hkq hl' (by omega)
  have HWW : Hid (∀ b, b < W7.heap.size → (W.putObj l' (.loop r)).heap[b]? = W.heap[b]?) := fun b hb => World.putObj_heap_other (by omega)
  generalize W.putObj l' (.loop r) = W2 at *
  have hst : timesJ m (x, y) k (j + 1) = stepS m (x, y) (bitq k j) (timesJ m (x, y) k j) := rfl
  generalize timesJ m (x, y) k j = t at *
  generalize bitq k j = bit at *
  have HST := hideP hst
  have HW7 := hideP hw7
  clear hst hw7 hlr hj
  refine wpIn_block ?_
  refine wpIn_seq ?_
  refine ZaJ (fun ⟨_, _, h⟩ => h) rfl ?_
  refine Zac rfl (fun K hK => ?_)
  have hf := Zae (hkq2.box h0 (by omega)) (o := 0) rfl
  go_simp
  refine hK _ _ ?_
  clear hK K hf
  refine Zak rfl 269 (.tmp 7) 22 rfl rfl L 0 (scS m t) rfl _ (Zah h72) Zbi rfl (infoSc (Zan _ _)) ?_
  simp only [Zs, Zz]
  refine Zac rfl (fun K hK => ?_)
  refine Zb4 (.tmp 21) (.tmp 22) _ 23 rfl rfl rfl rfl (en Tryz.func232) (Zc7 (hG7.kq hkq2 (by omega) (by omega)) t) ?_
  intro y1 hbc
  refine hK _ _ ?_
  clear hK K
  simp only [Zs, Zz]
  have hQ := (KQ.start h72 (Zan m t)).call hbc
  rw [← Zbj m (dblS m t)]
  refine Zal rfl 269 (.tmp 7) (.tmp 23) rfl rfl L 0 (scS m (red m (dblS m t))) rfl rfl (hQ.there (Zan _ _)) (infoSc (Zan _ _)) (Zb7 _ _) ?_
  have g9 := hQ.put (C := scS m (red m (dblS m t))) (Zan _ _)
  have hQ2 := hQ.store (C := scS m (red m (dblS m t))) (Zan _ _)
  generalize World.setCells y1 L 0 (scS m (red m (dblS m t))).toList = y2 at g9 hQ2 ⊢
  clear hQ hbc h72 HW7
  have tr : KQ W7 L (3 * 8) 269 y2 := ⟨fun b h1 h2 => (hQ2.same b (Nat.lt_of_lt_of_le h1 hkq2.size) h2).trans (hkq2.same b h1 h2), hkq2.below.trans hQ2.below, hQ2.res⟩
  refine wpList_nil ?_
  refine (?_ : Code.wpIn _ _ _ _ _ _ _)
  refine wpIn_seq ?_
  refine ZaJ (fun ⟨_, _, h⟩ => h) rfl ?_
  refine Zac rfl (fun K hK => ?_)
  go_simp
  refine hK _ _ ?_
  clear hK K
  refine wpList_nil ?_
  refine (?_ : Code.wpIn _ _ _ _ _ _ _)
  have fin : ∀ (y3 : World), KQ W2 L (3 * 8) 269 y3 → KeepsFrom W7.heap.size W2 y3 ∧ KpK QN k W y3 := fun y3 h3 => by
   refine ⟨⟨h3.size, fun b o hbb ho _ => (h3.same b (Zaa ho) (by omega)).trans ho⟩, fun hk => ?_⟩
   exact (h3.same QN (Nat.lt_of_lt_of_le l9 hkq2.size) (by omega)).trans ((HWW.out QN l9).trans hk)
  cases bit with
  | false =>
   refine wpIn_cond_false rfl ?_
   refine wpIn_skip ?_
   refine ⟨(fin _ hQ2).1, (fin _ hQ2).2, ?_, tr⟩
   rw [HST.out, stepS, if_neg (by decide), Zbj, ← Zbj m (dblS m t)]
   exact g9
  | true =>
   refine wpIn_cond_true rfl ?_
   refine ZaJ (fun ⟨_, _, h⟩ => h) rfl ?_
   refine Zac rfl (fun K hK => ?_)
   have hf := Zae (tr.box h0 (by omega)) (o := 0) rfl
   go_simp
   refine hK _ _ ?_
   clear hK K hf
   refine Zak rfl 269 (.tmp 7) 26 rfl rfl L 0 (scS m (red m (dblS m t))) rfl _ (Zah g9) Zbi rfl (infoSc (Zan _ _)) ?_
   simp only [Zs, Zz]
   refine Zak rfl 267 (.tmp 8) 27 rfl rfl M 0 (pl m x y) rfl _ (Zah (tr.box h8 (by omega))) Zdl rfl (infoPl (ZaQ _ _ _)) ?_
   simp only [Zs, Zz]
   refine Zac rfl (fun K hK => ?_)
   refine ZaT (av := #[.pointer (some ⟨g, 0, none⟩), .agg (scS m (red m (dblS m t))), .agg (pl m x y)]) _ _ 28 rfl rfl (by simp only [List.map_toArray, List.map_cons, List.map_nil]; rfl) (en Tryz.func188) (ZeB (hG7.kq tr (by omega) (by omega)) (red m (dblS m t)) (x, y)) ?_
   intro y3 hbc
   refine hK _ _ ?_
   clear hK K
   simp only [Zs, Zz]
   have hQ3 := hQ2.call hbc
   have tr3 := tr.call hbc
   refine Zal rfl 269 (.tmp 7) (.tmp 28) rfl rfl L 0 (scS m (plusS m (red m (dblS m t)) (x, y))) rfl rfl (hQ3.there (Zan _ _)) (infoSc (Zan _ _)) (Zb7 _ _) ?_
   have g10 := hQ3.put (C := scS m (plusS m (red m (dblS m t)) (x, y))) (Zan _ _)
   have hQ4 := hQ3.store (C := scS m (plusS m (red m (dblS m t)) (x, y))) (Zan _ _)
   have tr4 := tr3.store (C := scS m (plusS m (red m (dblS m t)) (x, y))) (Zan _ _)
   generalize World.setCells y3 L 0 (scS m (plusS m (red m (dblS m t)) (x, y))).toList = y4 at g10 hQ4 tr4 ⊢
   refine wpList_nil ?_
   refine ⟨(fin _ hQ4).1, (fin _ hQ4).2, ?_, tr4⟩
   rw [HST.out, stepS, if_pos rfl, Zbj]
   exact g10
 case done =>
  rintro Db W hDb ⟨hw7, hkq⟩ hdef
  show K3 _ _
  refine HK3.out _ _ ?_
  clear HK3 K3
  have hts : timesJ m (x, y) k (bl k) = timesS m (x, y) k := rfl
  rw [hts] at hw7
  generalize timesS m (x, y) k = t at hw7 ⊢
  refine wp_seq ?_
  refine wp_region_list ?_
  refine Zak rfl 269 (.tmp 7) 29 rfl rfl L 0 (scS m t) rfl _ (Zah hw7) Zbi rfl (infoSc (Zan _ _)) ?_
  simp only [Zs, Zz]
  have hr3 := hkq.box hr (by omega)
  have hQ := KQ.start hr3 s_R
  refine Zal rfl 269 (.tmp 6) (.tmp 29) rfl rfl B3 0 (scS m t) rfl rfl (hQ.there (Zan _ _)) (infoSc (Zan _ _)) (Zb7 _ _) ?_
  have g6 := hQ.put (C := scS m t) (Zan _ _)
  have hQ2 := hQ.store (C := scS m t) (Zan _ _)
  generalize World.setCells W B3 0 (scS m t).toList = W6 at g6 hQ2 ⊢
  refine wpList_nil ?_
  refine wp_ret ?_
  have hdef6 := (hQ2.same Db (Zaa hdef) (by omega)).trans hdef
  refine ⟨by simp, .inl ⟨_, _, rfl, run_takeDeferred hdef6, ?_⟩⟩
  have hg9 : (W6.putObj Db (.deferred none)).heap[B3]? = some (.cells (scS m t) 269 (0, 0)) := (World.putObj_heap_other (by omega)).trans g6
  refine ⟨.agg (scS m t), ZaH (p := ⟨B3, 0, none⟩) rfl rfl (loadC _ B3 0 269 (scS m t) _ (Zah hg9) Zbi rfl (infoSc (Zan _ _))), rfl, ?_⟩
  exact ZaB (hbw7.trans ((hkq.below.mono (by omega)).trans (hQ2.below.mono (by omega)))) (by omega)
abbrev P3 := K × K × Bool
theorem Zdm {w : World} {g p m : Nat} {b : K} (hG : GAt w g p m b) (x y : K) (hx : Fits x) (hy : Fits y) (i : Bool) {e0 : Int} (h : goodN m b x y i = e0) : Calls Tryz.prog 123 #[.pointer (some ⟨g, 0, none⟩), .agg (pt x y i)] w fun e w' => e = .returned (.int .i64 e0) ∧ Below w.heap.size w w' := by
 rw [← h]
 exact Zc6 hG x y hx hy i
theorem Zbv (m : Nat) (b x y : K) (i : Bool) : goodN m b x y i = 0 ∨ goodN m b x y i = 70 ∨ goodN m b x y i = 71 := by
 unfold goodN
 repeat' split
 all_goals simp
def timesP (m : Nat) (x y : K) (i : Bool) (k : Nat) : T3 := if i = true then (k1, k1, k0) else timesS m (x, y) k
theorem Zdn {w : World} {g p m : Nat} {b : K} (hG : GAt w g p m b) (x y : K) (hx : Fits x) (hy : Fits y) (i : Bool) (k : Nat) (hk : k < 2 ^ 256) : Calls Tryz.prog 170 #[.pointer (some ⟨g, 0, none⟩), .agg (pt x y i), .agg (W4.cs (limb k))] w fun e w' => e = .returned (.agg (scS m (timesP m x y i k))) ∧ Below w.heap.size w w' := by
 cases i with
 | true => exact Zcf hG x y k
 | false => exact Zcg hG x y hx hy k hk
structure GB (w : World) (g : Nat) (x y : K) (k : Nat) : Prop where
 base : w.rangeAt g (1 + 3 * 8) (pt x y false).toList
 ord : w.rangeAt g (2 + 5 * 8) (W4.cs (limb k)).toList
 lt : g < w.heap.size
theorem GB.below {w w' : World} {g k : Nat} {x y : K} (h : GB w g x y k) (hb : Below w.heap.size w w') : GB w' g x y k :=
 ⟨Za0 (hb.block _ h.lt) h.base, Za0 (hb.block _ h.lt) h.ord, Nat.lt_of_lt_of_le h.lt hb.size⟩
structure CAt (w : World) (c g p m : Nat) (b bx bY : K) (k : Nat) : Prop where
 at_ : w.cell? ⟨c, 2, none⟩ = some (.pointer (some ⟨g, 0, none⟩))
 ga : GAt w g p m b
 gb : GB w g bx bY k
 clt : c < w.heap.size
theorem CAt.below {w w' : World} {c g p m : Nat} {b bx bY : K} {k : Nat} (h : CAt w c g p m b bx bY k) (hb : Below w.heap.size w w') : CAt w' c g p m b bx bY k :=
 ⟨(hb.cell (p := ⟨c, 2, none⟩) h.clt).trans h.at_, h.ga.below hb, h.gb.below hb, Nat.lt_of_lt_of_le h.clt hb.size⟩
end Go.Proofs.YtcbdbnfgnonacaaGreat.Q4
namespace Go.Proofs.YtcbdbnfgnonacaaGreat
open Go.RowKit Go.Shelf
noncomputable def pn (a b c d : Nat) (i : Bool) : Array Value := Classical.choose (⟨_, rfl⟩ : ∃ C : Array Value, C = W6.cs (limb a) ++ (W6.cs (limb b) ++ (W6.cs (limb c) ++ (W6.cs (limb d) ++ #[.bool i]))))
theorem Zcp (a b c d : Nat) (i : Bool) : pn a b c d i = W6.cs (limb a) ++ (W6.cs (limb b) ++ (W6.cs (limb c) ++ (W6.cs (limb d) ++ #[.bool i]))) := Classical.choose_spec (⟨_, rfl⟩ : ∃ C : Array Value, C = W6.cs (limb a) ++ (W6.cs (limb b) ++ (W6.cs (limb c) ++ (W6.cs (limb d) ++ #[.bool i]))))
def lo4 (a : Nat) : Nat := a % W4.R
theorem ZdK (a j : Nat) (hj : j < 4) : limb (lo4 a) j = limb a j := by
 unfold lo4 limb
 have e : W4.R = 18446744073709551616 ^ j * 18446744073709551616 * 18446744073709551616 ^ (3 - j) := by
  rw [← Nat.pow_succ, ← Nat.pow_add, show j.succ + (3 - j) = 4 by omega]
  decide +kernel
 rw [e, Nat.mul_assoc, Nat.mod_mul_right_div_self, Nat.mod_mul_right_mod]
theorem Zjy (a : Nat) : W6.cs (limb a) = P4.nv (lo4 a) ++ #[.int .u64 (limb a 4), .int .u64 (limb a 5)] := by
 rw [P4.Za3, show W4.cs (limb (lo4 a)) = #[.int .u64 (limb (lo4 a) 0), .int .u64 (limb (lo4 a) 1), .int .u64 (limb (lo4 a) 2), .int .u64 (limb (lo4 a) 3)] from rfl, ZdK a 0 (by omega), ZdK a 1 (by omega), ZdK a 2 (by omega), ZdK a 3 (by omega)]
 rfl
section
variable {w : World} {B t a b c d : Nat} {i : Bool}
theorem pn_i (h : w.heap[B]? = some (.cells (pn a b c d i) t (0, 0))) : w.cell? ⟨B, 24, none⟩ = some (.bool i) := by
 rw [Zcp, ← Array.append_assoc (xs := W6.cs (limb c)), ← Array.append_assoc (xs := W6.cs (limb b)), ← Array.append_assoc (xs := W6.cs (limb a))] at h
 have := ZaS (A := W6.cs (limb a) ++ (W6.cs (limb b) ++ (W6.cs (limb c) ++ W6.cs (limb d)))) (B := #[.bool i]) (C := #[]) (o := 24) (by rw [Array.append_empty]; exact h) (by rw [Array.size_append, Array.size_append, Array.size_append, W6.Za5, W6.Za5, W6.Za5, W6.Za5])
 exact this 0 _ rfl
end
theorem Za8 (a b c d : Nat) (i : Bool) : (pn a b c d i).size = 25 := by
 rw [Zcp, Array.size_append, Array.size_append, Array.size_append, Array.size_append, W6.Za5, W6.Za5, W6.Za5, W6.Za5]
 rfl
theorem Zd4 : Tryz.prog.underlying 30 = some (.struct (fsOf (Tryz.prog.underlying 30))) := by kernel_rfl
theorem infoPn {C : Array Value} (h : C.size = 25) : (Tryz.prog.info? 30).map (·.size) = some C.size := by rw [h]; kernel_rfl
theorem zpn : (#[.int .u64 0, .int .u64 0, .int .u64 0, .int .u64 0, .int .u64 0, .int .u64 0, .int .u64 0, .int .u64 0, .int .u64 0, .int .u64 0, .int .u64 0, .int .u64 0, .int .u64 0, .int .u64 0, .int .u64 0, .int .u64 0, .int .u64 0, .int .u64 0, .int .u64 0, .int .u64 0, .int .u64 0, .int .u64 0, .int .u64 0, .int .u64 0, .bool false] : Array Value) = pn 0 0 0 0 false := by
 rw [Zcp]
 rfl
theorem Zi7 {x : Nat} (hx : x < W4.R) (j : Nat) (hj : 4 ≤ j) : limb x j = 0 := by
 unfold limb
 have e : W4.R ≤ 18446744073709551616 ^ j := by
  rw [show W4.R = 18446744073709551616 ^ 4 by decide +kernel]
  exact Nat.pow_le_pow_right (by decide) hj
 rw [Nat.div_eq_of_lt (by omega)]
theorem ZeD : ∀ (vs pre old rest : List Value), old.length = vs.length → putAll (pre ++ (old ++ rest)).toArray pre.length vs = (pre ++ (vs ++ rest)).toArray
 | [], pre, old, rest, h => by
  obtain rfl := List.eq_nil_of_length_eq_zero (by simpa using h)
  rfl
 | v :: vs, pre, [], rest, h => by simp at h
 | v :: vs, pre, x :: old, rest, h => by
  have e : (pre ++ (x :: old ++ rest)).toArray.setIfInBounds pre.length v = ((pre ++ [v]) ++ (old ++ rest)).toArray := by simp
  rw [putAll, e]
  have := ZeD vs (pre ++ [v]) old rest (by simpa using h)
  rw [List.length_append, List.length_singleton] at this
  rw [this]
  simp
theorem Zb0 {A B B' C : Array Value} {o : Nat} (hA : A.size = o) (hB : B.size = B'.size) : putAll (A ++ (B ++ C)) o B'.toList = A ++ (B' ++ C) := by
 subst hA
 have h := ZeD B'.toList A.toList B.toList C.toList (by simpa using hB)
 have e : ∀ X Y Z : Array Value, (X.toList ++ (Y.toList ++ Z.toList)).toArray = X ++ (Y ++ Z) := fun X Y Z => by
  apply Array.ext'
  simp only [Array.toList_append]
 rw [e, e, Array.length_toList] at h
 exact h
theorem ZfB {x : Nat} (hx : x < W4.R) : W6.cs (limb x) = P4.nv x ++ #[.int .u64 0, .int .u64 0] := by
 rw [Zjy, Zi7 hx 4 (by omega), Zi7 hx 5 (by omega)]
 unfold lo4
 rw [Nat.mod_eq_of_lt hx]
 rfl
theorem ZdL : 0 < W4.R := by decide +kernel
theorem ZjQ {x : Nat} (hx : x < W4.R) (b c d : Nat) (i : Bool) : pn x b c d i = (#[]) ++ (P4.nv x ++ (#[Value.int .u64 0, Value.int .u64 0] ++ (W6.cs (limb b) ++ (W6.cs (limb c) ++ (W6.cs (limb d) ++ (#[Value.bool i])))))) := by
 rw [Zcp, ZfB hx]
 simp only [Array.append_assoc, Array.empty_append]
theorem ZgB {x : Nat} (hx : x < W4.R) (b c d : Nat) (i : Bool) : putAll (pn 0 b c d i) 0 (P4.nv x).toList = pn x b c d i := by
 rw [ZjQ ZdL, ZjQ hx]
 exact Zb0 (by rfl) (by rw [P4.Zai, P4.Zai])
theorem ZjR {x : Nat} (hx : x < W4.R) (a c d : Nat) (i : Bool) : pn a x c d i = (W6.cs (limb a)) ++ (P4.nv x ++ (#[Value.int .u64 0, Value.int .u64 0] ++ (W6.cs (limb c) ++ (W6.cs (limb d) ++ (#[Value.bool i]))))) := by
 rw [Zcp, ZfB hx]
 simp only [Array.append_assoc]
theorem Zi8 {x : Nat} (hx : x < W4.R) (a c d : Nat) (i : Bool) : putAll (pn a 0 c d i) 6 (P4.nv x).toList = pn a x c d i := by
 rw [ZjR ZdL, ZjR hx]
 exact Zb0 (by simp [W6.Za5]) (by rw [P4.Zai, P4.Zai])
theorem ZjS {x : Nat} (hx : x < W4.R) (a b d : Nat) (i : Bool) : pn a b x d i = (W6.cs (limb a) ++ (W6.cs (limb b))) ++ (P4.nv x ++ (#[Value.int .u64 0, Value.int .u64 0] ++ (W6.cs (limb d) ++ (#[Value.bool i])))) := by
 rw [Zcp, ZfB hx]
 simp only [Array.append_assoc]
theorem ZgC {x : Nat} (hx : x < W4.R) (a b d : Nat) (i : Bool) : putAll (pn a b 0 d i) 12 (P4.nv x).toList = pn a b x d i := by
 rw [ZjS ZdL, ZjS hx]
 exact Zb0 (by simp [W6.Za5]) (by rw [P4.Zai, P4.Zai])
theorem ZjT {x : Nat} (hx : x < W4.R) (a b c : Nat) (i : Bool) : pn a b c x i = (W6.cs (limb a) ++ (W6.cs (limb b) ++ (W6.cs (limb c)))) ++ (P4.nv x ++ (#[Value.int .u64 0, Value.int .u64 0] ++ (#[Value.bool i]))) := by
 rw [Zcp, ZfB hx]
 simp only [Array.append_assoc]
theorem Zi9 {x : Nat} (hx : x < W4.R) (a b c : Nat) (i : Bool) : putAll (pn a b c 0 i) 18 (P4.nv x).toList = pn a b c x i := by
 rw [ZjT ZdL, ZjT hx]
 exact Zb0 (by simp [W6.Za5]) (by rw [P4.Zai, P4.Zai])
theorem ZgD (a b c d : Nat) (i j : Bool) : (pn a b c d i).setIfInBounds 24 (.bool j) = pn a b c d j := by
 have e : ∀ i, pn a b c d i = (W6.cs (limb a) ++ (W6.cs (limb b) ++ (W6.cs (limb c) ++ W6.cs (limb d)))) ++ (#[.bool i] ++ #[]) := fun i => by
  rw [Zcp]
  simp only [Array.append_assoc, Array.append_empty]
 rw [e i, e j]
 have h := Zb0 (A := W6.cs (limb a) ++ (W6.cs (limb b) ++ (W6.cs (limb c) ++ W6.cs (limb d)))) (B := #[.bool i]) (B' := #[.bool j]) (C := #[]) (o := 24) (by simp only [Array.size_append, W6.Za5]) rfl
 rw [show (#[Value.bool j] : Array Value).toList = [Value.bool j] from rfl, putAll, putAll] at h
 exact h
theorem Zgd (a b c d : Nat) (i : Bool) : (pn a b c d i).all (·.oneCell') = true := by
 rw [Zcp]
 exact P4.ZaG (W6.one _) (P4.ZaG (W6.one _) (P4.ZaG (W6.one _) (P4.ZaG (W6.one _) (by simp [Value.oneCell']))))
theorem undUs : Tryz.prog.underlying 37 = some (.slice 27) := by kernel_rfl
theorem infoU1 : (Tryz.prog.info? 27).map (·.size) = some 1 := by kernel_rfl
theorem Zc9 {op : Oper} {l : List Value} {ds : List Deferred} {w w' : World} {K : Act → World → Prop} {Q : Exit → Act → World → Prop} (x y : Operand) (d : Nat) (ho : op.op = .call { callee := .builtin .copy, args := #[x, y], argTypes := #[37, 37] }) (hd : op.dst = some d) {xv yv v : Value}
  (hx : Act.eval { tmps := l.toArray, defers := ds } x = xv) (hy : Act.eval { tmps := l.toArray, defers := ds } y = yv) (hr : (Builtin.copy_ #[37, 37] op.type #[xv, yv]).run Tryz.prog w = .ok v w')
  (h : K { tmps := (l.set d v).toArray, defers := ds } w') : op.wp Tryz.prog { tmps := l.toArray, defers := ds } w K Q := by
 have hk : K (Act.put { tmps := l.toArray, defers := ds } op.dst v) w' := by rw [hd, Zab]; exact h
 unfold Oper.wp
 simp [execOp, ho, resolve, invoke, builtin, hx, hy, hr, Result.andThen]
 exact hk
theorem Zd5 {w : World} {B t A o p : Nat} {C : Array Value} (ty : Nat) {x : Nat} (hB : w.heap[B]? = some (.cells C t (0, 0))) (hC : C.size = 25) (hp : p ≤ 18) (hs : w.rangeAt A o (P4.nv x).toList) :
  (Builtin.copy_ #[37, 37] ty #[.slice (some ⟨B, p, none⟩) 6 6, .slice (some ⟨A, o, none⟩) 4 4]).run Tryz.prog w = .ok (goInt 4) (w.setCells B p (P4.nv x).toList) := by
 have hl : (P4.nv x).toList.length = 4 := by rw [Array.length_toList, P4.Zai]
 have h := run_copy_cells (P := Tryz.prog) w 37 37 ty 27 B p 6 6 ⟨A, o, none⟩ 4 4 (P4.nv x).toList undUs infoU1 (by rw [hl]; rfl) (fun j v hv => ?_) (fun j hj => ?_) (fun j hj => Zax hB) (fun v hv => ?_)
 ·
  rw [hl] at h
  exact h
 ·
  have h1 := hs j v hv
  have e : (⟨A, o, none⟩ : Addr).add j = ⟨A, o + j, none⟩ := by unfold Addr.add; split <;> simp_all
  rw [e]
  exact h1
 ·
  rw [hl] at hj
  rw [Zae hB (Array.getElem?_eq_getElem (by omega))]
  rfl
 ·
  have := P4.Zb1 x
  rw [Array.all_eq_true'] at this
  exact this v (Array.mem_toList_iff.1 hv)
theorem wl4 (x : Nat) : wl 4 (limb x) = (P4.nv x).toList := by rw [P4.Za3]; rfl
theorem wl6 (x : Nat) : wl 6 (limb x) = (W6.cs (limb x)).toList := rfl
theorem Zhi : W4.R = 18446744073709551616 ^ 4 := by decide +kernel
section
variable {n X : Nat} (hn : n = 4 ∨ n = 6) (hX : X < 18446744073709551616 ^ n) (a b c d : Nat) (i : Bool)
include hn hX
theorem ZiA : putAll (pn 0 b c d i) 0 (wl n (limb X)) = pn X b c d i := by
 rcases hn with rfl | rfl
 ·
  rw [wl4]; exact ZgB (by rw [Zhi]; exact hX) b c d i
 ·
  rw [wl6, Zcp, Zcp]
  have h := Zb0 (A := #[]) (B := W6.cs (limb 0)) (B' := W6.cs (limb X)) (C := W6.cs (limb b) ++ (W6.cs (limb c) ++ (W6.cs (limb d) ++ #[.bool i]))) (o := 0) rfl (by rw [W6.Za5, W6.Za5])
  rw [Array.empty_append, Array.empty_append] at h
  exact h
theorem Zky : putAll (pn a 0 c d i) 6 (wl n (limb X)) = pn a X c d i := by
 rcases hn with rfl | rfl
 ·
  rw [wl4]; exact Zi8 (by rw [Zhi]; exact hX) a c d i
 ·
  rw [wl6, Zcp, Zcp]
  have h := Zb0 (A := W6.cs (limb a)) (B := W6.cs (limb 0)) (B' := W6.cs (limb X)) (C := W6.cs (limb c) ++ (W6.cs (limb d) ++ #[.bool i])) (o := 6) (by rw [W6.Za5]) (by rw [W6.Za5, W6.Za5])
  exact h
theorem ZiB : putAll (pn a b 0 d i) 12 (wl n (limb X)) = pn a b X d i := by
 rcases hn with rfl | rfl
 ·
  rw [wl4]; exact ZgC (by rw [Zhi]; exact hX) a b d i
 ·
  rw [wl6, Zcp, Zcp]
  have h := Zb0 (A := W6.cs (limb a) ++ W6.cs (limb b)) (B := W6.cs (limb 0)) (B' := W6.cs (limb X)) (C := W6.cs (limb d) ++ #[.bool i]) (o := 12) (by simp [W6.Za5]) (by rw [W6.Za5, W6.Za5])
  simp only [Array.append_assoc] at h
  exact h
theorem Zkz : putAll (pn a b c 0 i) 18 (wl n (limb X)) = pn a b c X i := by
 rcases hn with rfl | rfl
 ·
  rw [wl4]; exact Zi9 (by rw [Zhi]; exact hX) a b c i
 ·
  rw [wl6, Zcp, Zcp]
  have h := Zb0 (A := W6.cs (limb a) ++ (W6.cs (limb b) ++ W6.cs (limb c))) (B := W6.cs (limb 0)) (B' := W6.cs (limb X)) (C := #[.bool i]) (o := 18) (by simp [W6.Za5]) (by rw [W6.Za5, W6.Za5])
  simp only [Array.append_assoc] at h
  exact h
end
theorem al30 (w : World) : (Instr.alloc 30 true (.tuple #[])).run Tryz.prog w = .ok (.pointer (some ⟨w.heap.size, 0, none⟩)) (w.alloc (.cells (pn 0 0 0 0 false) 30 (0, 0))) := by
 rw [← zpn]
 kernel_rfl
theorem ZfC : Tryz.prog.underlying 30 = some (.struct (fsOf (Tryz.prog.underlying 30))) := by kernel_rfl
theorem info30 (a b c d : Nat) (i : Bool) : (Tryz.prog.info? 30).map (·.size) = some (pn a b c d i).size := by rw [Za8]; kernel_rfl
theorem ZeV {ops : List Oper} {Q : Exit → Act → World → Prop} {i d : Nat} {o : Oper} {K : Act → World → Prop} {l : List Value} {ds : List Deferred} {w : World} (ho : ops[i]? = some o) (hg : o.guard = none) (x y : Operand) (hop : o.op = .call { callee := .builtin .copy, args := #[x, y], argTypes := #[37, 37] }) (hd : o.dst = some d)
  (B p n : Nat) (f : Nat → Nat) (C : Array Value) (t : TypeId) {v : Value} (hx : Act.eval { tmps := l.toArray, defers := ds } x = .slice (some ⟨B, p, none⟩) 6 6) (hy : Act.eval { tmps := l.toArray, defers := ds } y = v) (hv : LW w v n f) (hn : n ≤ 6) (hB : BX w B C t) (hp : p + n ≤ C.size)
  (h : ∀ w', But B w w' → BX w' B (putAll C p (wl n f)) t → K { tmps := (l.set d (goInt n)).toArray, defers := ds } w') : wpOp Tryz.prog ops.toArray Q i K { tmps := l.toArray, defers := ds } w := by
 obtain ⟨A, q, c, rfl, h1, h2, hg1, hc⟩ := hv.ex
 have hl : (wl n f).length = n := ZbQ n f
 have hr := run_copy_cells (P := Tryz.prog) w 37 37 o.type 27 B p 6 6 ⟨A, q, none⟩ n c (wl n f) undUs infoU1 (by rw [hl]; exact (Nat.min_eq_left hn).symm) (fun j u hu => ?_) (fun j hj => ?_) (fun j hj => Zax hB.heap) (fun u hu => ZhD u hu)
 ·
  rw [hl] at hr
  refine Zbx ho (fun K' hK' => ?_)
  have hw : Region.wanted o (yielded ops.toArray (Act.tmps { tmps := l.toArray, defers := ds })) = true := by
   unfold Region.wanted
   rw [hg]
  rw [if_pos hw]
  exact Zc9 x y d hop hd hx hy hr (hK' _ _ (h _ (But.sets _ _ (But.refl B w)) ⟨ZaE _ _ hB.heap⟩))
 ·
  have hj := (List.getElem?_eq_some_iff.1 hu).1
  rw [hl] at hj
  rw [ZeM hj] at hu
  rw [Addr.add_mid, hc j hj]
  exact hu
 ·
  rw [hl] at hj
  rw [Zae hB.heap (Array.getElem?_eq_getElem (by omega))]
  rfl
theorem st_pn {ops : List Oper} {Q : Exit → Act → World → Prop} {i : Nat} {o : Oper} {K : Act → World → Prop} {a : Act} {w : World} (ho : ops[i]? = some o) (hg : o.guard = none) (x y : Operand) (hop : o.op = .store 30 x y) (hd : o.dst = none)
  (B : Nat) {a1 a2 a3 a4 b1 b2 b3 b4 : Nat} {j1 j2 : Bool} (hx : a.eval x = .pointer (some ⟨B, 0, none⟩)) (hy : a.eval y = .agg (pn b1 b2 b3 b4 j2)) (hB : BX w B (pn a1 a2 a3 a4 j1) 30)
  (h : ∀ w', But B w w' → BX w' B (pn b1 b2 b3 b4 j2) 30 → K a w') : wpOp Tryz.prog ops.toArray Q i K a w := by
 refine Zbx ho (fun K' hK' => ?_)
 have hw : Region.wanted o (yielded ops.toArray a.tmps) = true := by
  unfold Region.wanted
  rw [hg]
 rw [if_pos hw]
 refine Zap _ x y hop hd B 0 (pn b1 b2 b3 b4 j2) hx hy (Zfe hB.heap (by rw [Za8, Za8])) (info30 _ _ _ _ _) (Zgd _ _ _ _ _) (hK' _ _ (h _ (But.sets _ _ (But.refl B w)) ⟨?_⟩))
 have := ZaE (pn b1 b2 b3 b4 j2).toList 0 hB.heap
 rwa [ZdO (by rw [Za8, Za8])] at this
theorem ZiC (a b c d : Nat) (i j : Bool) : putAll (pn a b c d i) 24 [.bool j] = pn a b c d j := ZgD a b c d i j
end Go.Proofs.YtcbdbnfgnonacaaGreat
