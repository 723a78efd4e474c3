/-
 A curve in memory.
-/
import Derived.Test.YtcbdbnfgnonacaaGreatCurveBn1C18
set_option maxHeartbeats 4000000
set_option maxRecDepth 100000
namespace Go.Proofs.YtcbdbnfgnonacaaGreat.P4
open Go.RowKit Go.Shelf
attribute [local go_sem] Oper.semAt_some
theorem ZaI (m : Nat) (s : T3) : (scS m s).size = 3 * 4 := Zec _ _ _ _
theorem ZgY (m : Nat) (s : T3) : (scS m s).all (·.oneCell') = true := ZlK _ _ _ _
theorem Zbx {B l : Nat} {W V : World} {o : Obj} (h : Below B W V) (hl : B ≤ l) : Below B W (V.putObj l o) :=
 ⟨h.os, h.tape, h.output, by rw [show (V.putObj l o).heap.size = V.heap.size by simp [World.putObj]]; exact h.size, fun k hk => (World.putObj_heap_other (by omega)).trans (h.block k hk)⟩
theorem KQ.putObj {W V : World} {R0 n ty l : Nat} {o : Obj} (h : KQ W R0 n ty V) (hl : W.heap.size ≤ l) (hR : R0 < l) : KQ W R0 n ty (V.putObj l o) := by
 obtain ⟨g, hg, hn⟩ := h.res
 exact ⟨fun b h1 h2 => (World.putObj_heap_other (by omega)).trans (h.same b h1 h2), Zbx h.below (by omega), g, (World.putObj_heap_other (by omega)).trans hg, hn⟩
theorem ZjC : Tryz.prog.underlying 65 = some (.array 4 27) := by kernel_rfl
theorem infoWd {C : Array Value} (h : C.size = 4) : (Tryz.prog.info? 65).map (·.size) = some C.size := by rw [h]; kernel_rfl
theorem Zli {P : Program} {op : Oper} {l : List Value} {ds : List Deferred} {w w' : World} {K : Act → World → Prop} {Q : Exit → Act → World → Prop} (args : Array Operand) (tys : Array TypeId) (d : Nat) {f : Nat} (ho : op.op = .call { callee := .value (.func f), args := args, argTypes := tys }) (hd : op.dst = some d) {av : Array Value}
  (hx : args.map (Act.eval { tmps := l.toArray, defers := ds }) = av) (hm : ∀ av w, (callFunc f av).run P w = .ok (.enter f av) w) {v : Value} (hc : Calls P f av w fun e w'' => e = .returned v ∧ w'' = w')
  (h : K { tmps := (l.set d v).toArray, defers := ds } w') : op.wp P { tmps := l.toArray, defers := ds } w K Q := by
 unfold Oper.wp execOp
 have he : (do let d ← resolve (Act.eval { tmps := l.toArray, defers := ds }) { callee := .value (.func f), args := args, argTypes := tys } op.type; invoke d.target d.args).run P w = .ok (.enter f av) w := by
  have hf : Act.eval { tmps := l.toArray, defers := ds } (.func f) = .func (.func f) #[] #[] := rfl
  simp only [resolve, invoke, Deferred.ofValue, hf, Sem.run_bind, Sem.run_pure, Result.andThen, hx]
  simp [hm]
 simp only [ho]
 rw [he]
 refine hc.mono ?_
 rintro e w'' ⟨rfl, rfl⟩
 show K _ _
 rw [hd, Zaa]
 exact h
theorem ZjD {w : World} {g p m : Nat} {b : K} (hG : GAt w g p m b) (x y : K) (k : Nat) :
  Calls Tryz.prog 169 #[.pointer (some ⟨g, 0, none⟩), .agg (pt x y true), .agg (W4.cs (limb k))] w fun e w' => e = .returned (.agg (sc m k1 k1 k0)) ∧ Below w.heap.size w w' := by
 have := Zh0 ⟨m, g, p, b, b, b, k, v5 x y x x x, fun _ => false, 0⟩ nofit [] hG (fun _ h => by cases h) (fun _ h => by cases h) (ZdN w) (noL w) Tryz.func169 (args := [gp0, ptE (.v 0) (.v 1) (.lit true), .row [.e 2 (.c 0)]]) (y := scE (.c 1, .c 1, .c 0)) (by kernel_rfl) (fun _ => 0)
 simp only [scE, Al.sv, List.map_cons, List.map_nil, ZcN, Zbo, rw_w] at this
 exact this
theorem ZjE {w : World} {g p m : Nat} {b : K} (hG : GAt w g p m b) (x y : K) (hx : Fits x) (hy : Fits y) (k : Nat) (hk : k < 2 ^ 256) :
  Calls Tryz.prog 169 #[.pointer (some ⟨g, 0, none⟩), .agg (pt x y false), .agg (W4.cs (limb k))] w fun e w' => e = .returned (.agg (scS m (timesS m (x, y) k))) ∧ Below w.heap.size w w' := by
 have hg := hG.glt
 have hp := hG.plt
 have HG9 := hideP hG
 have HK := hideP hk
 clear hG hk
 refine (callsIn_wide (n := 6)).1 ?_
 refine callsIn_of_wp_marks Tryz.func169 rfl trivial ?_ rfl
 simp only [Tryz.ntmps169, List.size_toArray, List.length_cons, List.length_nil, Nat.reduceAdd, Nat.reduceSub, Array.replicate_succ, Array.replicate_zero, List.push_toArray, List.append_toArray, List.nil_append, List.cons_append]
 refine wpIn_wide.2 ?_
 refine Zae (fun K0 HK0 => ?_)
 go_wp2_with fail
 refine HK0.out _ _ ?_
 clear HK0 K0
 refine Zaj (fun W0 hW0 => ?_)
 have hb0 : W0.heap[w.heap.size]? = some (.cells #[.pointer (some ⟨g, 0, none⟩)] 114 (0, 0)) := by
  rw [hW0]
  exact ((Zah _ _ (by simp <;> omega)).trans ((Zah _ _ (by simp <;> omega)).trans ((Zah _ _ (by simp <;> omega)).trans (Zaf _ _))))
 have hb1 : W0.heap[w.heap.size + 1]? = some (.cells (pt x y false) 125 (0, 0)) := by
  rw [hW0]
  exact ((Zah _ _ (by simp <;> omega)).trans ((Zah _ _ (by simp <;> omega)).trans (Zat _ _ _)))
 have hb2 : W0.heap[w.heap.size + 1 + 1]? = some (.cells (W4.cs (limb k)) 65 (0, 0)) := by
  rw [hW0]
  exact ((Zah _ _ (by simp <;> omega)).trans (ZaG _ _ _ _))
 have hbr : ∃ C : Array Value, W0.heap[w.heap.size + 1 + 1 + 1]? = some (.cells C 264 (0, 0)) ∧ C.size = 3 * 4 := by
  rw [hW0]
  exact ⟨_, Zch _ _ _ _ _, rfl⟩
 have hbw : Below w.heap.size w W0 := by
  rw [hW0]
  repeat first | exact Below.refl _ _ | (refine Below.alloc ?_ (by simp <;> omega) _)
 clear hW0
 have HG := hideP (HG9.out.below hbw)
 clear HG9
 have HBW := hideP hbw
 clear hbw
 generalize hN : w.heap.size = N at *
 clear hN
 generalize hB1 : N + 1 = B1 at *
 generalize hB2 : B1 + 1 = B2 at *
 generalize hB3 : B2 + 1 = B3 at *
 have o1 : N < B1 := by omega
 have o2 : B1 < B2 := by omega
 have o3 : B2 < B3 := by omega
 clear hB3 hB2 hB1
 have H0 := hideP hb0
 have H1 := hideP hb1
 have H2 := hideP hb2
 clear hb0 hb1 hb2
 obtain ⟨Cr, hbr, s_R⟩ := hbr
 have l3 := Zab hbr
 have Hr := hideP hbr
 clear hbr
 refine Zae (fun K1 HK1 => ?_)
 refine wp_region_list ?_
 refine Zad rfl (fun K hK => ?_)
 have hf := Zac H0.out (o := 0) rfl
 go_simp
 refine hK _ _ ?_
 clear hK K hf
 refine Zad rfl (fun K hK => ?_)
 refine ZaX (av := #[.pointer (some ⟨g, 0, none⟩)]) _ _ 11 rfl rfl (by simp only [List.map_toArray, List.map_cons, List.map_nil]; rfl) (en Tryz.func228) (ZgJ HG.out) ?_
 intro x1 hbc
 refine hK _ _ ?_
 clear hK K
 simp only [Zs, Zz]
 refine Zad rfl (fun K hK => ?_)
 go_simp
 refine hK _ _ ?_
 clear hK K
 refine ZaT (fun x2 hx2 => ?_)
 have hb7 : ∃ C : Array Value, x2.heap[x1.heap.size]? = some (.cells C 264 (0, 0)) ∧ C.size = 3 * 4 := by
  rw [hx2]
  exact ⟨_, Zaf _ _, rfl⟩
 have hbe : Below x1.heap.size x1 x2 := by
  rw [hx2]
  exact (Below.refl _ _).alloc (Nat.le_refl _) _
 have hsz : x2.heap.size = x1.heap.size + 1 := by rw [hx2]; simp
 clear hx2
 obtain ⟨C7, hb7, s_7⟩ := hb7
 have o7 : W0.heap.size ≤ x1.heap.size := hbc.size
 have hB12 : Below W0.heap.size W0 x2 := hbc.trans (hbe.mono o7)
 generalize hL : x1.heap.size = L at *
 clear hbc hbe hL
 have hQ := KQ.start hb7 s_7
 refine Zav rfl 264 (.tmp 7) (.tmp 11) rfl rfl L 0 (sc m k1 k1 k0) rfl rfl (hQ.there (Zec _ _ _ _)) (infoSc (Zec _ _ _ _)) (ZlK _ _ _ _) ?_
 have g7 := hQ.put (C := sc m k1 k1 k0) (Zec _ _ _ _)
 have hQ2 := hQ.store (C := sc m k1 k1 k0) (Zec _ _ _ _)
 generalize World.setCells x2 L 0 (sc m k1 k1 k0).toList = x3 at g7 hQ2 ⊢
 have hB3 : Below W0.heap.size W0 x3 := hB12.trans (hQ2.below.mono o7)
 clear hQ hQ2 hb7 hB12
 clear hsz
 refine wpList_nil ?_
 refine HK1.out _ _ ?_
 clear HK1 K1
 have l7 := Zab g7
 have G7 := hideP g7
 clear g7
 refine Zae (fun K2 HK2 => ?_)
 refine Zae (fun K1 HK1 => ?_)
 refine wp_region_list ?_
 refine Zad rfl (fun K hK => ?_)
 go_simp
 refine hK _ _ ?_
 clear hK K
 refine Zad rfl (fun K hK => ?_)
 have hf := pt_i ((hB3.block _ (Zab H1.out)).trans H1.out)
 go_simp
 refine hK _ _ ?_
 clear hK K hf
 refine wpList_nil ?_
 refine HK1.out _ _ ?_
 clear HK1 K1
 refine wp_cond_false rfl ?_
 refine wp_skip ?_
 refine HK2.out _ _ ?_
 clear HK2 K2
 refine Zae (fun K1 HK1 => ?_)
 refine wp_region_list ?_
 refine Zad rfl (fun K hK => ?_)
 have hf := Zac ((hB3.block _ (Zab H0.out)).trans H0.out) (o := 0) rfl
 go_simp
 refine hK _ _ ?_
 clear hK K hf
 refine Zax rfl 125 (.tmp 4) 16 rfl rfl B1 0 (pt x y false) rfl _ (Zag ((hB3.block _ (Zab H1.out)).trans H1.out)) Zed rfl (infoPt (Zau _ _ _)) ?_
 simp only [Zs, Zz]
 refine Zad rfl (fun K hK => ?_)
 refine ZbM (.tmp 15) (.tmp 16) _ 17 rfl rfl rfl rfl (en Tryz.func182) (at_any (HG.out.below hB3) x y false hx hy) ?_
 intro x4 hbc
 refine hK _ _ ?_
 clear hK K
 simp only [Zs, Zz]
 refine Zad rfl (fun K hK => ?_)
 go_simp
 refine hK _ _ ?_
 clear hK K
 refine ZaT (fun x5 hx5 => ?_)
 have hb8 : ∃ C : Array Value, x5.heap[x4.heap.size]? = some (.cells C 262 (0, 0)) ∧ C.size = 2 * 4 := by
  rw [hx5]
  exact ⟨_, Zaf _ _, rfl⟩
 have hbe : Below x4.heap.size x4 x5 := by
  rw [hx5]
  exact (Below.refl _ _).alloc (Nat.le_refl _) _
 clear hx5
 obtain ⟨C8, hb8, s_8⟩ := hb8
 have o8 : x3.heap.size ≤ x4.heap.size := hbc.size
 have hB12 : Below x3.heap.size x3 x5 := hbc.trans (hbe.mono o8)
 generalize hM : x4.heap.size = M at *
 clear hbc hbe hM
 have hQ := KQ.start hb8 s_8
 refine Zav rfl 262 (.tmp 8) (.tmp 17) rfl rfl M 0 (pl m x y) rfl rfl (hQ.there (Zdb _ _ _)) (infoPl (Zdb _ _ _)) (ZlJ _ _ _) ?_
 have g8 := hQ.put (C := pl m x y) (Zdb _ _ _)
 have hQ2 := hQ.store (C := pl m x y) (Zdb _ _ _)
 generalize World.setCells x5 M 0 (pl m x y).toList = x6 at g8 hQ2 ⊢
 have hB6 : Below x3.heap.size x3 x6 := hB12.trans (hQ2.below.mono o8)
 clear hQ hQ2 hb8 hB12
 refine wpList_nil ?_
 refine HK1.out _ _ ?_
 clear HK1 K1
 have l8 := Zab g8
 refine Zae (fun K3 HK3 => ?_)
 refine Zae (fun K1 HK1 => ?_)
 refine wp_region_list ?_
 have hB36 : Below W0.heap.size W0 x6 := hB3.trans (hB6.mono hB3.size)
 refine Zax rfl 65 (.tmp 5) 18 rfl rfl B2 0 (W4.cs (limb k)) rfl _ (Zag ((hB36.block _ (Zab H2.out)).trans H2.out)) ZjC rfl (infoWd (W4.Za6 _)) ?_
 simp only [Zs, Zz]
 refine Zad rfl (fun K hK => ?_)
 refine Zli (av := #[.agg (W4.cs (limb k))]) _ _ 19 rfl rfl (by simp only [List.map_toArray, List.map_cons, List.map_nil]; rfl) (en Tryz.func229) (ZkN k x6) ?_
 refine hK _ _ ?_
 clear hK K
 simp only [Zs, Zz]
 refine wpList_nil ?_
 refine HK1.out _ _ ?_
 clear HK1 K1
 refine Zaj (fun W7 hW7 => ?_)
 have hrow : RowK x6.heap.size k W7 := by
  rw [hW7]
  exact Zaf _ _
 have hb67 : Below x6.heap.size x6 W7 := by
  rw [hW7]
  exact (Below.refl _ _).alloc (Nat.le_refl _) _
 clear hW7
 have hB37 : Below x3.heap.size x3 W7 := hB6.trans (hb67.mono hB6.size)
 have hB07 : Below W0.heap.size W0 W7 := hB3.trans (hB37.mono hB3.size)
 have h0 := (hB07.block _ (Zab H0.out)).trans H0.out
 have hr := (hB07.block _ l3).trans Hr.out
 have h7 := (hB37.block _ l7).trans G7.out
 have h8 := (hb67.block _ l8).trans g8
 have hG7 := HG.out.below hB07
 have hbw7 : Below N w W7 := HBW.out.trans (hB07.mono (by omega))
 have nLQ : L < x6.heap.size := Nat.lt_of_lt_of_le l7 hB6.size
 have nML : L < M := Nat.lt_of_lt_of_le l7 o8
 generalize hQN : x6.heap.size = QN at *
 have l9 : QN < W7.heap.size := Zab hrow
 have l7' : L < W7.heap.size := by omega
 have l8' : M < W7.heap.size := by omega
 have l3' : B3 < W7.heap.size := by omega
 have lN' : N < W7.heap.size := by omega
 have n3 : B3 < L := by omega
 have nN : N < L := by omega
 clear HG HBW H0 H1 H2 Hr G7 g8 hB3 hB6 hB36 hb67 hB37 hB07 l7 l8 l3 hQN o7 o8
 refine wp_block ?_
 refine (wpIn_wide (n := 6)).1 ?_
 refine ZfS (n := 6) (by omega) rfl (en Tryz.func251) (fun q => #[.bool (bitq k q)]) (bl k) (fun _ => rfl) (KpK QN k) (ZhL _ (by omega) QN k HK.out W7 hrow)
  (fun j W => W.heap[L]? = some (.cells (scS m (timesJ m (x, y) k j)) 264 (0, 0)) ∧ KQ W7 L (3 * 4) 264 W) (fun _ _ => False)
  (fun j V V' h hb => ⟨(hb.block _ (Zab h.1)).trans h.1, h.2.call hb⟩) (fun _ _ _ h _ => h)
  (fun j V l' o o' h hl _ _ => ⟨(World.putObj_heap_other (by omega)).trans h.1, KQ.putObj h.2 hl (by omega)⟩) (fun _ _ _ _ _ h _ _ _ => h)
  (fun V V' l' o o' h hl _ _ hk => (World.putObj_heap_other (by omega)).trans (h hk)) ?h0 ?round ?done ?stop
 case h0 => exact ⟨h7, KQ.start h7 (ZaI m (timesJ m (x, y) k 0))⟩
 case stop => exact fun _ _ _ _ h _ => h.elim
 case round =>
  rintro l' j W hj ⟨hw7, hkq⟩ hl' ⟨rr, hlr⟩
  have HALL := hideP (And.intro hw7 (And.intro hkq hlr))
  clear hw7 hkq hlr
  gi_wp2
  obtain ⟨hw7, hkq, hlr⟩ := HALL.out
  clear HALL
  refine ⟨KeepsFrom.refl _ _, fun r => ?_⟩
  have h72 : (W.putObj l' (.loop r)).heap[L]? = some (.cells (scS m (timesJ m (x, y) k j)) 264 (0, 0)) := (World.putObj_heap_other (by omega)).trans hw7
  have hkq2 : KQ W7 L (3 * 4) 264 (W.putObj l' (.loop r)) := KQ.putObj hkq hl' (by omega)
  have HWW : Hid (∀ b, b < W7.heap.size → (W.putObj l' (.loop r)).heap[b]? = W.heap[b]?) := fun b hb => World.putObj_heap_other (by omega)
  generalize W.putObj l' (.loop r) = W2 at *
  have hst : timesJ m (x, y) k (j + 1) = stepS m (x, y) (bitq k j) (timesJ m (x, y) k j) := rfl
  generalize timesJ m (x, y) k j = t at *
  generalize bitq k j = bit at *
  have HST := hideP hst
  have HW7 := hideP hw7
  clear hst hw7 hlr hj
  refine wpIn_block ?_
  refine wpIn_seq ?_
  refine Zcb (fun ⟨_, _, h⟩ => h) rfl ?_
  refine Zad rfl (fun K hK => ?_)
  have hf := Zac (hkq2.box h0 (by omega)) (o := 0) rfl
  go_simp
  refine hK _ _ ?_
  clear hK K hf
  refine Zax rfl 264 (.tmp 7) 22 rfl rfl L 0 (scS m t) rfl _ (Zag h72) Zfn rfl (infoSc (ZaI _ _)) ?_
  simp only [Zs, Zz]
  refine Zad rfl (fun K hK => ?_)
  refine ZbM (.tmp 21) (.tmp 22) _ 23 rfl rfl rfl rfl (en Tryz.func230) (ZkO (hG7.kq hkq2 (by omega) (by omega)) t) ?_
  intro y1 hbc
  refine hK _ _ ?_
  clear hK K
  simp only [Zs, Zz]
  have hQ := (KQ.start h72 (ZaI m t)).call hbc
  rw [← Zfo m (dblS m t)]
  refine Zav rfl 264 (.tmp 7) (.tmp 23) rfl rfl L 0 (scS m (red m (dblS m t))) rfl rfl (hQ.there (ZaI _ _)) (infoSc (ZaI _ _)) (ZgY _ _) ?_
  have g9 := hQ.put (C := scS m (red m (dblS m t))) (ZaI _ _)
  have hQ2 := hQ.store (C := scS m (red m (dblS m t))) (ZaI _ _)
  generalize World.setCells y1 L 0 (scS m (red m (dblS m t))).toList = y2 at g9 hQ2 ⊢
  clear hQ hbc h72 HW7
  have tr : KQ W7 L (3 * 4) 264 y2 := ⟨fun b h1 h2 => (hQ2.same b (Nat.lt_of_lt_of_le h1 hkq2.size) h2).trans (hkq2.same b h1 h2), hkq2.below.trans hQ2.below, hQ2.res⟩
  refine wpList_nil ?_
  refine (?_ : Code.wpIn _ _ _ _ _ _ _)
  refine wpIn_seq ?_
  refine Zcb (fun ⟨_, _, h⟩ => h) rfl ?_
  refine Zad rfl (fun K hK => ?_)
  go_simp
  refine hK _ _ ?_
  clear hK K
  refine wpList_nil ?_
  refine (?_ : Code.wpIn _ _ _ _ _ _ _)
  have fin : ∀ (y3 : World), KQ W2 L (3 * 4) 264 y3 → KeepsFrom W7.heap.size W2 y3 ∧ KpK QN k W y3 := fun y3 h3 => by
   refine ⟨⟨h3.size, fun b o hbb ho _ => (h3.same b (Zab ho) (by omega)).trans ho⟩, fun hk => ?_⟩
   exact (h3.same QN (Nat.lt_of_lt_of_le l9 hkq2.size) (by omega)).trans ((HWW.out QN l9).trans hk)
  cases bit with
  | false =>
   refine wpIn_cond_false rfl ?_
   refine wpIn_skip ?_
   refine ⟨(fin _ hQ2).1, (fin _ hQ2).2, ?_, tr⟩
   rw [HST.out, stepS, if_neg (by decide), Zfo, ← Zfo m (dblS m t)]
   exact g9
  | true =>
   refine wpIn_cond_true rfl ?_
   refine Zcb (fun ⟨_, _, h⟩ => h) rfl ?_
   refine Zad rfl (fun K hK => ?_)
   have hf := Zac (tr.box h0 (by omega)) (o := 0) rfl
   go_simp
   refine hK _ _ ?_
   clear hK K hf
   refine Zax rfl 264 (.tmp 7) 26 rfl rfl L 0 (scS m (red m (dblS m t))) rfl _ (Zag g9) Zfn rfl (infoSc (ZaI _ _)) ?_
   simp only [Zs, Zz]
   refine Zax rfl 262 (.tmp 8) 27 rfl rfl M 0 (pl m x y) rfl _ (Zag (tr.box h8 (by omega))) ZmD rfl (infoPl (Zdb _ _ _)) ?_
   simp only [Zs, Zz]
   refine Zad rfl (fun K hK => ?_)
   refine ZaX (av := #[.pointer (some ⟨g, 0, none⟩), .agg (scS m (red m (dblS m t))), .agg (pl m x y)]) _ _ 28 rfl rfl (by simp only [List.map_toArray, List.map_cons, List.map_nil]; rfl) (en Tryz.func180) (plus_S (hG7.kq tr (by omega) (by omega)) (red m (dblS m t)) (x, y)) ?_
   intro y3 hbc
   refine hK _ _ ?_
   clear hK K
   simp only [Zs, Zz]
   have hQ3 := hQ2.call hbc
   have tr3 := tr.call hbc
   refine Zav rfl 264 (.tmp 7) (.tmp 28) rfl rfl L 0 (scS m (plusS m (red m (dblS m t)) (x, y))) rfl rfl (hQ3.there (ZaI _ _)) (infoSc (ZaI _ _)) (ZgY _ _) ?_
   have g10 := hQ3.put (C := scS m (plusS m (red m (dblS m t)) (x, y))) (ZaI _ _)
   have hQ4 := hQ3.store (C := scS m (plusS m (red m (dblS m t)) (x, y))) (ZaI _ _)
   have tr4 := tr3.store (C := scS m (plusS m (red m (dblS m t)) (x, y))) (ZaI _ _)
   generalize World.setCells y3 L 0 (scS m (plusS m (red m (dblS m t)) (x, y))).toList = y4 at g10 hQ4 tr4 ⊢
   refine wpList_nil ?_
   refine ⟨(fin _ hQ4).1, (fin _ hQ4).2, ?_, tr4⟩
   rw [HST.out, stepS, if_pos rfl, Zfo]
   exact g10
 case done =>
  rintro Db W hDb ⟨hw7, hkq⟩ hdef
  show K3 _ _
  refine HK3.out _ _ ?_
  clear HK3 K3
  have hts : timesJ m (x, y) k (bl k) = timesS m (x, y) k := rfl
  rw [hts] at hw7
  generalize timesS m (x, y) k = t at hw7 ⊢
  refine wp_seq ?_
  refine wp_region_list ?_
  refine Zax rfl 264 (.tmp 7) 29 rfl rfl L 0 (scS m t) rfl _ (Zag hw7) Zfn rfl (infoSc (ZaI _ _)) ?_
  simp only [Zs, Zz]
  have hr3 := hkq.box hr (by omega)
  have hQ := KQ.start hr3 s_R
  refine Zav rfl 264 (.tmp 6) (.tmp 29) rfl rfl B3 0 (scS m t) rfl rfl (hQ.there (ZaI _ _)) (infoSc (ZaI _ _)) (ZgY _ _) ?_
  have g6 := hQ.put (C := scS m t) (ZaI _ _)
  have hQ2 := hQ.store (C := scS m t) (ZaI _ _)
  generalize World.setCells W B3 0 (scS m t).toList = W6 at g6 hQ2 ⊢
  refine wpList_nil ?_
  refine wp_ret ?_
  have hdef6 := (hQ2.same Db (Zab hdef) (by omega)).trans hdef
  refine ⟨by simp, .inl ⟨_, _, rfl, run_takeDeferred hdef6, ?_⟩⟩
  have hg9 : (W6.putObj Db (.deferred none)).heap[B3]? = some (.cells (scS m t) 264 (0, 0)) := (World.putObj_heap_other (by omega)).trans g6
  refine ⟨.agg (scS m t), ZaD (p := ⟨B3, 0, none⟩) rfl rfl (loadC _ B3 0 264 (scS m t) _ (Zag hg9) Zfn rfl (infoSc (ZaI _ _))), rfl, ?_⟩
  exact Zbx (hbw7.trans ((hkq.below.mono (by omega)).trans (hQ2.below.mono (by omega)))) (by omega)
abbrev P3 := K × K × Bool
noncomputable def ptS (p : P3) : Array Value := pt p.1 p.2.1 p.2.2
def outS (m : Nat) (s : T3) : P3 :=
 if Like m s.2.2 k0 then (k0, k0, true)
 else (rest m (kmul m s.1 (kmul m (kinv m s.2.2) (kinv m s.2.2))), rest m (kmul m s.2.1 (kmul m (kmul m (kinv m s.2.2) (kinv m s.2.2)) (kinv m s.2.2))), false)
theorem out_S {w : World} {g p m : Nat} {b : K} (hG : GAt w g p m b) (s : T3) : Calls Tryz.prog 179 #[.pointer (some ⟨g, 0, none⟩), .agg (scS m s)] w fun e w' => e = .returned (.agg (ptS (outS m s))) ∧ Below w.heap.size w w' := by
 unfold outS
 by_cases hz : Like m s.2.2 k0
 ·
  rw [if_pos hz]
  exact ZkL hG s.1 s.2.1 s.2.2 hz
 ·
  rw [if_neg hz]
  exact ZgE hG s.1 s.2.1 s.2.2 hz
theorem ZjF {w : World} {g p m : Nat} {b : K} (hG : GAt w g p m b) (x y : K) (hx : Fits x) (hy : Fits y) (i : Bool) {e0 : Int} (h : goodN m b x y i = e0) : Calls Tryz.prog 111 #[.pointer (some ⟨g, 0, none⟩), .agg (pt x y i)] w fun e w' => e = .returned (.int .i64 e0) ∧ Below w.heap.size w w' := by
 rw [← h]
 exact ZkM hG x y hx hy i
theorem ZbC (m : Nat) (b x y : K) (i : Bool) : goodN m b x y i = 0 ∨ goodN m b x y i = 70 ∨ goodN m b x y i = 71 := by
 unfold goodN
 repeat' split
 all_goals simp
def scaleS (x y : K) (i : Bool) : T3 := if i = true then (k1, k1, k0) else (x, y, k1)
theorem ZmV {w : World} {g p m : Nat} {b : K} (hG : GAt w g p m b) (x y : K) (i : Bool) (hx : Fits x) (hy : Fits y) : Calls Tryz.prog 181 #[.pointer (some ⟨g, 0, none⟩), .agg (pt x y i)] w fun e w' => e = .returned (.agg (scS m (scaleS x y i))) ∧ Below w.heap.size w w' := by
 cases i with
 | true => exact Zja hG x y
 | false => exact Zjb hG x y hx hy
def timesP (m : Nat) (x y : K) (i : Bool) (k : Nat) : T3 := if i = true then (k1, k1, k0) else timesS m (x, y) k
theorem ZmW {w : World} {g p m : Nat} {b : K} (hG : GAt w g p m b) (x y : K) (hx : Fits x) (hy : Fits y) (i : Bool) (k : Nat) (hk : k < 2 ^ 256) : Calls Tryz.prog 169 #[.pointer (some ⟨g, 0, none⟩), .agg (pt x y i), .agg (W4.cs (limb k))] w fun e w' => e = .returned (.agg (scS m (timesP m x y i k))) ∧ Below w.heap.size w w' := by
 cases i with
 | true => exact ZjD hG x y k
 | false => exact ZjE hG x y hx hy k hk
structure GB (w : World) (g : Nat) (x y : K) (k : Nat) : Prop where
 base : w.rangeAt g (1 + 3 * 4) (pt x y false).toList
 ord : w.rangeAt g (2 + 5 * 4) (W4.cs (limb k)).toList
 lt : g < w.heap.size
theorem GB.below {w w' : World} {g k : Nat} {x y : K} (h : GB w g x y k) (hb : Below w.heap.size w w') : GB w' g x y k :=
 ⟨Zay (hb.block _ h.lt) h.base, Zay (hb.block _ h.lt) h.ord, Nat.lt_of_lt_of_le h.lt hb.size⟩
def dSt (m u v : Nat) (bit : Bool) (d : Nat × Nat × Nat) : Nat × Nat × Nat :=
 if bit = true then dPl m (if d.2.2 = 0 then d else dTw m d) u v else (if d.2.2 = 0 then d else dTw m d)
def dJ (m u v k T : Nat) : Nat → Nat × Nat × Nat
 | 0 => (u, v, 0)
 | j + 1 => dSt m u v (decide (k / 2 ^ (T - 1 - j) % 2 = 1)) (dJ m u v k T j)
theorem ZmX {m f : Nat} (hF : W4.MF m f) (h3 : 3 ≤ m) {s d : Nat × Nat × Nat} (h : Rl m s d) {u v : Nat} (hu : u < m) (hv : v < m) (bit : Bool) : Rl m (stepS m (u, v) bit s) (dSt m u v bit d) := by
 have h1 : Rl m (dblS m s) (if d.2.2 = 0 then d else dTw m d) := by
  by_cases hc : d.2.2 = 0
  ·
   rw [if_pos hc]
   exact Rl.inf (Zfy (Zd1 (h.z.symm.trans hc))) hc
  ·
   rw [if_neg hc]
   exact ZjA h
 unfold stepS dSt
 cases bit with
 | true =>
  rw [if_pos rfl, if_pos rfl]
  exact (ZmT hF h3 h1.red hu hv).red
 | false =>
  rw [if_neg (by decide), if_neg (by decide)]
  exact h1.red
theorem ZjG (m u v k T : Nat) : ∀ i, i ≤ T - bl k → dJ m u v k T i = (u, v, 0)
 | 0, _ => rfl
 | i + 1, h => by
  have e : decide (k / 2 ^ (T - 1 - i) % 2 = 1) = false := by
   have h1 : ¬ 2 ^ (T - 1 - i) ≤ k := fun h2 => by
    have := (ZfX k (T - 1 - i)).2 h2
    omega
   rw [Nat.div_eq_of_lt (by omega)]
   rfl
  unfold dJ
  rw [e, ZjG m u v k T i (by omega)]
  rfl
theorem ZlZ {m f : Nat} (hF : W4.MF m f) (h3 : 3 ≤ m) {u v : Nat} (hu : u < m) (hv : v < m) {k T : Nat} (hT : bl k ≤ T) : ∀ j, j ≤ bl k → Rl m (timesJ m (u, v) k j) (dJ m u v k T (T - bl k + j))
 | 0, _ => by
  rw [Nat.add_zero, ZjG m u v k T _ (Nat.le_refl _)]
  exact Rl.inf (Nat.zero_mod m) rfl
 | j + 1, h => by
  have := ZmX hF h3 (ZlZ hF h3 hu hv hT j (by omega)) hu hv (bitq k j)
  rw [show T - bl k + (j + 1) = (T - bl k + j) + 1 by omega]
  unfold timesJ dJ
  rw [show T - 1 - (T - bl k + j) = bl k - 1 - j by omega]
  exact this
theorem Zgd {m f : Nat} (hF : W4.MF m f) (h3 : 3 ≤ m) {u v : Nat} (hu : u < m) (hv : v < m) {k T : Nat} (hT : bl k ≤ T) : Rl m (timesS m (u, v) k) (dJ m u v k T T) := by
 have := ZlZ hF h3 hu hv hT (bl k) (Nat.le_refl _)
 rw [show T - bl k + bl k = T by omega] at this
 exact this
def dOut (m : Nat) (d : Nat × Nat × Nat) : P3 :=
 if d.2.2 = 0 then (0, 0, true) else
  (d.1 * (d.2.2 ^ (m - 2) % m * (d.2.2 ^ (m - 2) % m) % m) % m, d.2.1 * (d.2.2 ^ (m - 2) % m * (d.2.2 ^ (m - 2) % m) % m * (d.2.2 ^ (m - 2) % m) % m) % m, false)
theorem ZjH {m f : Nat} (hF : W4.MF m f) {s d : Nat × Nat × Nat} (h : Rl m s d) : outS m s = dOut m d := by
 unfold outS dOut
 by_cases hc : d.2.2 = 0
 ·
  rw [if_pos hc, if_pos ((ZaK hF _ _).2 (by rw [← h.z, hc]; exact (Nat.zero_mod m).symm))]
  rfl
 ·
  rw [if_neg hc, if_neg (fun e => hc (by rw [h.z, (ZaK hF _ _).1 e]; exact Nat.zero_mod m))]
  obtain ⟨h1, h2⟩ := h.xy hc
  rw [h1, h2, h.z]
  have ei : (s.2.2 % m) ^ (m - 2) % m = kinv m s.2.2 % m := (Nat.pow_mod _ _ _).symm
  rw [ei]
  simp only [← Nat.mul_mod]
  rfl
section
variable (m : Nat) [NeZero m]
abbrev F (a : Nat) : Fin m := Fin.ofNat m a
theorem F_add (a b : Nat) : F m (a + b) = F m a + F m b := by
 apply Fin.ext; simp [F, Fin.ofNat, Fin.add_def, Nat.add_mod]
theorem ZgZ (a b : Nat) : F m (a * b) = F m a * F m b := by
 apply Fin.ext; simp [F, Fin.ofNat, Fin.mul_def, Nat.mul_mod]
theorem Zge (a : Nat) : F m (a % m) = F m a := by
 apply Fin.ext; simp [F, Fin.ofNat]
theorem Zha (a b : Nat) : F m a = F m b ↔ a % m = b % m := by
 rw [Fin.ext_iff]; rfl
theorem F_sub (a b : Nat) (hb : b < m) : F m (a + (m - b)) = F m a - F m b := by
 apply Fin.ext
 simp only [F, Fin.ofNat, Fin.sub_def]
 rw [Nat.mod_eq_of_lt hb, Nat.add_comm (m - b), Nat.mod_add_mod]
theorem Zgf (a b : Nat) : F m (ksub m a b) = F m a - F m b := by
 unfold ksub
 rw [F_sub m a (b % m) (Nat.mod_lt _ (Nat.pos_of_ne_zero (NeZero.ne m))), Zge]
theorem Zgg (a b : Nat) : F m (kadd m a b) = F m a + F m b := F_add m a b
theorem ZbS (a b : Nat) : F m (kmul m a b) = F m a * F m b := ZgZ m a b
theorem F_mD (a b : Nat) : F m (mD m a b) = F m a * F m b := (Zge m _).trans (ZgZ m a b)
theorem F_aD (a b : Nat) : F m (aD m a b) = F m a + F m b := (Zge m _).trans (F_add m a b)
theorem F_sD (a b : Nat) (hb : b < m) : F m (sD m a b) = F m a - F m b := (Zge m _).trans (F_sub m a b hb)
end
def dAf (m x y u s : Nat) : P3 := (sD m (sD m (mD m s s) x) u, sD m (mD m s (sD m x (sD m (sD m (mD m s s) x) u))) y, false)
def dCh (m x y u v : Nat) : Nat := mD m (sD m v y) ((sD m u x) ^ (m - 2) % m)
def dTa (m x y : Nat) : Nat := mD m (aD m (aD m (mD m x x) (mD m x x)) (mD m x x)) ((aD m y y) ^ (m - 2) % m)
theorem Zhb {m a b : Nat} [NeZero m] (ha : a < m) (hb : b < m) (h : F m a = F m b) : a = b := by
 have := (Zha m a b).1 h
 rwa [Nat.mod_eq_of_lt ha, Nat.mod_eq_of_lt hb] at this
theorem pow_F {m a b : Nat} [NeZero m] (e : Nat) (h : F m a = F m b) : F m (a ^ e) = F m (b ^ e) := by
 rw [Zha, Nat.pow_mod, (Zha m a b).1 h, ← Nat.pow_mod]
theorem Zma {m : Nat} [NeZero m] {x y u s X Y Z : Nat} (hx : x < m) (hy : y < m) (hu : u < m) (hL : ¬ Like m Z k0)
  (h1 : F m X * (F m (Z ^ (m - 2)) * F m (Z ^ (m - 2))) = F m s * F m s - F m x - F m u)
  (h2 : F m Y * (F m (Z ^ (m - 2)) * F m (Z ^ (m - 2)) * F m (Z ^ (m - 2))) = F m s * (F m x - (F m s * F m s - F m x - F m u)) - F m y) : outS m (X, Y, Z) = dAf m x y u s := by
 have hm : 0 < m := Nat.pos_of_ne_zero (NeZero.ne m)
 have hmod : ∀ a, a % m < m := fun a => Nat.mod_lt _ hm
 have hS : ∀ a b, sD m a b < m := fun a b => hmod _
 unfold outS dAf
 rw [if_neg hL]
 refine Prod.ext ?_ (Prod.ext ?_ rfl)
 ·
  refine Zhb (hmod _) (hS _ _) ?_
  show F m (kmul m X (kmul m (kinv m Z) (kinv m Z)) % m) = _
  rw [Zge, ZbS, ZbS, F_sD m _ u hu, F_sD m _ x hx, F_mD]
  exact h1
 ·
  refine Zhb (hmod _) (hS _ _) ?_
  show F m (kmul m Y (kmul m (kmul m (kinv m Z) (kinv m Z)) (kinv m Z)) % m) = _
  rw [Zge, ZbS, ZbS, ZbS, F_sD m _ y hy, F_mD, F_sD m _ _ (hS _ _), F_sD m _ u hu, F_sD m _ x hx, F_mD]
  exact h2
theorem chord {m : Nat} (hm : 0 < m) (hFer : ∀ a, a % m ≠ 0 → a ^ (m - 2) * a % m = 1 % m) {x y u v : Nat} (hx : x < m) (hy : y < m) (hu : u < m) (hZ : (addS m (x, y, 1) (u, v)).2.2 % m ≠ 0) (hL : ¬ Like m (addS m (x, y, 1) (u, v)).2.2 k0) : outS m (addS m (x, y, 1) (u, v)) = dAf m x y u (dCh m x y u v) := by
 have : NeZero m := ⟨by omega⟩
 have h1 : F m 1 = 1 := rfl
 have hz : F m (addS m (x, y, 1) (u, v)).2.2 = F m u - F m x := by
  show F m (kmul m 1 (ksub m (kmul m u (kmul m 1 1)) x)) = _
  rw [ZbS, Zgf, ZbS, ZbS, h1]
  grind
 have hi : F m ((addS m (x, y, 1) (u, v)).2.2 ^ (m - 2)) * (F m u - F m x) = 1 := by
  rw [← hz, ← ZgZ, ← h1, Zha]
  exact hFer _ hZ
 have hs : F m (dCh m x y u v) = (F m v - F m y) * F m ((addS m (x, y, 1) (u, v)).2.2 ^ (m - 2)) := by
  unfold dCh
  rw [F_mD, F_sD m v y hy, Zge]
  congr 1
  exact pow_F _ ((F_sD m u x hx).trans hz.symm)
 have hX : F m (addS m (x, y, 1) (u, v)).1 = ((F m v - F m y) * (F m v - F m y) - (F m u - F m x) * (F m u - F m x) * (F m u - F m x)) - (F m x * ((F m u - F m x) * (F m u - F m x)) + F m x * ((F m u - F m x) * (F m u - F m x))) := by
  simp only [addS, Zgf, ZbS, Zgg, h1]
  grind
 have hY : F m (addS m (x, y, 1) (u, v)).2.1 = (F m v - F m y) * (F m x * ((F m u - F m x) * (F m u - F m x)) - F m (addS m (x, y, 1) (u, v)).1) - F m y * ((F m u - F m x) * (F m u - F m x) * (F m u - F m x)) := by
  rw [hX]
  simp only [addS, Zgf, ZbS, Zgg, h1]
  grind
 refine Zma (X := (addS m (x, y, 1) (u, v)).1) (Y := (addS m (x, y, 1) (u, v)).2.1) (Z := (addS m (x, y, 1) (u, v)).2.2) hx hy hu hL ?_ ?_
 ·
  rw [hs, hX]
  generalize F m ((addS m (x, y, 1) (u, v)).2.2 ^ (m - 2)) = i at *
  clear hX hY hs hz
  grind
 ·
  rw [hs, hY, hX]
  generalize F m ((addS m (x, y, 1) (u, v)).2.2 ^ (m - 2)) = i at *
  clear hX hY hs hz
  grind
theorem ZmY {m : Nat} (hm : 0 < m) (hFer : ∀ a, a % m ≠ 0 → a ^ (m - 2) * a % m = 1 % m) {x y : Nat} (hx : x < m) (hy : y < m) (hZ : (dblS m (x, y, 1)).2.2 % m ≠ 0) (hL : ¬ Like m (dblS m (x, y, 1)).2.2 k0) : outS m (dblS m (x, y, 1)) = dAf m x y x (dTa m x y) := by
 have : NeZero m := ⟨by omega⟩
 have h1 : F m 1 = 1 := rfl
 have hz : F m (dblS m (x, y, 1)).2.2 = F m y + F m y := by
  show F m (kadd m (kmul m y 1) (kmul m y 1)) = _
  rw [Zgg, ZbS, h1]
  grind
 have hi : F m ((dblS m (x, y, 1)).2.2 ^ (m - 2)) * (F m y + F m y) = 1 := by
  rw [← hz, ← ZgZ, ← h1, Zha]
  exact hFer _ hZ
 have hs : F m (dTa m x y) = (F m x * F m x + F m x * F m x + F m x * F m x) * F m ((dblS m (x, y, 1)).2.2 ^ (m - 2)) := by
  unfold dTa
  rw [F_mD, F_aD, F_aD, F_mD, Zge]
  congr 1
  exact pow_F _ ((F_aD m y y).trans hz.symm)
 have hX : F m (dblS m (x, y, 1)).1 = (F m x * F m x + F m x * F m x + F m x * F m x) * (F m x * F m x + F m x * F m x + F m x * F m x) - 8 * (F m x * (F m y * F m y)) := by
  simp only [dblS, Zgf, ZbS, Zgg]
  grind
 have hY : F m (dblS m (x, y, 1)).2.1 = (F m x * F m x + F m x * F m x + F m x * F m x) * (4 * (F m x * (F m y * F m y)) - F m (dblS m (x, y, 1)).1) - 8 * (F m y * F m y * (F m y * F m y)) := by
  rw [hX]
  simp only [dblS, Zgf, ZbS, Zgg]
  grind
 refine Zma (X := (dblS m (x, y, 1)).1) (Y := (dblS m (x, y, 1)).2.1) (Z := (dblS m (x, y, 1)).2.2) hx hy hx hL ?_ ?_
 ·
  rw [hs, hX]
  generalize F m ((dblS m (x, y, 1)).2.2 ^ (m - 2)) = i at *
  clear hX hY hs hz
  grind
 ·
  rw [hs, hY, hX]
  generalize F m ((dblS m (x, y, 1)).2.2 ^ (m - 2)) = i at *
  clear hX hY hs hz
  grind
end Go.Proofs.YtcbdbnfgnonacaaGreat.P4
namespace Go.Proofs.YtcbdbnfgnonacaaGreat
open Go.RowKit Go.Shelf
def Pr (p : Nat) : Prop := 1 < p ∧ ∀ d, d ∣ p → d = 1 ∨ d = p
theorem Pr.euclid {p a b : Nat} (h : Pr p) (hd : p ∣ a * b) : p ∣ a ∨ p ∣ b := by
 by_cases ha : p ∣ a
 ·
  exact Or.inl ha
 ·
  right
  have hc : Nat.Coprime p a := by
   rcases h.2 _ (Nat.gcd_dvd_left p a) with e | e
   ·
    exact e
   ·
    exact absurd (e ▸ Nat.gcd_dvd_right p a) ha
  exact hc.dvd_of_dvd_mul_left hd
theorem Pr.pow {p q : Nat} (h : Pr p) (hq : Pr q) : ∀ e, p ∣ q ^ e → p = q
 | 0, hd => by
  rw [Nat.pow_zero, Nat.dvd_one] at hd
  have := h.1
  omega
 | e + 1, hd => by
  rw [Nat.pow_succ] at hd
  rcases h.euclid hd with hd | hd
  ·
   exact h.pow hq e hd
  ·
   rcases hq.2 _ hd with e | e
   ·
    have := h.1
    omega
   ·
    exact e
theorem Zgh : ∀ (k n : Nat), n ≤ k → 1 < n → ∃ p, Pr p ∧ p ∣ n
 | 0, n, h, h1 => by omega
 | k + 1, n, h, h1 => by
  by_cases hp : ∀ d, d ∣ n → d = 1 ∨ d = n
  ·
   exact ⟨n, ⟨h1, hp⟩, Nat.dvd_refl n⟩
  ·
   simp only [Classical.not_forall] at hp
   obtain ⟨d, hd, hne⟩ := hp
   have hle := Nat.le_of_dvd (by omega) hd
   have hd0 : d ≠ 0 := by
    rintro rfl
    rw [Nat.zero_dvd] at hd
    omega
   obtain ⟨p, hp1, hp2⟩ := Zgh k d (by omega) (by omega)
   exact ⟨p, hp1, Nat.dvd_trans hp2 hd⟩
def prodL : List (Nat × Nat) → Nat
 | [] => 1
 | (q, e) :: r => q ^ e * prodL r
def AllPr : List (Nat × Nat) → Prop
 | [] => True
 | (q, _) :: r => Pr q ∧ AllPr r
theorem Zh8 {p : Nat} (hp : Pr p) : ∀ (L : List (Nat × Nat)), AllPr L → p ∣ prodL L → ∃ e, (p, e) ∈ L
 | [], _, hd => by
  unfold prodL at hd
  rw [Nat.dvd_one] at hd
  have := hp.1
  omega
 | (q, e) :: r, hL, hd => by
  unfold prodL at hd
  unfold AllPr at hL
  rcases hp.euclid hd with hd | hd
  ·
   have := hp.pow hL.1 e hd
   subst this
   exact ⟨e, by simp⟩
  ·
   obtain ⟨e', he⟩ := Zh8 hp r hL.2 hd
   exact ⟨e', by simp [he]⟩
theorem ZcC {N a d : Nat} (h : a ^ d % N = 1) (k : Nat) (hN : 1 < N) : (a ^ d) ^ k % N = 1 := by
 rw [Nat.pow_mod, h, Nat.one_pow, Nat.mod_eq_of_lt hN]
theorem ZmZ {N a : Nat} (hN : 1 < N) (m n : Nat) : a ^ m % N = 1 → a ^ n % N = 1 → a ^ Nat.gcd m n % N = 1 := by
 induction m, n using Nat.gcd.induction with
 | H0 n => intro _ h; rwa [Nat.gcd_zero_left]
 | H1 m n hm ih =>
  intro h1 h2
  rw [Nat.gcd_rec]
  refine ih ?_ h1
  have e : a ^ n = (a ^ m) ^ (n / m) * a ^ (n % m) := by
   rw [← Nat.pow_mul, ← Nat.pow_add, Nat.div_add_mod]
  rw [e, Nat.mul_mod, ZcC h1 _ hN, Nat.one_mul, Nat.mod_mod] at h2
  exact h2
theorem php : ∀ (n : Nat) (f : Nat → Nat), (∀ i, i < n → f i < n) → (∀ i j, i < n → j < n → f i = f j → i = j) → ∀ y, y < n → ∃ i, i < n ∧ f i = y
 | 0, _, _, _, y, hy => by omega
 | n + 1, f, hf, hi, y, hy => by
  have hne : ∀ i, i < n → f i ≠ f n := fun i h e => by
   have := hi i n (by omega) (by omega) e
   omega
  have ih := php n (fun i => if f i = n then f n else f i) (fun i h => by
   show (if f i = n then f n else f i) < n
   have h1 := hf i (by omega)
   have h2 := hf n (by omega)
   have h3 := hne i h
   split <;> omega) (fun i j h1 h2 e => by
   have e' : (if f i = n then f n else f i) = (if f j = n then f n else f j) := e
   have a1 := hne i h1
   have a2 := hne j h2
   apply hi i j (by omega) (by omega)
   split at e' <;> split at e' <;> omega)
  by_cases h1 : y = f n
  ·
   exact ⟨n, by omega, h1.symm⟩
  ·
   by_cases h2 : y = n
   ·
    have hv := hf n (by omega)
    obtain ⟨i, hin, he⟩ := ih (f n) (by omega)
    have he' : (if f i = n then f n else f i) = f n := he
    have a1 := hne i hin
    refine ⟨i, by omega, ?_⟩
    split at he' <;> omega
   ·
    obtain ⟨i, hin, he⟩ := ih y (by omega)
    have he' : (if f i = n then f n else f i) = y := he
    refine ⟨i, by omega, ?_⟩
    split at he' <;> omega
def pm (n : Nat) : Nat → Nat → Nat → Nat
 | 0, _, _ => 1 % n
 | k + 1, a, e => bif Nat.beq e 0 then 1 % n else bif Nat.beq (e % 2) 1 then a * pm n k (a * a % n) (e / 2) % n else pm n k (a * a % n) (e / 2)
theorem Zlj (n : Nat) : ∀ (k a e : Nat), e < 2 ^ k → pm n k a e = a ^ e % n
 | 0, a, e, h => by
  obtain rfl : e = 0 := by simpa using h
  simp [pm]
 | k + 1, a, e, h => by
  have ih := Zlj n k (a * a % n) (e / 2) (by rw [Nat.pow_succ] at h; omega)
  unfold pm
  by_cases h0 : e = 0
  ·
   subst h0
   simp
  ·
   have b0 : Nat.beq e 0 = false := by
    rw [Bool.eq_false_iff]
    intro hb
    exact h0 (Nat.eq_of_beq_eq_true hb)
   have hsq : (a * a % n) ^ (e / 2) % n = a ^ (2 * (e / 2)) % n := by
    rw [← Nat.pow_mod, Nat.pow_mul, Nat.pow_two]
   rw [b0, cond_false]
   by_cases h1 : e % 2 = 1
   ·
    have b1 : Nat.beq (e % 2) 1 = true := by rw [h1]; rfl
    rw [b1, cond_true, ih, hsq, Nat.mul_mod_mod, Nat.mul_comm, ← Nat.pow_succ, show (2 * (e / 2)).succ = e by omega]
   ·
    have b1 : Nat.beq (e % 2) 1 = false := by
     rw [show e % 2 = 0 by omega]
     rfl
    rw [b1, cond_false, ih, hsq, show 2 * (e / 2) = e by omega]
def lucB (k N a : Nat) (L : List (Nat × Nat)) : Bool :=
 Nat.beq (prodL L) (N - 1) && Nat.beq (pm N (64 * k) a (N - 1)) 1 && (L.all fun q => !(Nat.beq (pm N (64 * k) a ((N - 1) / q.1)) 1))
def Ferm (p : Nat) : Prop := ∀ X, X % p ≠ 0 → X ^ (p - 1) % p = 1
theorem lucas {k N a : Nat} {L : List (Nat × Nat)} (h2 : 2 < N) (hN4 : N < 18446744073709551616 ^ k) (hL : AllPr L) (h : lucB k N a L = true) : Ferm N := by
 have hN : 1 < N := by omega
 have hb400 : ∀ e, e ≤ N → e < 2 ^ (64 * k) := fun e he => by
  rw [Nat.pow_mul]
  exact Nat.lt_of_le_of_lt he hN4
 unfold lucB at h
 simp only [Bool.and_eq_true, List.all_eq_true] at h
 obtain ⟨⟨hp, h1⟩, hq⟩ := h
 replace hp := Nat.eq_of_beq_eq_true hp
 replace h1 := Nat.eq_of_beq_eq_true h1
 rw [Zlj N (64 * k) a _ (hb400 _ (by omega))] at h1
 have hq' : ∀ q e, (q, e) ∈ L → a ^ ((N - 1) / q) % N ≠ 1 := fun q e hm hc => by
  have := hq (q, e) hm
  rw [Zlj N (64 * k) a _ (hb400 _ (Nat.le_trans (Nat.div_le_self _ _) (by omega))), hc] at this
  cases this
 have hord : ∀ d, 0 < d → d < N - 1 → a ^ d % N ≠ 1 := fun d hd0 hd hc => by
  have hg := ZmZ hN d (N - 1) hc h1
  have hgd : Nat.gcd d (N - 1) ∣ N - 1 := Nat.gcd_dvd_right _ _
  have hgl := Nat.le_of_dvd hd0 (Nat.gcd_dvd_left d (N - 1))
  have hg0 : 0 < Nat.gcd d (N - 1) := Nat.gcd_pos_of_pos_left _ hd0
  generalize Nat.gcd d (N - 1) = g at *
  obtain ⟨t, ht⟩ := hgd
  have ht1 : 1 < t := by
   rcases t with _ | _ | t
   ·
    omega
   ·
    omega
   ·
    omega
  obtain ⟨q, hqp, t', hqt⟩ := Zgh t t (Nat.le_refl _) ht1
  have hqN : q ∣ prodL L := by rw [hp, ht, hqt]; exact ⟨g * t', by grind⟩
  obtain ⟨e, hqe⟩ := Zh8 hqp L hL hqN
  refine hq' q e hqe ?_
  have hq0 : 0 < q := by have := hqp.1; omega
  have hdiv : (N - 1) / q = g * t' := by
   rw [ht, hqt, show g * (q * t') = q * (g * t') by grind, Nat.mul_div_cancel_left _ hq0]
  rw [hdiv, Nat.pow_mul]
  exact ZcC hg t' hN
 have hnz : ∀ i, i ≤ N - 1 → a ^ i % N ≠ 0 := fun i hi hc => by
  have e : a ^ (N - 1) = a ^ i * a ^ (N - 1 - i) := by rw [← Nat.pow_add]; congr 1; omega
  rw [e, Nat.mul_mod, hc, Nat.zero_mul, Nat.zero_mod] at h1
  cases h1
 have hinj : ∀ i j, i < j → j < N - 1 → a ^ i % N ≠ a ^ j % N := fun i j hij hj hc => by
  refine hord (j - i) (by omega) (by omega) ?_
  have e1 : a ^ (N - 1 - i) * a ^ i = a ^ (N - 1) := by rw [← Nat.pow_add]; congr 1; omega
  have e2 : a ^ (N - 1 - i) * a ^ j = a ^ (N - 1) * a ^ (j - i) := by rw [← Nat.pow_add, ← Nat.pow_add]; congr 1; omega
  have e3 : a ^ (N - 1 - i) * a ^ i % N = a ^ (N - 1 - i) * a ^ j % N := by rw [Nat.mul_mod, hc, ← Nat.mul_mod]
  rw [e1, e2, h1, Nat.mul_mod, h1, Nat.one_mul, Nat.mod_mod] at e3
  exact e3.symm
 unfold Ferm
 intro X hX
 have hlt : ∀ i, a ^ i % N < N := fun i => Nat.mod_lt _ (by omega)
 obtain ⟨i, hi, hf⟩ := php (N - 1) (fun i => a ^ i % N - 1) (fun i h => by
  have := hlt i
  show a ^ i % N - 1 < N - 1
  omega) (fun i j h3 h4 e => by
  have e' : a ^ i % N - 1 = a ^ j % N - 1 := e
  have n1 := hnz i (by omega)
  have n2 := hnz j (by omega)
  rcases Nat.lt_trichotomy i j with h | h | h
  ·
   exact absurd (show a ^ i % N = a ^ j % N by omega) (hinj i j h h4)
  ·
   exact h
  ·
   exact absurd (show a ^ j % N = a ^ i % N by omega) (hinj j i h h3)) (X % N - 1) (by have := Nat.mod_lt X (show 0 < N by omega); omega)
 have hf' : a ^ i % N - 1 = X % N - 1 := hf
 have hXi : X % N = a ^ i % N := by
  have := hnz i (by omega)
  omega
 rw [Nat.pow_mod, hXi, ← Nat.pow_mod, ← Nat.pow_mul, Nat.mul_comm, Nat.pow_mul]
 exact ZcC h1 i hN
theorem ZaL {k N a : Nat} {L : List (Nat × Nat)} (h2 : 2 < N) (hN4 : N < 18446744073709551616 ^ k) (hL : AllPr L) (h : lucB k N a L = true) : Pr N := by
 have hall := lucas h2 hN4 hL h
 unfold Ferm at hall
 refine ⟨by omega, fun d hd => ?_⟩
 by_cases h1 : d = 1
 ·
  exact Or.inl h1
 ·
  right
  have hle := Nat.le_of_dvd (by omega) hd
  apply Classical.byContradiction
  intro hne
  have hd0 : d ≠ 0 := by
   rintro rfl
   rw [Nat.zero_dvd] at hd
   omega
  have h3 := hall d (by rw [Nat.mod_eq_of_lt (by omega)]; exact hd0)
  have h4 := Nat.div_add_mod (d ^ (N - 1)) N
  rw [h3] at h4
  have h5 : d ∣ d ^ (N - 1) := by
   obtain ⟨k, hk⟩ : ∃ k, N - 1 = k + 1 := ⟨N - 2, by omega⟩
   rw [hk, Nat.pow_succ]
   exact Nat.dvd_mul_left _ _
  rw [← h4] at h5
  have h6 : d ∣ N * (d ^ (N - 1) / N) := Nat.dvd_trans hd (Nat.dvd_mul_right _ _)
  have h7 := (Nat.dvd_add_right h6).1 h5
  rw [Nat.dvd_one] at h7
  exact h1 h7
theorem ZaC {p : Nat} (h : (Nat.ble 2 p && (List.range p).all fun d => Nat.ble d 1 || !(Nat.beq (p % d) 0)) = true) : Pr p := by
 simp only [Bool.and_eq_true, List.all_eq_true] at h
 obtain ⟨h1, h2⟩ := h
 have hp := Nat.le_of_ble_eq_true h1
 refine ⟨by omega, fun d hd => ?_⟩
 have hle := Nat.le_of_dvd (by omega) hd
 by_cases e : d = p
 ·
  exact Or.inr e
 ·
  left
  have := h2 d (List.mem_range.2 (by omega))
  rw [Nat.mod_eq_zero_of_dvd hd] at this
  simp only [Bool.or_eq_true] at this
  rcases this with h | h
  ·
   have := Nat.le_of_ble_eq_true h
   have hd0 : d ≠ 0 := by
    rintro rfl
    rw [Nat.zero_dvd] at hd
    omega
   omega
  ·
   cases h
end Go.Proofs.YtcbdbnfgnonacaaGreat
namespace Go.Proofs.YtcbdbnfgnonacaaGreat.P4
open Go.RowKit Go.Shelf
def dSum (m x y u v : Nat) : P3 := if x = u then (if aD m y v = 0 then (0, 0, true) else dAf m x y u (dTa m x y)) else dAf m x y u (dCh m x y u v)
theorem Zhc {m f : Nat} (hF : W4.MF m f) {s : T3} (h : s.2.2 % m = 0) : outS m s = (0, 0, true) := by
 unfold outS
 rw [if_pos ((ZaK hF _ _).2 (by rw [h]; exact (Nat.zero_mod m).symm))]
 rfl
theorem Zek {m f : Nat} (hF : W4.MF m f) {z : Nat} (h : z % m ≠ 0) : ¬ Like m z k0 := fun e => h (by rw [(ZaK hF _ _).1 e]; exact Nat.zero_mod m)
theorem Zna {m f : Nat} (hF : W4.MF m f) (h3 : 3 ≤ m) (hFer : ∀ a, a % m ≠ 0 → a ^ (m - 2) * a % m = 1 % m) {x y u v : Nat} (hx : x < m) (hy : y < m) (hu : u < m) (hv : v < m) (hon : x = u → y * y % m = v * v % m) : outS m (plusS m (x, y, 1) (u, v)) = dSum m x y u v := by
 have hm : 0 < m := by omega
 have : NeZero m := ⟨by omega⟩
 have h1 : (1 : Nat) % m = 1 := Nat.mod_eq_of_lt (by omega)
 have hX : ∀ a : Nat, kmul m a (kmul m 1 1) = a := fun a => by show a * (1 * 1) = a; omega
 have hY : ∀ a : Nat, kmul m a (kmul m (kmul m 1 1) 1) = a := fun a => by show a * (1 * 1 * 1) = a; omega
 unfold plusS dSum
 rw [if_neg (Zek hF (z := 1) (by omega))]
 simp only [hX, hY]
 by_cases hxu : x = u
 ·
  subst hxu
  rw [if_pos rfl]
  by_cases hyv : y = v
  ·
   subst hyv
   rw [if_pos ⟨rfl, rfl⟩]
   by_cases h0 : aD m y y = 0
   ·
    rw [if_pos h0]
    refine Zhc hF ?_
    show (y * 1 + y * 1) % m = 0
    rw [Nat.mul_one]
    exact h0
   ·
    rw [if_neg h0]
    have hZ : (dblS m (x, y, 1)).2.2 % m ≠ 0 := fun e => h0 (by
     have e : (y * 1 + y * 1) % m = 0 := e
     rw [Nat.mul_one] at e
     exact e)
    exact ZmY hm hFer hx hy hZ (Zek hF hZ)
  ·
   rw [if_neg (fun e => hyv (by
    have := (ZaK hF _ _).1 e.2
    rw [Nat.mod_eq_of_lt hv, Nat.mod_eq_of_lt hy] at this
    exact this.symm))]
   have h0 : aD m y v = 0 := by
    have hs : sD m y v % m ≠ 0 := fun e => hyv (by
     have := (sub_zero y v m hv hy).1 (by unfold sD at e; rwa [Nat.mod_mod] at e)
     exact this)
    have hi : F m ((sD m y v) ^ (m - 2)) * (F m y - F m v) = 1 := by
     rw [← F_sD m y v hv, ← ZgZ, show (1 : Fin m) = F m 1 from rfl, Zha]
     exact hFer _ hs
    have hsq : F m y * F m y = F m v * F m v := by
     rw [← ZgZ, ← ZgZ, Zha]
     exact hon rfl
    have hz : F m (aD m y v) = F m 0 := by
     rw [F_aD, show F m 0 = 0 from rfl]
     generalize F m ((sD m y v) ^ (m - 2)) = i at *
     grind
    exact Zhb (Nat.mod_lt _ hm) hm hz
   rw [if_pos h0]
   refine Zhc hF ?_
   refine Zd1 ?_
   exact (ZbR hm).2 (by rw [hX])
 ·
  rw [if_neg hxu, if_neg (fun e => hxu (by
   have := (ZaK hF _ _).1 e.1
   rw [Nat.mod_eq_of_lt hu, Nat.mod_eq_of_lt hx] at this
   exact this.symm))]
  have hZ : (addS m (x, y, 1) (u, v)).2.2 % m ≠ 0 := fun e => hxu (by
   have e : 1 * ksub m (kmul m u (kmul m 1 1)) x % m = 0 := e
   rw [Nat.one_mul, hX, ZbR hm, Nat.mod_eq_of_lt hu, Nat.mod_eq_of_lt hx] at e
   exact e.symm)
  exact chord hm hFer hx hy hu hZ (Zek hF hZ)
theorem fer_of {m : Nat} (h3 : 3 ≤ m) (h : Ferm m) : ∀ a, a % m ≠ 0 → a ^ (m - 2) * a % m = 1 % m := fun a ha => by
 rw [← Nat.pow_succ, Nat.succ_eq_add_one, show m - 2 + 1 = m - 1 by omega, h a ha, Nat.mod_eq_of_lt (by omega : 1 < m)]
theorem Zc2 {m f : Nat} (hF : W4.MF m f) (h3 : 3 ≤ m) (b x y : Nat) (i : Bool) : goodD m x y b i = goodN m b x y i := by
 have hm : 0 < m := by omega
 have hr : ∀ a : Nat, rest m a = a ↔ a < m := fun a => ⟨fun e => by rw [← e]; exact Nat.mod_lt _ hm, fun e => Nat.mod_eq_of_lt e⟩
 cases i with
 | true =>
  have g : goodN m b x y true = (if (decide (x = k0) && (decide (y = k0) && (true == true))) = true then 0 else 70) := if_pos rfl
  rw [g]
  unfold goodD
  by_cases hx : x = 0
  ·
   by_cases hy : y = 0
   ·
    subst hx hy
    rw [if_pos ⟨hm, hm, fun _ => ⟨rfl, rfl⟩⟩, if_pos rfl]
    rfl
   ·
    rw [if_neg (fun h => hy (h.2.2 rfl).2), if_neg]
    intro h
    simp only [Bool.and_eq_true, decide_eq_true_eq] at h
    exact hy h.2.1
  ·
   rw [if_neg (fun h => hx (h.2.2 rfl).1), if_neg]
   intro h
   simp only [Bool.and_eq_true, decide_eq_true_eq] at h
   exact hx h.1
 | false =>
  have g : goodN m b x y false = (if rest m x = x then (if rest m y = y then (if Like m (kmul m y y) (kadd m (kmul m (kmul m x x) x) b) then 0 else 71) else 70) else 70) := if_neg (by decide)
  rw [g]
  unfold goodD
  by_cases hx : x < m
  ·
   by_cases hy : y < m
   ·
    have e : (y * y % m = (x * x % m * x % m + b) % m) ↔ Like m (kmul m y y) (kadd m (kmul m (kmul m x x) x) b) := by
     rw [ZaK hF]
     show _ ↔ y * y % m = (x * x * x + b) % m
     rw [Nat.mod_mul_mod, Nat.mod_add_mod]
    rw [if_pos ⟨hx, hy, fun h => by cases h⟩, if_neg (by decide), if_pos ((hr x).2 hx), if_pos ((hr y).2 hy)]
    by_cases h : Like m (kmul m y y) (kadd m (kmul m (kmul m x x) x) b)
    ·
     rw [if_pos (e.2 h), if_pos h]
    ·
     rw [if_neg (fun h2 => h (e.1 h2)), if_neg h]
   ·
    rw [if_neg (fun h => hy h.2.1), if_pos ((hr x).2 hx), if_neg (fun e => hy ((hr y).1 e))]
  ·
   rw [if_neg (fun h => hx h.1), if_neg (fun e => hx ((hr x).1 e))]
theorem underA : Tryz.prog.underlying 34 = some (.struct (fsOf (Tryz.prog.underlying 34))) := by kernel_rfl
theorem infoA {C : Array Value} (h : C.size = 2 * 4 + 1) : (Tryz.prog.info? 34).map (·.size) = some C.size := by rw [h]; kernel_rfl
structure CAt (w : World) (c g p m : Nat) (b bx bY : K) (k : Nat) : Prop where
 at_ : w.cell? ⟨c, 1, none⟩ = some (.pointer (some ⟨g, 0, none⟩))
 ga : GAt w g p m b
 gb : GB w g bx bY k
 clt : c < w.heap.size
theorem CAt.below {w w' : World} {c g p m : Nat} {b bx bY : K} {k : Nat} (h : CAt w c g p m b bx bY k) (hb : Below w.heap.size w w') : CAt w' c g p m b bx bY k :=
 ⟨(hb.cell (p := ⟨c, 1, none⟩) h.clt).trans h.at_, h.ga.below hb, h.gb.below hb, Nat.lt_of_lt_of_le h.clt hb.size⟩
theorem Zlk {X Y : Array Value} (hX : X.size = 4) (hY : Y.size = 4) (i : Bool) (w : World) : (Instr.build 34 #[(0, .agg X), (1, .agg Y), (2, .bool i)]).run Tryz.prog w = .ok (.agg (X ++ (Y ++ #[.bool i]))) w := by
 refine Zbv (fs := fsOf (Tryz.prog.underlying 34)) (z := #[] ++ (zn ++ (zn ++ #[.bool false]))) (places := #[(0, 4), (4, 4), (2 * 4, 1)]) (by kernel_rfl) (by kernel_rfl) (by kernel_rfl) ?_
 rw [Zb6 (X := X) rfl (off := 0) (size := 4) rfl hX rfl Zfm, Array.empty_append]
 rw [Zb6 (X := Y) rfl (off := 4) (size := 4) rfl hY hX Zfm]
 have e : X ++ (Y ++ #[.bool false]) = (X ++ Y) ++ (#[.bool false] ++ #[]) := by rw [Array.append_empty, Array.append_assoc]
 rw [e, Zb6 (X := #[.bool i]) rfl (off := 2 * 4) (size := 1) rfl rfl (by rw [Array.size_append, hX, hY]) rfl, Array.append_empty, Array.append_assoc]
 rfl
theorem bd_a3 (x y : K) (i : Bool) (w : World) : (Instr.build 34 #[(0, .agg (nv x)), (1, .agg (nv y)), (2, .bool i)]).run Tryz.prog w = .ok (.agg (pt x y i)) w := by
 rw [Zbh]
 exact Zlk (Zao _) (Zao _) i w
theorem ZbD {P : Program} {op : Oper} {l : List Value} {ds : List Deferred} {w : World} {K : Act → World → Prop} {Q : Exit → Act → World → Prop} (t : TypeId) (ps : Array (Nat × Operand)) (vs : Array (Nat × Value)) (d : Nat) (ho : op.op = .build t ps) (hd : op.dst = some d)
  (hps : ps.map (fun x => (x.1, Act.eval { tmps := l.toArray, defers := ds } x.2)) = vs) {v : Value} (hb : (Instr.build t vs).run P w = .ok v w) (h : K { tmps := (l.set d v).toArray, defers := ds } w) : op.wp P { tmps := l.toArray, defers := ds } w K Q := by
 unfold Oper.wp execOp
 simp only [ho, hps, hb, Sem.run_bind, Sem.run_pure, Result.andThen]
 show K _ _
 rw [hd, Zaa]
 exact h
end Go.Proofs.YtcbdbnfgnonacaaGreat.P4
