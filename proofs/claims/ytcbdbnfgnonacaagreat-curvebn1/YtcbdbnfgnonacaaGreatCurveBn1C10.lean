/-
 Inverses modulo 2^64.
-/
import Derived.Test.YtcbdbnfgnonacaaGreatCurveBn1C09
set_option maxHeartbeats 8000000
set_option maxRecDepth 100000
namespace Go.Proofs.YtcbdbnfgnonacaaGreat.W4
open Go.RowKit Go.Shelf
structure M1 (W wr : World) (L : Nat) (x g gk : Nat → Nat) (b k c : Nat) : Prop where
 lt : ∀ j, gk j < 18446744073709551616
 far : ∀ j, k ≤ j → gk j = g j
 sum : val gk k + c * 18446744073709551616 ^ k = val g k + val x k * b
 c : c < 18446744073709551616
 cells : wr.heap[L]? = some (.cells (cs gk) 32 (0, 0))
 but : But L W wr
theorem M1.put {W wr : World} {L : Nat} {x g gk : Nat → Nat} {b k c l h : Nat} (I : M1 W wr L x g gk b k c) (hk : k < 4) (hl : l < 18446744073709551616) (hh : h < 18446744073709551616)
  (e : x k * b + g k + c = l + 18446744073709551616 * h) : M1 W (wr.drew.setCell ⟨L, k, none⟩ (.int .u64 l)) L x g (fun i => if i = k then l else gk i) b (k + 1) h := by
 refine ⟨fun j => ?_, fun j hj => ?_, ?_, hh, ?_, I.but.drew.set _ _⟩
 ·
  split
  ·
   exact hl
  ·
   exact I.lt j
 ·
  rw [if_neg (by omega)]
  exact I.far j (by omega)
 ·
  have h1 : val (fun j => if j = k then l else gk j) k = val gk k := Za0 k (fun j hj => by rw [if_neg (by omega)])
  show val (fun j => if j = k then l else gk j) k + (if k = k then l else gk k) * 18446744073709551616 ^ k + h * 18446744073709551616 ^ (k + 1) = val g k + g k * 18446744073709551616 ^ k + (val x k + x k * 18446744073709551616 ^ k) * b
  rw [h1, if_pos rfl, Nat.pow_succ]
  exact MN.mulstep I.sum e
 ·
  have h3 : wr.drew.heap[L]? = some (.cells (cs gk) 32 (0, 0)) := I.cells
  have := Zaw (o := k) h3 (.int .u64 l)
  rw [set gk l hk] at this
  exact this
structure M2 (W wr : World) (L : Nat) (md g gk : Nat → Nat) (t k c : Nat) : Prop where
 lt : ∀ j, gk j < 18446744073709551616
 far : ∀ j, k ≤ j → gk j = g j
 sum : 18446744073709551616 * val gk k + c * (18446744073709551616 ^ k * 18446744073709551616) = val g (k + 1) + t * val md (k + 1)
 c : c < 18446744073709551616
 cells : wr.heap[L]? = some (.cells (cs gk) 32 (0, 0))
 but : But L W wr
theorem M2.put {W wr : World} {L : Nat} {md g gk : Nat → Nat} {t k c l h : Nat} (I : M2 W wr L md g gk t k c) (hk : k < 4) (hl : l < 18446744073709551616) (hh : h < 18446744073709551616)
  (e : t * md (k + 1) + g (k + 1) + c = l + 18446744073709551616 * h) : M2 W (wr.drew.setCell ⟨L, k, none⟩ (.int .u64 l)) L md g (fun i => if i = k then l else gk i) t (k + 1) h := by
 refine ⟨fun j => ?_, fun j hj => ?_, ?_, hh, ?_, I.but.drew.set _ _⟩
 ·
  split
  ·
   exact hl
  ·
   exact I.lt j
 ·
  rw [if_neg (by omega)]
  exact I.far j (by omega)
 ·
  have h1 : val (fun j => if j = k then l else gk j) k = val gk k := Za0 k (fun j hj => by rw [if_neg (by omega)])
  show 18446744073709551616 * (val (fun j => if j = k then l else gk j) k + (if k = k then l else gk k) * 18446744073709551616 ^ k) + h * (18446744073709551616 ^ (k + 1) * 18446744073709551616) = val g (k + 1) + g (k + 1) * 18446744073709551616 ^ (k + 1) + t * (val md (k + 1) + md (k + 1) * 18446744073709551616 ^ (k + 1))
  rw [h1, if_pos rfl]
  have h2 := I.sum
  rw [Nat.pow_succ]
  grind
 ·
  have h3 : wr.drew.heap[L]? = some (.cells (cs gk) 32 (0, 0)) := I.cells
  have := Zaw (o := k) h3 (.int .u64 l)
  rw [set gk l hk] at this
  exact this
structure MO (W wr : World) (L : Nat) (x y g : Nat → Nat) (m k a q : Nat) : Prop where
 lt : ∀ j, g j < 18446744073709551616
 sum : (val g 4 + a * R) * 18446744073709551616 ^ k = val x 4 * val y k + q * m
 q : q < 18446744073709551616 ^ k
 cells : wr.heap[L]? = some (.cells (cs g) 32 (0, 0))
 but : But L W wr
theorem MO.le {W wr : World} {L : Nat} {x y g : Nat → Nat} {m k a q : Nat} (I : MO W wr L x y g m k a q) (hx : ∀ j, x j < 18446744073709551616) (hy : ∀ j, y j < 18446744073709551616) (hm : m < R) (h0 : 0 < m) : a ≤ 1 := by
 have h1 := MN.bound I.sum (ZbK k (fun j _ => hy j)) I.q h0
 have h2 := Zbn (fun j _ => hx j)
 apply Nat.le_of_not_lt
 intro h
 have := Nat.mul_le_mul_right R (show 2 ≤ a by omega)
 omega
theorem MO.next {W wO w3 : World} {L : Nat} {x y g g1 g2 : Nat → Nat} {m k a q c1 top over t c2 s c : Nat} (I : MO W wO L x y g m k a q) (hm : m < R)
  (J1 : val g1 4 + c1 * 18446744073709551616 ^ 4 = val g 4 + val x 4 * y k) (e1 : a + c1 = top + 18446744073709551616 * over) (ht : t < 18446744073709551616)
  (J2 : 18446744073709551616 * val g2 3 + c2 * (18446744073709551616 ^ 3 * 18446744073709551616) = val g1 (3 + 1) + t * val (limb m) (3 + 1)) (l2 : ∀ j, g2 j < 18446744073709551616) (e2 : top + c2 = s + 18446744073709551616 * c) (hs : s < 18446744073709551616)
  (hc : w3.heap[L]? = some (.cells (cs (fun i => if i = 3 then s else g2 i)) 32 (0, 0))) (hb : But L W w3) :
  MO W w3 L x y (fun i => if i = 3 then s else g2 i) m (k + 1) (over + c) (q + t * 18446744073709551616 ^ k) := by
 refine ⟨fun j => ?_, ?_, ?_, hc, hb⟩
 ·
  split
  ·
   exact hs
  ·
   exact l2 j
 ·
  have h1 : val (fun i => if i = 3 then s else g2 i) 3 = val g2 3 := Za0 3 (fun j hj => by rw [if_neg (by omega)])
  have h2 : val (fun i => if i = 3 then s else g2 i) 4 = val g2 3 + s * 18446744073709551616 ^ 3 := by
   show val (fun i => if i = 3 then s else g2 i) 3 + (if 3 = 3 then s else g2 3) * 18446744073709551616 ^ 3 = _
   rw [h1, if_pos rfl]
  have hM : val (limb m) (3 + 1) = m := Zal hm
  have hR : R = 18446744073709551616 ^ 3 * 18446744073709551616 := by rw [R_eq, Nat.pow_succ]
  rw [hM] at J2
  have J1' : val g1 4 + c1 * (18446744073709551616 ^ 3 * 18446744073709551616) = val g 4 + val x 4 * y k := J1
  have J2' : 18446744073709551616 * val g2 3 + c2 * (18446744073709551616 ^ 3 * 18446744073709551616) = val g1 4 + t * m := J2
  have hS := MN.fin J1' e1 J2' e2 (S := val g 4 + a * R) (by rw [hR])
  rw [← hR] at hS
  rw [h2, Nat.pow_succ]
  exact MN.round I.sum hS
 ·
  rw [Nat.pow_succ]
  exact MN.q_lt I.q ht
theorem Zfi {m0 f s : Nat} (hf : (m0 * f + 1) % 18446744073709551616 = 0) : (s * f % 18446744073709551616 * m0 + s) % 18446744073709551616 = 0 := by
 have e : (s * f % 18446744073709551616 * m0 + s) % 18446744073709551616 = (s * (m0 * f + 1)) % 18446744073709551616 := by
  rw [Nat.add_mod, Nat.mod_mul_mod, ← Nat.add_mod]
  congr 1
  grind
 rw [e, Nat.mul_mod, hf, Nat.mul_zero, Nat.zero_mod]
theorem Zcn (p m f o r : Nat) (x y : Nat → Nat) (hx : ∀ j, x j < 18446744073709551616) (hy : ∀ j, y j < 18446744073709551616) (w : World) (hr : RingAt w p m f o r) (hm : m < R) (h0 : 0 < m) (hf : (limb m 0 * f + 1) % 18446744073709551616 = 0) (hAB : val x 4 * val y 4 < R * m) :
  Calls Tryz.prog 153 #[.pointer (some ⟨p, 0, none⟩), .agg (cs x), .agg (cs y)] w fun e w' => (∃ P : Nat, e = .returned (wv P) ∧ P < m ∧ P * R % m = val x 4 * val y 4 % m) ∧ Below w.heap.size w w' := by
 have hp : p < w.heap.size := hr.lt
 have HR := hideP hr
 have HX := hideP hx
 have HY := hideP hy
 have HF := hideP hf
 have HM := hideP hm
 have H0 := hideP h0
 have HAB := hideP hAB
 clear hx hy hr hf hm h0 hAB
 have hwI3 : IntKind.i64.wrap (3 : Int) = 3 := rfl
 unfold cs
 go_enter Tryz.func153, Tryz.ntmps153
 go_wp2_with fail
 refine Zaj (fun W0 hW0 => ?_)
 have hA : W0.heap[w.heap.size]? = some (.cells (cs x) 32 (0, 0)) := by
  rw [hW0]
  exact (Zah _ _ (by simp <;> omega)).trans ((Zah _ _ (by simp <;> omega)).trans ((Zah _ _ (by simp)).trans (Zaf _ _)))
 have hB : W0.heap[w.heap.size + 1]? = some (.cells (cs y) 32 (0, 0)) := by
  rw [hW0]
  exact (Zah _ _ (by simp <;> omega)).trans ((Zah _ _ (by simp)).trans (Zat _ _ _))
 have hD : W0.heap[w.heap.size + 1 + 1]? = some (.cells (cs (fun _ => 0)) 32 (0, 0)) := by
  rw [hW0]
  exact (Zah _ _ (by simp)).trans (ZaG _ _ _ _)
 have hL : W0.heap[w.heap.size + 1 + 1 + 1]? = some (.cells (cs (fun _ => 0)) 32 (0, 0)) := by
  rw [hW0]
  exact Zch _ _ _ _ _
 have HBW : Hid (Below w.heap.size w W0) := by
  show Below _ _ _
  rw [hW0]
  repeat first | exact Below.refl _ _ | (refine Below.alloc ?_ (by simp <;> omega) _)
 clear hW0
 have HR0 := hideP (HR.out.belowN hp HBW.out)
 have HI0 : Hid (MO W0 W0 (w.heap.size + 1 + 1 + 1) x y (fun _ => 0) m 0 0 0) := ⟨fun _ => by decide, by simp [val], by decide, hL, But.refl _ _⟩
 have HA := hideP hA
 have HB := hideP hB
 have HD := hideP hD
 clear hA hB hD hL HR
 have nA : w.heap.size ≠ w.heap.size + 1 + 1 + 1 := by omega
 have nB : w.heap.size + 1 ≠ w.heap.size + 1 + 1 + 1 := by omega
 have nD : w.heap.size + 1 + 1 ≠ w.heap.size + 1 + 1 + 1 := by omega
 have nP : p ≠ w.heap.size + 1 + 1 + 1 := by omega
 generalize hLL : w.heap.size + 1 + 1 + 1 = L at *
 go_loopw [8, 22] (fun av i wr => ∃ (k a q : Nat) (g : Nat → Nat), k ≤ 4 ∧ i = .int .i64 k ∧ av = .int .u64 a ∧ MO W0 wr L x y g m k a q) (fun _ i _ => 4 - (intOf i).toNat)
 case atStart => exact ⟨0, 0, 0, fun _ => 0, Nat.zero_le _, rfl, rfl, HI0.out⟩
 case round =>
  obtain ⟨k, a, q, g, hk, rfl, rfl, I⟩ := hrel
  have HI := hideP I
  clear I
  by_cases hlt : k < 4
  ·
   rename World => wO
   have hlt' : (k : Int) < 4 := by omega
   have e4 : IntKind.i64.wrap ((k : Int) + 1) = (k : Int) + 1 := by rw [IntKind.wrap_i64]; omega
   obtain ⟨q0, q1, q2, q3⟩ := cells ((HI.out.but.same _ nA).trans HA.out)
   have HKS : Hid (k + 1 ≤ 4) := hlt
   have HKL : Hid (k < 4) := hlt
   have HJ0 : Hid (M1 wO wO L x g g (y k) 0 0) := ⟨HI.out.lt, fun _ _ => rfl, by simp [val], by decide, HI.out.cells, But.refl _ _⟩
   clear hk hlt
   go_wp2_with fail
   clear q0 q1 q2 q3
   go_loopw [11, 27] (fun c i wr => ∃ (j cv : Nat) (gk : Nat → Nat), j ≤ 4 ∧ i = .int .i64 j ∧ c = .int .u64 cv ∧ M1 wO wr L x g gk (y k) j cv) (fun _ i _ => 4 - (intOf i).toNat)
   case atStart => exact ⟨0, 0, g, Nat.zero_le _, rfl, rfl, HJ0.out⟩
   case round =>
    obtain ⟨j, cv, gk, hj, rfl, rfl, J⟩ := hrel
    have HJ := hideP J
    clear J
    by_cases hjt : j < 4
    ·
     obtain ⟨h, l, hh, hl, e, hma⟩ := ZaU (x j) (y k) (g j) cv (HX.out _) (HY.out _) (HI.out.lt _) HJ.out.c
     have ca := (HJ.out.but.cell (o := j) nA).trans ((HI.out.but.cell (o := j) nA).trans (Zac HA.out (get x hjt)))
     have cb := (HJ.out.but.cell (o := k) nB).trans ((HI.out.but.cell (o := k) nB).trans (Zac HB.out (get y HKL.out)))
     have cd := Zac HJ.out.cells (get gk hjt)
     rw [HJ.out.far j (Nat.le_refl _)] at cd
     have fr : ∀ o, wr.frozen? ⟨L, o, none⟩ = false := fun o => Zap HJ.out.cells
     have HN := hideP (HJ.out.put hjt hl hh e)
     have hjt' : (j : Int) < 4 := by omega
     have e5 : IntKind.i64.wrap ((j : Int) + 1) = (j : Int) + 1 := by rw [IntKind.wrap_i64]; omega
     have HJS : Hid (j + 1 ≤ 4) := hjt
     have HMA := hideP hma
     clear hh hl e hma hj hjt
     go_wp2_with fail
     refine Zai (S := fun V => But L wr V) (by kernel_rfl) ((But.refl _ _).drew) (fun hS => ?_)
     refine tkG 0 hS ?_
     simp only [Zaa, Zs, Zz]
     refine tkG 1 hS ?_
     simp only [Zaa, Zs, Zz]
     refine tkG 2 hS ?_
     simp only [Zaa, Zs, Zz]
     refine tkI 3 ?_ hS ?_ ?_
     rotate_left
     ·
      intro V hV
      have k0 := (hV.cell (o := j) nA).trans ca
      go_simp
      (try with_reducible rfl)
     simp only [Zaa, Zs, Zz]
     refine tkG 4 hS ?_
     simp only [Zaa, Zs, Zz]
     refine tkG 5 hS ?_
     simp only [Zaa, Zs, Zz]
     refine tkI 6 ?_ hS ?_ ?_
     rotate_left
     ·
      intro V hV
      have k0 := (hV.cell (o := k) nB).trans cb
      go_simp
      (try with_reducible rfl)
     simp only [Zaa, Zs, Zz]
     refine tkG 7 hS ?_
     simp only [Zaa, Zs, Zz]
     refine tkG 8 hS ?_
     simp only [Zaa, Zs, Zz]
     refine tkG 10 hS ?_
     simp only [Zaa, Zs, Zz]
     refine rd1 9 (fun K hK => ?_)
     go_simp
     refine hK.out _ _ hS (fun hS => ?_)
     clear hK K
     refine rd1 11 (fun K hK => ?_)
     go_simp
     refine (HMA.out _).mono ?_
     rintro e w9 ⟨rfl, rfl⟩
     refine hK.out _ _ hS (fun hS => ?_)
     clear hK K
     refine tkG 12 hS ?_
     simp only [Zaa, Zs, Zz]
     refine tkG 13 hS ?_
     simp only [Zaa, Zs, Zz]
     refine tkG 14 hS ?_
     simp only [Zaa, Zs, Zz]
     refine rd1 15 (fun K hK => ?_)
     go_simp
     refine hK.out _ _ hS (fun hS => ?_)
     clear hK K
     refine tkG 16 hS ?_
     simp only [Zaa, Zs, Zz]
     refine rd1 17 (fun K hK => ?_)
     go_simp
     refine hK.out _ _ (hS.set _ _) (fun hS => ?_)
     clear hK K
     refine wpAnyH_done (by kernel_rfl) ?_ _
     (try simp only [Zas])
     go_wp2_with fail
     refine ⟨⟨j + 1, h, _, HJS.out, by go_num, rfl, HN.out⟩, by have := HJS.out; simp [intOf]; omega⟩
    ·
     have hjn : j = 4 := by omega
     have hnl : ¬ (j : Int) < 4 := by omega
     have HJ1 : Hid (M1 wO wr L x g gk (y k) 4 cv) := hjn ▸ HJ.out
     clear hj hjt hjn HJ
     obtain ⟨top, over, htop, hover, e1, hadd⟩ := Zey a cv (HI.out.le HX.out HY.out HM.out H0.out) HJ1.out.c
     obtain ⟨tm, htm⟩ : ∃ tm, tm = gk 0 * f % 18446744073709551616 := ⟨_, rfl⟩
     have htl : tm < 18446744073709551616 := by rw [htm]; exact Nat.mod_lt _ (by decide)
     have hwt : IntKind.u64.wrap ((gk 0 : Int) * (f : Int)) = (tm : Int) := by
      rw [IntKind.wrap_u64, htm, ← Int.natCast_mul]; omega
     obtain ⟨h0, l0, hh0, hl0, e0, hma⟩ := ZaU tm (limb m 0) (gk 0) 0 htl (Zaz _ _) (HJ1.out.lt _) (by decide)
     replace hma : ∀ w, Calls Tryz.prog 220 #[.int .u64 tm, .int .u64 (limb m 0), .int .u64 (gk 0), .int .u64 (0 : Int)] w fun e w' => e = .returned (.tuple #[.int .u64 h0, .int .u64 l0]) ∧ w = w' := hma
     have hz : l0 = 0 := by
      have := Zfi (s := gk 0) HF.out
      rw [← htm] at this
      omega
     have HE1 := hideP e1
     have HTOP := hideP htop
     have HOV := hideP hover
     have HTL := hideP htl
     have c0 := Zac HJ1.out.cells (get gk (show 0 < 4 by decide))
     have cf := (HJ1.out.but.cell (o := 4) nP).trans ((HI.out.but.cell (o := 4) nP).trans HR0.out.fill)
     have cm := (HJ1.out.but.cell (o := 0) nP).trans ((HI.out.but.cell (o := 0) nP).trans (HR0.out.limbAt (show 0 < 4 by decide)))
     have HK0 : Hid (M2 wr.drew.drew wr.drew.drew L (limb m) gk gk tm 0 h0) := ⟨HJ1.out.lt, fun _ _ => rfl, by
      show 18446744073709551616 * val gk 0 + h0 * (18446744073709551616 ^ 0 * 18446744073709551616) = (val gk 0 + gk 0 * 18446744073709551616 ^ 0) + tm * (val (limb m) 0 + limb m 0 * 18446744073709551616 ^ 0)
      simp only [val, Nat.pow_zero, Nat.mul_one, Nat.one_mul, Nat.zero_add, Nat.mul_zero]
      omega, hh0, HJ1.out.cells, But.refl _ _⟩
     have HMA := hideP hma
     clear htm htl hh0 hl0 e0 hma hz e1 htop hover
     rename World => w1
     go_wp2_with fail
     go_region
     go_wp2_with fail
     refine Zai (S := fun V => But L w1 V) (by kernel_rfl) ((But.refl _ _).drew.drew) (fun hS => ?_)
     refine tkG 0 hS ?_
     simp only [Zaa, Zs, Zz]
     refine tkG 1 hS ?_
     simp only [Zaa, Zs, Zz]
     refine tkG 2 hS ?_
     simp only [Zaa, Zs, Zz]
     refine tkG 3 hS ?_
     simp only [Zaa, Zs, Zz]
     refine tkG 4 hS ?_
     simp only [Zaa, Zs, Zz]
     refine tkI 5 ?_ hS ?_ ?_
     rotate_left
     ·
      intro V hV
      have k0 := (hV.cell (o := 0) nP).trans cm
      go_simp
      (try with_reducible rfl)
     simp only [Zaa, Zs, Zz]
     refine tkG 6 hS ?_
     simp only [Zaa, Zs, Zz]
     refine rd1 7 (fun K hK => ?_)
     go_simp
     refine hK.out _ _ hS (fun hS => ?_)
     clear hK K
     refine rd1 8 (fun K hK => ?_)
     go_simp
     refine (HMA.out _).mono ?_
     rintro e w9 ⟨rfl, rfl⟩
     refine hK.out _ _ hS (fun hS => ?_)
     clear hK K
     refine tkG 9 hS ?_
     simp only [Zaa, Zs, Zz]
     refine tkG 10 hS ?_
     simp only [Zaa, Zs, Zz]
     refine tkG 11 hS ?_
     simp only [Zaa, Zs, Zz]
     refine rd1 12 (fun K hK => ?_)
     go_simp
     refine hK.out _ _ hS (fun hS => ?_)
     clear hK K
     refine wpAnyH_done (by kernel_rfl) ?_ _
     (try simp only [Zas])
     go_wp2_with fail
     clear c0 cf cm hS HMA hadd hwt hnl
     go_loopw [11, 73] (fun c i wr => ∃ (i2 cv2 : Nat) (g2 : Nat → Nat), i2 ≤ 3 ∧ i = .int .i64 i2 ∧ c = .int .u64 cv2 ∧ M2 w1.drew.drew wr L (limb m) gk g2 tm i2 cv2) (fun _ i _ => 3 - (intOf i).toNat)
     case atStart => exact ⟨0, h0, gk, Nat.zero_le _, rfl, rfl, HK0.out⟩
     case round =>
      obtain ⟨i2, cv2, g2, hi2, rfl, rfl, J⟩ := hrel
      have HJ := hideP J
      clear J
      by_cases hit : i2 < 3
      ·
       obtain ⟨h, l, hh, hl, e, hma⟩ := ZaU tm (limb m (i2 + 1)) (gk (i2 + 1)) cv2 HTL.out (Zaz _ _) (HJ1.out.lt _) HJ.out.c
       have cm : wr.cell? ⟨p, i2 + 1, none⟩ = some (.int .u64 (limb m (i2 + 1))) := (HJ.out.but.cell (o := i2 + 1) nP).trans ((HJ1.out.but.cell (o := i2 + 1) nP).trans ((HI.out.but.cell (o := i2 + 1) nP).trans (HR0.out.limbAt (show i2 + 1 < 4 by omega))))
       have cd := Zac HJ.out.cells (get g2 (show i2 + 1 < 4 by omega))
       rw [HJ.out.far (i2 + 1) (by omega)] at cd
       have cz := Zac HJ.out.cells (get g2 (show i2 < 4 by omega))
       have fr : ∀ o, wr.frozen? ⟨L, o, none⟩ = false := fun o => Zap HJ.out.cells
       have HN := hideP (HJ.out.put (show i2 < 4 by omega) hl hh e)
       have hit' : (i2 : Int) < 3 := by omega
       have hit2 : (i2 : Int) < 4 := by omega
       have hit4 : (0 : Int) ≤ (i2 : Int) + 1 := by omega
       have hit3 : (i2 : Int) + 1 < 4 := by omega
       have e5 : IntKind.i64.wrap ((i2 : Int) + 1) = (i2 : Int) + 1 := by rw [IntKind.wrap_i64]; omega
       have HJS : Hid (i2 + 1 ≤ 3) := hit
       have HMA := hideP hma
       clear hh hl e hma hi2 hit
       go_wp2_with fail
       refine Zai (S := fun V => But L wr V) (by kernel_rfl) ((But.refl _ _).drew) (fun hS => ?_)
       refine tkG 0 hS ?_
       simp only [Zaa, Zs, Zz]
       refine tkG 1 hS ?_
       simp only [Zaa, Zs, Zz]
       refine tkG 2 hS ?_
       simp only [Zaa, Zs, Zz]
       refine tkG 3 hS ?_
       simp only [Zaa, Zs, Zz]
       refine tkG 4 hS ?_
       simp only [Zaa, Zs, Zz]
       refine tkG 5 hS ?_
       simp only [Zaa, Zs, Zz]
       refine tkG 6 hS ?_
       simp only [Zaa, Zs, Zz]
       refine tkG 7 hS ?_
       simp only [Zaa, Zs, Zz]
       refine tkI 8 ?_ hS ?_ ?_
       rotate_left
       ·
        intro V hV
        have k0 := (hV.cell (o := i2 + 1) nP).trans cm
        go_simp
        (try with_reducible rfl)
       simp only [Zaa, Zs, Zz]
       refine tkG 9 hS ?_
       simp only [Zaa, Zs, Zz]
       refine tkG 10 hS ?_
       simp only [Zaa, Zs, Zz]
       refine tkG 11 hS ?_
       simp only [Zaa, Zs, Zz]
       refine tkG 13 hS ?_
       simp only [Zaa, Zs, Zz]
       refine rd1 12 (fun K hK => ?_)
       go_simp
       refine hK.out _ _ hS (fun hS => ?_)
       clear hK K
       refine rd1 14 (fun K hK => ?_)
       go_simp
       refine (HMA.out _).mono ?_
       rintro e w9 ⟨rfl, rfl⟩
       refine hK.out _ _ hS (fun hS => ?_)
       clear hK K
       refine tkG 15 hS ?_
       simp only [Zaa, Zs, Zz]
       refine tkG 16 hS ?_
       simp only [Zaa, Zs, Zz]
       refine tkG 17 hS ?_
       simp only [Zaa, Zs, Zz]
       refine rd1 18 (fun K hK => ?_)
       go_simp
       refine hK.out _ _ hS (fun hS => ?_)
       clear hK K
       refine tkG 19 hS ?_
       simp only [Zaa, Zs, Zz]
       refine rd1 20 (fun K hK => ?_)
       go_simp
       refine hK.out _ _ (hS.set _ _) (fun hS => ?_)
       clear hK K
       refine wpAnyH_done (by kernel_rfl) ?_ _
       (try simp only [Zas])
       go_wp2_with fail
       refine ⟨⟨i2 + 1, h, _, HJS.out, by go_num, rfl, HN.out⟩, by have := HJS.out; simp [intOf]; omega⟩
      ·
       have hin : i2 = 3 := by omega
       have hnl : ¬ (i2 : Int) < 3 := by omega
       have HJ2 : Hid (M2 w1.drew.drew wr L (limb m) gk g2 tm 3 cv2) := hin ▸ HJ.out
       clear hi2 hit hin HJ
       obtain ⟨s, c, hs, hc, e2, hadd⟩ := Zci top cv2 HTOP.out HJ2.out.c
       have cz := Zac HJ2.out.cells (get g2 (show 3 < 4 by decide))
       have fr : ∀ o, wr.frozen? ⟨L, o, none⟩ = false := fun o => Zap HJ2.out.cells
       have h3 := Zaw (o := 3) HJ2.out.cells (.int .u64 s)
       rw [set g2 s (by decide)] at h3
       have hbut : But L W0 (wr.setCell ⟨L, 3, none⟩ (.int .u64 s)) := (HI.out.but.trans (HJ1.out.but.drew.drew.trans HJ2.out.but)).set _ _
       have hN := MO.next HI.out HM.out HJ1.out.sum HE1.out HTL.out HJ2.out.sum HJ2.out.lt e2 hs h3 hbut
       have HN := hideP hN
       have hov : IntKind.u64.wrap ((over : Int) + (c : Int)) = (over : Int) + c := by
        have := HOV.out
        rw [IntKind.wrap_u64]; omega
       clear hN h3 hbut e2 hs hc
       go_wp2_with fail
       refine ⟨⟨k + 1, over + c, _, _, HKS.out, by go_num, by go_num, HN.out⟩, by have := HKS.out; simp [intOf]; omega⟩
  ·
   have hkn : k = 4 := by omega
   have hnl : ¬ (k : Int) < 4 := by omega
   have HJ : Hid (MO W0 wr L x y g m 4 a q) := hkn ▸ HI.out
   clear hk hlt hkn HI
   obtain ⟨q0, q1, q2, q3⟩ := cells HJ.out.cells
   have hZ := Zbn (fun j _ => HJ.out.lt j)
   have hsum := HJ.out.sum
   rw [← R_eq] at hsum
   have hq := HJ.out.q
   rw [← R_eq] at hq
   have hT : val g 4 + R * a < 2 * m := by
    rw [Nat.mul_comm R]
    exact MN.last hsum HAB.out hq H0.out
   have hPR : (val g 4 + R * a) % m * R % m = val x 4 * val y 4 % m := by
    rw [Nat.mod_mul_mod, Nat.mul_comm R a, hsum, Nat.add_mul_mod_self_right]
   have hPm : (val g 4 + R * a) % m < m := Nat.mod_lt _ H0.out
   have hcall := ZcZ p m f o r (val g 4) a wr (HR0.out.belowN (by omega) HJ.out.but.below) HM.out hZ hT
   rw [← Zcf (fun j _ => HJ.out.lt j)] at hcall
   unfold cs at hcall
   generalize (val g 4 + R * a) % m = Pr at hPR hPm hcall
   have HC := hideP hcall
   have HP : Hid (Pr < m ∧ Pr * R % m = val x 4 * val y 4 % m) := ⟨hPm, hPR⟩
   clear hcall hPm hPR hT hsum hZ hq
   go_wp2_with fail
   rename_i Q' KA KB KC hKC KD hKD
   refine HC.out.mono ?_
   rintro e w3 ⟨rfl, hb⟩
   refine hKD _ _ ?_
   have hD3 := (hb.block _ (Zab ((HJ.out.but.same _ nD).trans HD.out))).trans ((HJ.out.but.same _ nD).trans HD.out)
   have hlw := HBW.out.trans ((HJ.out.but.below.mono (show w.heap.size ≤ L by omega)).trans (hb.mono (Nat.le_trans HBW.out.size HJ.out.but.below.size)))
   refine Zhk hKC (fun _ _ h => h) rfl rfl rfl rfl under rfl (info _) (one _) (Zar hD3 _) ?_
   intro wS hBut
   exact ⟨⟨Pr, rfl, HP.out.1, HP.out.2⟩, hlw.trans (hBut.below.mono (by omega))⟩
def el (m X : Nat) : Nat := X * R % m
structure MF (m f : Nat) : Prop where
 odd : m % 2 = 1
 lt : m < R
 ge : 3 ≤ m
 fill : (limb m 0 * f + 1) % 18446744073709551616 = 0
section
variable {m f : Nat}
theorem MF.pos (h : MF m f) : 0 < m := by have := h.ge; omega
theorem ZbO (h : MF m f) (X : Nat) : el m X < m := Nat.mod_lt _ h.pos
theorem Zco (h : MF m f) (X : Nat) : el m X < R := Nat.lt_trans (ZbO h X) h.lt
theorem ZlE (m X : Nat) : el m (X % m) = el m X := by unfold el; rw [Nat.mod_mul_mod]
theorem ZlF (m X Y : Nat) : (el m X + el m Y) % m = el m (X + Y) := by unfold el; rw [← Nat.add_mod, Nat.add_mul]
theorem ZdS (h : MF m f) {P X : Nat} (hP : P < m) (e : P * R % m = X * R * R % m) : P = el m X := by
 obtain ⟨k, hk⟩ := ZiN
 refine MN.uniq h.odd k hP (ZbO h X) ?_
 rw [← hk, e]
 unfold el
 rw [Nat.mod_mul_mod]
theorem el_inj (h : MF m f) {X Y : Nat} (e : el m X = el m Y) : X % m = Y % m := by
 obtain ⟨k, hk⟩ := ZiN
 unfold el at e
 rw [hk] at e
 exact MN.halves h.odd k e
end
theorem Zc0 {p m f o r : Nat} {w : World} (hr : RingAt w p m f o r) (h : MF m f) (A C : Nat) (hA : A < R) (hC : C < R) (hAC : A * C < R * m) :
  Calls Tryz.prog 153 #[.pointer (some ⟨p, 0, none⟩), wv A, wv C] w fun e w' => (∃ P : Nat, e = .returned (wv P) ∧ P < m ∧ P * R % m = A * C % m) ∧ Below w.heap.size w w' := by
 have hcall := Zcn p m f o r (limb A) (limb C) (Zaz A) (Zaz C) w hr h.lt h.pos h.fill (by rw [Zal hA, Zal hC]; exact hAC)
 rw [Zal hA, Zal hC] at hcall
 exact hcall
theorem Zc1 {R A C m : Nat} (hA : A < R) (hC : C < m) : A * C < R * m := by
 have h1 : A * C ≤ A * m := Nat.mul_le_mul_left _ (by omega)
 have h2 : A * m < R * m := Nat.mul_lt_mul_of_pos_right hA (by omega)
 omega
theorem Zda {p m f o r : Nat} {w : World} (hr : RingAt w p m f o r) (h : MF m f) (X Y : Nat) :
  Calls Tryz.prog 153 #[.pointer (some ⟨p, 0, none⟩), wv (el m X), wv (el m Y)] w fun e w' => e = .returned (wv (el m (X * Y))) ∧ Below w.heap.size w w' := by
 refine (Zc0 hr h (el m X) (el m Y) (Zco h X) (Zco h Y) (Zc1 (Zco h X) (ZbO h Y))).mono ?_
 rintro e w' ⟨⟨P, rfl, hP, hPR⟩, hb⟩
 refine ⟨?_, hb⟩
 rw [ZdS h hP (X := X * Y)]
 rw [hPR]
 unfold el
 rw [← Nat.mul_mod]
 have e2 : X * R * (Y * R) = X * Y * R * R := by generalize R = Q; grind
 rw [e2]
theorem ZgA {p m f o : Nat} {w : World} (hr : RingAt w p m f o (el m R)) (h : MF m f) (A : Nat) (hA : A < R) :
  Calls Tryz.prog 153 #[.pointer (some ⟨p, 0, none⟩), wv A, wv (el m R)] w fun e w' => e = .returned (wv (el m A)) ∧ Below w.heap.size w w' := by
 refine (Zc0 hr h A (el m R) hA (Zco h R) (Zc1 hA (ZbO h R))).mono ?_
 rintro e w' ⟨⟨P, rfl, hP, hPR⟩, hb⟩
 refine ⟨?_, hb⟩
 rw [ZdS h hP (X := A)]
 rw [hPR]
 unfold el
 rw [Nat.mul_mod_mod, ← Nat.mul_assoc]
theorem ZkD {p m f o r : Nat} {w : World} (hr : RingAt w p m f o r) (h : MF m f) (X : Nat) :
  Calls Tryz.prog 153 #[.pointer (some ⟨p, 0, none⟩), wv (el m X), wv 1] w fun e w' => e = .returned (wv (X % m)) ∧ Below w.heap.size w w' := by
 have hge := h.ge
 refine (Zc0 hr h (el m X) 1 (Zco h X) (by decide) (Zc1 (Zco h X) (by omega))).mono ?_
 rintro e w' ⟨⟨P, rfl, hP, hPR⟩, hb⟩
 refine ⟨?_, hb⟩
 obtain ⟨k, hk⟩ := ZiN
 have e : P = X % m := by
  refine MN.uniq h.odd k hP (Nat.mod_lt _ h.pos) ?_
  rw [← hk, hPR, Nat.mul_one, Nat.mod_mul_mod]
  unfold el
  rw [Nat.mod_mod]
 rw [e]
structure Good (w : World) (p m : Nat) : Prop where
 ex : ∃ f, MF m f ∧ RingAt w p m f (el m 1) (el m R)
theorem Good.lt {w : World} {p m : Nat} (h : Good w p m) : p < w.heap.size := by
 obtain ⟨f, h1, h2⟩ := h.ex
 exact h2.lt
theorem ZdT {p m f o r : Nat} {w : World} (hr : RingAt w p m f o r) : Calls Tryz.prog 281 #[.pointer (some ⟨p, 0, none⟩)] w fun e w' => e = .returned (.bool (!((limb m 0 : Int) == 0))) ∧ w = w' := by
 have c0 := hr.limbAt (show 0 < 4 by decide)
 clear hr
 go_enter Tryz.func281, Tryz.ntmps281
 go_wp2
 go_ret
 simp [bne]
theorem ZdU {m : Nat} (h : m % 2 = 1) : limb m 0 % 2 = 1 := by unfold limb; simp; omega
theorem ZaS {p m f o r : Nat} {w : World} (hr : RingAt w p m f o r) (h : MF m f) : Calls Tryz.prog 281 #[.pointer (some ⟨p, 0, none⟩)] w fun e w' => e = .returned (.bool true) ∧ w = w' := by
 refine (ZdT hr).mono ?_
 rintro e w' ⟨rfl, rfl⟩
 have := ZdU h.odd
 have h2 : ((limb m 0 : Int) == 0) = false := by rw [beq_eq_false_iff_ne]; omega
 exact ⟨by rw [h2]; rfl, rfl⟩
structure AI (W wr : World) (L : Nat) (x y md gs gl : Nat → Nat) (k c b : Nat) : Prop where
 lts : ∀ j, gs j < 18446744073709551616
 ltl : ∀ j, gl j < 18446744073709551616
 sum : val x k + val y k = val gs k + 18446744073709551616 ^ k * c
 less : val gs k + 18446744073709551616 ^ k * b = val gl k + val md k
 c : c ≤ 1
 b : b ≤ 1
 cellS : wr.heap[L]? = some (.cells (cs gs) 32 (0, 0))
 cellL : wr.heap[L + 1]? = some (.cells (cs gl) 32 (0, 0))
 below : Below L W wr
theorem AI.put {W wr w1 w2 : World} {L : Nat} {x y md gs gl : Nat → Nat} {k c b s c' d b' : Nat} (I : AI W wr L x y md gs gl k c b) (hk : k < 4) (hs : s < 18446744073709551616) (hd : d < 18446744073709551616) (hc : c' ≤ 1) (hb : b' ≤ 1)
  (e1 : x k + y k + c = s + 18446744073709551616 * c') (e2 : s + 18446744073709551616 * b' = d + md k + b) (h1 : w1 = wr.drew.setCell ⟨L, k, none⟩ (.int .u64 s)) (h2 : w2 = w1.drew.setCell ⟨L + 1, k, none⟩ (.int .u64 d)) :
  AI W w2 L x y md (fun i => if i = k then s else gs i) (fun i => if i = k then d else gl i) (k + 1) c' b' := by
 have v1 : val (fun j => if j = k then s else gs j) k = val gs k := Za0 k (fun j hj => by rw [if_neg (by omega)])
 have v2 : val (fun j => if j = k then d else gl j) k = val gl k := Za0 k (fun j hj => by rw [if_neg (by omega)])
 have hS1 : w1.heap[L]? = some (.cells (cs (fun i => if i = k then s else gs i)) 32 (0, 0)) := by
  have h3 : wr.drew.heap[L]? = some (.cells (cs gs) 32 (0, 0)) := I.cellS
  have := Zaw (o := k) h3 (.int .u64 s)
  rw [set gs s hk] at this
  rw [h1]; exact this
 have hL1 : w1.heap[L + 1]? = some (.cells (cs gl) 32 (0, 0)) := by
  rw [h1]
  exact (Below.heap_setCell _ _ _ _ (by show L + 1 ≠ L; omega)).trans I.cellL
 refine ⟨fun j => ?_, fun j => ?_, ?_, ?_, hc, hb, ?_, ?_, ?_⟩
 ·
  split
  ·
   exact hs
  ·
   exact I.lts j
 ·
  split
  ·
   exact hd
  ·
   exact I.ltl j
 ·
  show val x k + x k * 18446744073709551616 ^ k + (val y k + y k * 18446744073709551616 ^ k) = val (fun j => if j = k then s else gs j) k + (if k = k then s else gs k) * 18446744073709551616 ^ k + 18446744073709551616 ^ (k + 1) * c'
  rw [v1, if_pos rfl, Nat.pow_succ]
  have h2 := I.sum
  grind
 ·
  show val (fun j => if j = k then s else gs j) k + (if k = k then s else gs k) * 18446744073709551616 ^ k + 18446744073709551616 ^ (k + 1) * b' = val (fun j => if j = k then d else gl j) k + (if k = k then d else gl k) * 18446744073709551616 ^ k + (val md k + md k * 18446744073709551616 ^ k)
  rw [v1, v2, if_pos rfl, if_pos rfl, Nat.pow_succ]
  have h2 := I.less
  grind
 ·
  rw [h2]
  exact (Below.heap_setCell _ _ _ _ (by show L ≠ L + 1; omega)).trans hS1
 ·
  have h3 : w1.drew.heap[L + 1]? = some (.cells (cs gl) 32 (0, 0)) := hL1
  have := Zaw (o := k) h3 (.int .u64 d)
  rw [set gl d hk] at this
  rw [h2]; exact this
 ·
  rw [h2, h1]
  exact (((I.below.drew.setCell (p := ⟨L, k, none⟩) (Nat.le_refl _) _).drew).setCell (p := ⟨L + 1, k, none⟩) (Nat.le_succ _) _)
theorem Zfj {p m f o r : Nat} {w : World} (hr : RingAt w p m f o r) (h : MF m f) (X Y : Nat) (hX : X < m) (hY : Y < m) :
  Calls Tryz.prog 219 #[.pointer (some ⟨p, 0, none⟩), wv X, wv Y] w fun e w' => e = .returned (wv ((X + Y) % m)) ∧ Below w.heap.size w w' := by
 have hp : p < w.heap.size := hr.lt
 have HR := hideP hr
 have HM := hideP h
 have HXY : Hid (X < m ∧ Y < m) := ⟨hX, hY⟩
 clear hr h hX hY
 unfold wv cs
 go_enter Tryz.func219, Tryz.ntmps219
 go_wp2_with fail
 rename_i Q' K hK
 have HK := hideP hK
 clear hK
 refine Zaj (fun W0 hW0 => ?_)
 have hA : W0.heap[w.heap.size]? = some (.cells (cs (limb X)) 32 (0, 0)) := by
  rw [hW0]
  exact (Zah _ _ (by simp <;> omega)).trans ((Zah _ _ (by simp <;> omega)).trans ((Zah _ _ (by simp <;> omega)).trans ((Zah _ _ (by simp)).trans (Zaf _ _))))
 have hB : W0.heap[w.heap.size + 1]? = some (.cells (cs (limb Y)) 32 (0, 0)) := by
  rw [hW0]
  exact (Zah _ _ (by simp <;> omega)).trans ((Zah _ _ (by simp <;> omega)).trans ((Zah _ _ (by simp)).trans (Zat _ _ _)))
 have hD : W0.heap[w.heap.size + 1 + 1]? = some (.cells (cs (fun _ => 0)) 32 (0, 0)) := by
  rw [hW0]
  exact (Zah _ _ (by simp <;> omega)).trans ((Zah _ _ (by simp)).trans (ZaG _ _ _ _))
 have hL : W0.heap[w.heap.size + 1 + 1 + 1]? = some (.cells (cs (fun _ => 0)) 32 (0, 0)) := by
  rw [hW0]
  exact (Zah _ _ (by simp)).trans (Zch _ _ _ _ _)
 have hL2 : W0.heap[w.heap.size + 1 + 1 + 1 + 1]? = some (.cells (cs (fun _ => 0)) 32 (0, 0)) := by
  rw [hW0]
  have := heap_alloc_new ((((w.alloc (.cells #[.int .u64 (limb X 0), .int .u64 (limb X 1), .int .u64 (limb X 2), .int .u64 (limb X 3)] 32 (0, 0))).alloc (.cells #[.int .u64 (limb Y 0), .int .u64 (limb Y 1), .int .u64 (limb Y 2), .int .u64 (limb Y 3)] 32 (0, 0))).alloc (.cells #[.int .u64 0, .int .u64 0, .int .u64 0, .int .u64 0] 32 (0, 0))).alloc (.cells #[.int .u64 0, .int .u64 0, .int .u64 0, .int .u64 0] 32 (0, 0))) (.cells #[.int .u64 0, .int .u64 0, .int .u64 0, .int .u64 0] 32 (0, 0))
  simp only [World.size_alloc] at this
  exact this
 have HBW : Hid (Below w.heap.size w W0) := by
  show Below _ _ _
  rw [hW0]
  repeat first | exact Below.refl _ _ | (refine Below.alloc ?_ (by simp <;> omega) _)
 clear hW0
 have HR0 := hideP (HR.out.belowN hp HBW.out)
 have HI0 : Hid (AI W0 W0 (w.heap.size + 1 + 1 + 1) (limb X) (limb Y) (limb m) (fun _ => 0) (fun _ => 0) 0 0 0) := ⟨fun _ => by decide, fun _ => by decide, by simp [val], by simp [val], by omega, by omega, hL, hL2, Below.refl _ _⟩
 have HA := hideP hA
 have HB := hideP hB
 have HD := hideP hD
 clear hA hB hD hL hL2 HR
 have nA : w.heap.size < w.heap.size + 1 + 1 + 1 := by omega
 have nB : w.heap.size + 1 < w.heap.size + 1 + 1 + 1 := by omega
 have nD : w.heap.size + 1 + 1 < w.heap.size + 1 + 1 + 1 := by omega
 have nP : p < w.heap.size + 1 + 1 + 1 := by omega
 have nW : w.heap.size ≤ w.heap.size + 1 + 1 + 1 := by omega
 generalize w.heap.size + 1 + 1 + 1 = L at *
 go_loopw [9, 10, 14] (fun c b i wr => ∃ (k cv bv : Nat) (gs gl : Nat → Nat), k ≤ 4 ∧ i = .int .i64 k ∧ c = .int .u64 cv ∧ b = .int .u64 bv ∧ AI W0 wr L (limb X) (limb Y) (limb m) gs gl k cv bv) (fun _ _ i _ => 4 - (intOf i).toNat)
 case atStart => exact ⟨0, 0, 0, fun _ => 0, fun _ => 0, Nat.zero_le _, rfl, rfl, rfl, HI0.out⟩
 case round =>
  obtain ⟨k, cv, bv, gs, gl, hk, rfl, rfl, rfl, I⟩ := hrel
  have HI := hideP I
  clear I
  by_cases hlt : k < 4
  ·
   obtain ⟨s, c', hs, hc', e1, hsa⟩ := ZeJ (limb X k) (limb Y k) cv (Zaz _ _) (Zaz _ _) HI.out.c
   obtain ⟨d, b', hd, hb', e2, hsb⟩ := Zds s (limb m k) bv hs (Zaz _ _) HI.out.b
   have ca := (HI.out.below.cell (p := ⟨w.heap.size, k, none⟩) nA).trans (Zac HA.out (get (limb X) hlt))
   have cb := (HI.out.below.cell (p := ⟨w.heap.size + 1, k, none⟩) nB).trans (Zac HB.out (get (limb Y) hlt))
   have cm := (HI.out.below.cell (p := ⟨p, k, none⟩) nP).trans (HR0.out.limbAt hlt)
   have fr : ∀ o, wr.frozen? ⟨L, o, none⟩ = false := fun o => Zap HI.out.cellS
   have cd := Zac HI.out.cellS (get gs hlt)
   have hlt' : (k : Int) < 4 := by omega
   have e4 : IntKind.i64.wrap ((k : Int) + 1) = (k : Int) + 1 := by rw [IntKind.wrap_i64]; omega
   have HKS : Hid (k + 1 ≤ 4) := hlt
   have HLT := hideP hlt
   have HE : Hid (s < 18446744073709551616 ∧ d < 18446744073709551616 ∧ c' ≤ 1 ∧ b' ≤ 1 ∧ limb X k + limb Y k + cv = s + 18446744073709551616 * c' ∧ s + 18446744073709551616 * b' = d + limb m k + bv) := ⟨hs, hd, hc', hb', e1, e2⟩
   clear e1 e2 hs hd hc' hb' hk hlt
   go_wp2_with fail
   go_region
   go_wp2_with fail
   refine Zaj (fun w1 hw1 => ?_)
   have hS1 : w1.heap[L]? = some (.cells (cs (fun i => if i = k then s else gs i)) 32 (0, 0)) := by
    have h3 : wr.drew.heap[L]? = some (.cells (cs gs) 32 (0, 0)) := HI.out.cellS
    have := Zaw (o := k) h3 (.int .u64 s)
    rw [set gs s HLT.out] at this
    rw [hw1]; exact this
   have hL1 : w1.heap[L + 1]? = some (.cells (cs gl) 32 (0, 0)) := by
    rw [hw1]
    exact (Below.heap_setCell _ _ _ _ (by show L + 1 ≠ L; omega)).trans HI.out.cellL
   have hP1 : w1.cell? ⟨p, k, none⟩ = some (.int .u64 (limb m k)) := by
    rw [hw1]
    exact ((HI.out.below.drew.setCell (p := ⟨L, k, none⟩) (Nat.le_refl _) _).cell (p := ⟨p, k, none⟩) nP).trans (HR0.out.limbAt HLT.out)
   clear ca cb cm fr cd
   have cS := Zac hS1 (get _ HLT.out)
   rw [if_pos rfl] at cS
   have cL := Zac hL1 (get gl HLT.out)
   have fr : ∀ o, w1.frozen? ⟨L + 1, o, none⟩ = false := fun o => Zap hL1
   have HW1 := hideP hw1
   clear hS1 hL1 hw1
   go_region
   go_wp2_with fail
   obtain ⟨q1, q2, q3, q4, q5, q6⟩ := HE.out
   have HN := HI.out.put HLT.out q1 q2 q3 q4 q5 q6 HW1.out rfl
   refine ⟨⟨k + 1, c', b', _, _, HKS.out, by go_num, rfl, rfl, HN⟩, by have := HKS.out; simp [intOf]; omega⟩
  ·
   have hkn : k = 4 := by omega
   have hnl : ¬ (k : Int) < 4 := by omega
   have HJ : Hid (AI W0 wr L (limb X) (limb Y) (limb m) gs gl 4 cv bv) := hkn ▸ HI.out
   clear hk hlt hkn HI
   have hs := HJ.out.sum
   have hl := HJ.out.less
   have hXm := HXY.out.1
   have hYm := HXY.out.2
   have hmR := HM.out.lt
   rw [Zal (by omega), Zal (by omega), ← R_eq] at hs
   rw [Zal hmR, ← R_eq] at hl
   have hS := Zbn (fun j _ => HJ.out.lts j)
   have hLL := Zbn (fun j _ => HJ.out.ltl j)
   have hred := ZdR (Z := val gs 4) (m := m) (c := cv) hS hmR (by omega)
   rw [← hs] at hred
   have hl1 : bv = less1 (val gs 4) m ∧ val gl 4 = val gs 4 + R * less1 (val gs 4) m - m := by
    have hb1 := HJ.out.b
    have hbv : bv = 0 ∨ bv = 1 := by omega
    unfold less1
    rcases hbv with rfl | rfl
    ·
     rw [if_neg (by omega)]; omega
    ·
     rw [if_pos (by omega)]; omega
   have HRES : Hid (wv ((X + Y) % m) = if cv = 0 ∧ bv = 1 then .agg (cs gs) else .agg (cs gl)) := by
    show _ = _
    rw [hred, ← hl1.1, Zcf (fun j _ => HJ.out.lts j), Zcf (fun j _ => HJ.out.ltl j), hl1.2, ← hl1.1]
    split <;> rfl
   have hcv := HJ.out.c
   have hbv := HJ.out.b
   clear hs hl hXm hYm hmR hS hLL hred hl1
   have HD3 := hideP ((HJ.out.below.block _ nD).trans HD.out)
   have HSS := hideP HJ.out.cellS
   have HLL := hideP HJ.out.cellL
   have HBS := hideP (HBW.out.trans (HJ.out.below.mono nW))
   rw [ZiO] at HRES
   go_wp2_with fail
   refine HK.out _ _ ?_
   refine Zae (fun K1 HK1 => ?_)
   refine Zae (fun K2 HK2 => ?_)
   by_cases hc0 : cv = 0
   ·
    subst hc0
    have hbb : bv = 0 ∨ bv = 1 := by omega
    rcases hbb with rfl | rfl
    ·
     have HX2 := hideP (HRES.out.trans (if_neg (by decide)))
     clear HRES
     go_wp2_with fail
     refine HK2.out _ _ ?_
     refine wp_cond_false rfl (wp_skip ?_)
     refine HK1.out _ _ ?_
     refine Za4 (fun _ _ h => h) rfl rfl rfl (by decide) (by show 54 < 55; decide) rfl under rfl (info _) (one _) (Zag HLL.out) (Zar HD3.out _) ?_
     intro wS hBut
     exact ⟨congrArg _ HX2.out.symm, HBS.out.trans (hBut.below.mono (by omega))⟩
    ·
     have HX2 := hideP (HRES.out.trans (if_pos ⟨rfl, rfl⟩))
     clear HRES
     go_wp2_with fail
     refine HK2.out _ _ ?_
     refine wp_cond_true rfl ?_
     have hQ : ∀ a w, Q' .ret a w → Exit.then K1 Q' .ret a w := fun _ _ h => h
     refine Za4 hQ rfl rfl rfl (by decide) (by show 53 < 55; decide) rfl under rfl (info _) (one _) (Zag HSS.out) (Zar HD3.out _) ?_
     intro wS hBut
     exact ⟨congrArg _ HX2.out.symm, HBS.out.trans (hBut.below.mono (by omega))⟩
   ·
    have hc1 : cv = 1 := by omega
    subst hc1
    clear hc0 hcv
    have HX2 := hideP (HRES.out.trans (if_neg (by simp)))
    clear HRES
    go_wp2_with fail
    refine HK2.out _ _ ?_
    refine wp_cond_false rfl (wp_skip ?_)
    refine HK1.out _ _ ?_
    refine Za4 (fun _ _ h => h) rfl rfl rfl (by decide) (by show 54 < 55; decide) rfl under rfl (info _) (one _) (Zag HLL.out) (Zar HD3.out _) ?_
    intro wS hBut
    exact ⟨congrArg _ HX2.out.symm, HBS.out.trans (hBut.below.mono (by omega))⟩
structure KP (W : World) (R0 : Nat) (V : World) : Prop where
 same : ∀ b, b < W.heap.size → b ≠ R0 → V.heap[b]? = W.heap[b]?
 below : Below R0 W V
 res : ∃ g : Nat → Nat, V.heap[R0]? = some (.cells (cs g) 32 (0, 0))
section
variable {W V V' : World} {R0 : Nat}
theorem KP.init {g : Nat → Nat} (h : W.heap[R0]? = some (.cells (cs g) 32 (0, 0))) : KP W R0 W.drew := ⟨fun _ _ _ => rfl, (Below.refl _ _).drew, g, h⟩
theorem KP.size (h : KP W R0 V) : W.heap.size ≤ V.heap.size := h.below.size
theorem KP.call (h : KP W R0 V) (hb : Below V.heap.size V V') : KP W R0 V' := by
 obtain ⟨g, hg⟩ := h.res
 have hlt := Zab hg
 exact ⟨fun b h1 h2 => (hb.block b (Nat.lt_of_lt_of_le h1 h.size)).trans (h.same b h1 h2), h.below.trans (hb.mono (Nat.le_of_lt hlt)), g, (hb.block _ hlt).trans hg⟩
theorem KP.there (h : KP W R0 V) (g' : Nat → Nat) : V.there R0 0 (cs g').size := by
 obtain ⟨g, hg⟩ := h.res
 exact Zar hg g'
theorem KP.put (h : KP W R0 V) (g' : Nat → Nat) : (V.setCells R0 0 (cs g').toList).heap[R0]? = some (.cells (cs g') 32 (0, 0)) := by
 obtain ⟨g, hg⟩ := h.res
 have h1 := Za9 (cs g').toList 0 hg
 rwa [ZaZ] at h1
theorem KP.store (h : KP W R0 V) (g' : Nat → Nat) : KP W R0 (V.setCells R0 0 (cs g').toList) := by
 have hB := But.sets (cs g').toList 0 (But.refl R0 V)
 exact ⟨fun b h1 h2 => (hB.same b h2).trans (h.same b h1 h2), h.below.trans hB.below, g', h.put g'⟩
theorem KP.ring (h : KP W R0 V) {p m f o r : Nat} (hr : RingAt W p m f o r) (hne : p ≠ R0) : RingAt V p m f o r := ⟨(h.same p hr.lt hne).trans hr.heap⟩
theorem KP.box (h : KP W R0 V) {b t : Nat} {C : Array Value} (hb : W.heap[b]? = some (.cells C t (0, 0))) (hne : b ≠ R0) : V.heap[b]? = some (.cells C t (0, 0)) := (h.same b (Zab hb) hne).trans hb
end
theorem KP.start {W : World} {R0 : Nat} {g : Nat → Nat} (h : W.heap[R0]? = some (.cells (cs g) 32 (0, 0))) : KP W R0 W := ⟨fun _ _ _ => rfl, Below.refl _ _, g, h⟩
theorem Zbq {p m f o r : Nat} {w : World} (hr : RingAt w p m f o r) (h : MF m f) (X T : Nat) (hX : X < m) (hT : T < 1000000) :
  Calls Tryz.prog 151 #[.pointer (some ⟨p, 0, none⟩), wv X, .int .i64 T] w fun e w' => e = .returned (wv (X * 2 ^ T % m)) ∧ Below w.heap.size w w' := by
 have hp : p < w.heap.size := hr.lt
 have HR := hideP hr
 have HM := hideP h
 have HX := hideP hX
 have HT := hideP hT
 clear hr h hX hT
 unfold wv
 have HLIT := hideP (show cs (limb X) = #[.int .u64 (limb X 0), .int .u64 (limb X 1), .int .u64 (limb X 2), .int .u64 (limb X 3)] from rfl)
 rw [show cs (limb X) = #[.int .u64 (limb X 0), .int .u64 (limb X 1), .int .u64 (limb X 2), .int .u64 (limb X 3)] from rfl]
 go_enter Tryz.func151, Tryz.ntmps151
 go_wp2_with fail
 rename_i Q' K hK
 have HK := hideP hK
 clear hK
 refine Zaj (fun W0 hW0 => ?_)
 have hA : W0.heap[w.heap.size]? = some (.cells (cs (limb X)) 32 (0, 0)) := by
  rw [hW0]
  exact (Zah _ _ (by simp)).trans (Zaf _ _)
 have hD : W0.heap[w.heap.size + 1]? = some (.cells (cs (fun _ => 0)) 32 (0, 0)) := by
  rw [hW0]
  exact Zat _ _ _
 have HBW : Hid (Below w.heap.size w W0) := by
  show Below _ _ _
  rw [hW0]
  repeat first | exact Below.refl _ _ | (refine Below.alloc ?_ (by simp <;> omega) _)
 clear hW0
 have HR0 := hideP (HR.out.belowN hp HBW.out)
 have HA := hideP hA
 have HD := hideP hD
 clear hA hD HR
 go_loopw [8] (fun i wr => ∃ k : Nat, k ≤ T ∧ i = .int .i64 k ∧ wr.heap[w.heap.size]? = some (.cells (cs (limb (X * 2 ^ k % m))) 32 (0, 0)) ∧ KP W0 w.heap.size wr) (fun i _ => T - (intOf i).toNat)
 case atStart => exact ⟨0, Nat.zero_le _, rfl, by rw [Nat.pow_zero, Nat.mul_one, Nat.mod_eq_of_lt HX.out]; exact HA.out, KP.start HA.out⟩
 case round =>
  obtain ⟨k, hk, rfl, hc, hS⟩ := hrel
  have HS := hideP hS
  have HCC := hideP hc
  by_cases hlt : k < T
  ·
   obtain ⟨q0, q1, q2, q3⟩ := cells hc
   have hT := HT.out
   have hlt' : (k : Int) < T := by omega
   have e4 : IntKind.i64.wrap ((k : Int) + 1) = (k : Int) + 1 := by rw [IntKind.wrap_i64]; omega
   have HKS : Hid (k + 1 ≤ T) := hlt
   have hadd := Zfj (HS.out.ring HR0.out (by omega)) HM.out (X * 2 ^ k % m) (X * 2 ^ k % m) (Nat.mod_lt _ HM.out.pos) (Nat.mod_lt _ HM.out.pos)
   have e2 : (X * 2 ^ k % m + X * 2 ^ k % m) % m = X * 2 ^ (k + 1) % m := by
    rw [← Nat.add_mod, Nat.pow_succ, ← Nat.mul_assoc, Nat.mul_two]
   rw [e2] at hadd
   unfold wv at hadd
   rw [show cs (limb (X * 2 ^ k % m)) = #[.int .u64 (limb (X * 2 ^ k % m) 0), .int .u64 (limb (X * 2 ^ k % m) 1), .int .u64 (limb (X * 2 ^ k % m) 2), .int .u64 (limb (X * 2 ^ k % m) 3)] from rfl] at hadd
   have HADD := hideP hadd
   clear hadd e2 hS hc hlt hk hT
   go_wp2_with fail
   rename_i QA KA hKA KB hKB
   refine HADD.out.mono ?_
   rintro e w1 ⟨rfl, hb⟩
   refine hKB _ _ ?_
   have hS1 := HS.out.call hb
   refine wpList_store_mid rfl 32 (.tmp 4) (.tmp 13) rfl w.heap.size 0 (cs (limb (X * 2 ^ (k + 1) % m))) rfl rfl (hS1.there _) (info _) (one _) ?_
   refine wpList_nil ?_
   simp only [Zas]
   have hg := hS1.put (limb (X * 2 ^ (k + 1) % m))
   have hS2 := hS1.store (limb (X * 2 ^ (k + 1) % m))
   generalize World.setCells w1 w.heap.size 0 (cs (limb (X * 2 ^ (k + 1) % m))).toList = w2 at hg hS2 ⊢
   have HG := hideP hg
   have HS2 := hideP hS2
   clear hg hS2 hS1 hb hKB q0 q1 q2 q3
   go_wp2_with fail
   exact ⟨⟨k + 1, HKS.out, by go_num, HG.out, HS2.out⟩, by have := HKS.out; simp [intOf]; omega⟩
  ·
   have hkn : k = T := by omega
   have hnl : ¬ (k : Int) < T := by omega
   rw [hkn] at hc
   have HCT := hideP hc
   have HDD := hideP (HS.out.box HD.out (show w.heap.size + 1 ≠ w.heap.size by omega))
   have HBS := hideP (HBW.out.trans HS.out.below)
   clear hc hS hlt hk hkn HCC
   go_wp2_with fail
   refine HK.out _ _ ?_
   refine Za4 (fun _ _ h => h) rfl rfl rfl (by decide) (by show 15 < 16; decide) rfl under rfl (info _) (one _) (Zag HCT.out) (Zar HDD.out _) ?_
   intro wS hBut
   exact ⟨rfl, HBS.out.trans (hBut.below.mono (by omega))⟩
theorem ZcA {n : Nat} (hn : n < 18446744073709551616) : cs (limb n) = cs (fun i => if i = 0 then n else 0) := by
 refine Zbe (fun j hj => ?_)
 unfold limb
 by_cases h : j = 0
 ·
  subst h; simp; omega
 ·
  rw [if_neg h, Nat.div_eq_of_lt (Nat.lt_of_lt_of_le hn (Nat.le_trans (by decide : 18446744073709551616 ≤ 18446744073709551616 ^ 1) (Nat.pow_le_pow_right (by decide) (by omega))))]
theorem ZbP (n : Nat) (hn : n < 18446744073709551616) (w : World) : Calls Tryz.prog 148 #[.int .u64 n] w fun e w' => e = .returned (wv n) ∧ Below w.heap.size w w' := by
 unfold wv
 rw [ZcA hn]
 clear hn
 go_enter Tryz.func148, Tryz.ntmps148
 refine Zae (fun K0 HK0 => ?_)
 go_wp2_with fail
 refine HK0.out _ _ ?_
 refine Zae (fun K1 HK1 => ?_)
 go_wp2_with fail
 refine HK1.out _ _ ?_
 refine Zae (fun K2 HK2 => ?_)
 go_wp2_with fail
 refine HK2.out _ _ ?_
 refine Zaj (fun W1 hW1 => ?_)
 have hB : W1.heap[w.heap.size + 1]? = some (.cells (cs (fun i => if i = 0 then n else 0)) 32 (0, 0)) := by
  rw [hW1]
  exact Zat _ _ _
 have hD : W1.heap[w.heap.size]? = some (.cells (cs (fun _ => 0)) 32 (0, 0)) := by
  rw [hW1]
  exact (Zah _ _ (by simp)).trans (Zaf _ _)
 have hlw : Below w.heap.size w W1 := by
  rw [hW1]
  repeat first | exact Below.refl _ _ | (refine Below.alloc ?_ (by simp <;> omega) _) | (refine Below.setCell ?_ (by simp <;> omega) _)
 refine Za4 (fun _ _ h => h) rfl rfl rfl (by decide) (by show 6 < 7; decide) rfl under rfl (info _) (one _) (Zag hB) (Zar hD _) ?_
 intro wS hBut
 exact ⟨rfl, hlw.trans (hBut.below.mono (by omega))⟩
theorem ZdV {n : Nat} (_hn : n < 256) : cs (limb (2 ^ n)) = cs (fun i => if i = n / 64 then 2 ^ (n % 64) else 0) := by
 refine Zbe (fun j hj => ?_)
 unfold limb
 have e : (2 : Nat) ^ n = 2 ^ (n % 64) * 18446744073709551616 ^ (n / 64) := by
  rw [show (18446744073709551616 : Nat) = 2 ^ 64 by decide, ← Nat.pow_mul, ← Nat.pow_add, Nat.mod_add_div]
 have hl : 2 ^ (n % 64) < 18446744073709551616 := Nat.lt_of_lt_of_le (Nat.pow_lt_pow_right (by decide) (Nat.mod_lt n (by decide))) (by decide : 2 ^ 64 ≤ 18446744073709551616)
 by_cases h : j = n / 64
 ·
  subst h
  rw [if_pos rfl, e, Nat.mul_div_cancel _ (Nat.pow_pos (by decide)), Nat.mod_eq_of_lt hl]
 ·
  rw [if_neg h]
  rcases Nat.lt_or_gt_of_ne h with h1 | h1
  ·
   have : n / 64 = (n / 64 - j - 1) + 1 + j := by omega
   rw [e, this, Nat.pow_add _ _ j, ← Nat.mul_assoc, Nat.mul_div_cancel _ (Nat.pow_pos (by decide)), Nat.pow_succ, ← Nat.mul_assoc, Nat.mul_mod_left]
  ·
   rw [Nat.div_eq_of_lt]
   rw [e]
   refine Nat.lt_of_lt_of_le (Nat.mul_lt_mul_of_pos_right hl (Nat.pow_pos (by decide))) ?_
   rw [Nat.mul_comm, ← Nat.pow_succ]
   exact Nat.pow_le_pow_right (by decide) h1
theorem ZgB (n : Nat) (hn : n < 256) (w : World) : Calls Tryz.prog 152 #[.int .i64 n] w fun e w' => e = .returned (wv (2 ^ n)) ∧ Below w.heap.size w w' := by
 unfold wv
 rw [ZdV hn]
 have hq : n / 64 < 4 := by omega
 have HQ := hideP hq
 have e1 : ((n : Int)).tdiv 64 = ((n / 64 : Nat) : Int) := by rw [Int.tdiv_eq_ediv_of_nonneg (by omega)]; omega
 have e1' : IntKind.i64.wrap ((n / 64 : Nat) : Int) = ((n / 64 : Nat) : Int) := by rw [IntKind.wrap_i64]; omega
 have e2 : ((n : Int)).tmod 64 = ((n % 64 : Nat) : Int) := by rw [Int.tmod_eq_emod_of_nonneg (by omega)]; omega
 have e2' : IntKind.i64.wrap ((n % 64 : Nat) : Int) = ((n % 64 : Nat) : Int) := by rw [IntKind.wrap_i64]; omega
 have g1 : ((n / 64 : Nat) : Int) < 4 := by omega
 have g2 : ((n % 64 : Nat) : Int) < 64 := by omega
 have hl : 2 ^ (n % 64) < 18446744073709551616 := Nat.lt_of_lt_of_le (Nat.pow_lt_pow_right (by decide) (Nat.mod_lt n (by decide))) (by decide : 2 ^ 64 ≤ 18446744073709551616)
 have e3 : IntKind.u64.wrap ((2 : Int) ^ (n % 64)) = ((2 ^ (n % 64) : Nat) : Int) := by
  have e4 : ((2 : Int) ^ (n % 64)) = ((2 ^ (n % 64) : Nat) : Int) := by simp
  rw [e4, M64.wrapN _ hl]
 generalize 2 ^ (n % 64) = v at *
 clear hl hn hq
 generalize n / 64 = q at *
 generalize n % 64 = r at *
 go_enter Tryz.func152, Tryz.ntmps152
 refine Zae (fun K0 HK0 => ?_)
 go_wp2_with fail
 refine HK0.out _ _ ?_
 refine Zae (fun K1 HK1 => ?_)
 go_wp2_with fail
 refine HK1.out _ _ ?_
 refine Zaj (fun W0 hW0 => ?_)
 have hB0 : W0.heap[w.heap.size + 1]? = some (.cells (cs (fun _ => 0)) 32 (0, 0)) := by
  rw [hW0]
  exact Zat _ _ _
 have hD0 : W0.heap[w.heap.size]? = some (.cells (cs (fun _ => 0)) 32 (0, 0)) := by
  rw [hW0]
  exact (Zah _ _ (by simp)).trans (Zaf _ _)
 have HLW : Hid (Below w.heap.size w W0) := by
  show Below _ _ _
  rw [hW0]
  repeat first | exact Below.refl _ _ | (refine Below.alloc ?_ (by simp <;> omega) _)
 clear hW0
 have cz := Zac hB0 (get _ HQ.out)
 have fr : ∀ o, W0.frozen? ⟨w.heap.size + 1, o, none⟩ = false := fun o => Zap hB0
 have HB0 := hideP hB0
 have HD0 := hideP hD0
 clear hB0 hD0
 refine Zae (fun K2 HK2 => ?_)
 go_wp2_with fail
 refine HK2.out _ _ ?_
 refine Zaj (fun W1 hW1 => ?_)
 have hB : W1.heap[w.heap.size + 1]? = some (.cells (cs (fun i => if i = q then v else 0)) 32 (0, 0)) := by
  rw [hW1]
  have := Zaw (o := q) HB0.out (.int .u64 v)
  rw [set _ v HQ.out] at this
  exact this
 have hD : W1.heap[w.heap.size]? = some (.cells (cs (fun _ => 0)) 32 (0, 0)) := by
  rw [hW1]
  exact (Below.heap_setCell _ _ _ _ (by show w.heap.size ≠ w.heap.size + 1; omega)).trans HD0.out
 have hlw : Below w.heap.size w W1 := by
  rw [hW1]
  exact Below.setCell HLW.out (by simp) _
 refine Za4 (fun _ _ h => h) rfl rfl rfl (by decide) (by show 10 < 11; decide) rfl under rfl (info _) (one _) (Zag hB) (Zar hD _) ?_
 intro wS hBut
 exact ⟨rfl, hlw.trans (hBut.below.mono (by omega))⟩
theorem ZbY (m : Nat) (hm : m < R) (h0 : 0 < m) (w : World) : Calls Tryz.prog 150 #[wv m] w fun e w' => (∃ n : Nat, e = .returned (.int .i64 n) ∧ 1 ≤ n ∧ n ≤ 256 ∧ m < 2 ^ n ∧ 2 ^ (n - 1) ≤ m) ∧ Below w.heap.size w w' := by
 have HM := hideP hm
 have H0 := hideP h0
 clear hm h0
 unfold wv cs
 go_enter Tryz.func150, Tryz.ntmps150
 go_wp2_with fail
 refine Zaj (fun W0 hW0 => ?_)
 have hA : W0.heap[w.heap.size]? = some (.cells (cs (limb m)) 32 (0, 0)) := by
  rw [hW0]
  exact Zaf _ _
 have HBW : Hid (Below w.heap.size w W0) := by
  show Below _ _ _
  rw [hW0]
  repeat first | exact Below.refl _ _ | (refine Below.alloc ?_ (by simp <;> omega) _)
 clear hW0
 have HA := hideP hA
 clear hA
 go_loopw [3] (fun i wr => wr = W0 ∧ ∃ k : Nat, k ≤ 4 ∧ i = .int .i64 ((k : Int) - 1) ∧ ∀ j, k ≤ j → j < 4 → limb m j = 0) (fun i _ => ((intOf i) + 1).toNat)
 case atStart => exact ⟨rfl, 4, Nat.le_refl _, rfl, fun j h1 h2 => absurd h2 (by omega)⟩
 case round =>
  obtain ⟨rfl, k, hk, rfl, hz⟩ := hrel
  by_cases hk0 : k = 0
  ·
   exfalso
   subst hk0
   have h1 : m < 18446744073709551616 ^ 0 := ZbL (m := 4) (by rw [← R_eq]; exact HM.out) 4 0 (by omega) hz
   have := H0.out
   simp at h1
   omega
  ·
   obtain ⟨j, rfl⟩ : ∃ j, k = j + 1 := ⟨k - 1, by omega⟩
   have hj : j < 4 := by omega
   have cj := Zac HA.out (get (limb m) hj)
   have ei : ((j + 1 : Nat) : Int) - 1 = (j : Int) := by omega
   rw [ei]
   have g1 : (j : Int) < 4 := by omega
   have g0 : (0 : Int) ≤ j := by omega
   by_cases hn : limb m j = 0
   ·
    have hn' : ((limb m j : Nat) : Int) = 0 := by omega
    have e4 : IntKind.i64.wrap ((j : Int) - 1) = (j : Int) - 1 := by rw [IntKind.wrap_i64]; omega
    have HZ : Hid (∀ i, j ≤ i → i < 4 → limb m i = 0) := fun i h1 h2 => by
     by_cases e : i = j
     ·
      rw [e]; exact hn
     ·
      exact hz i (by omega) h2
    have HJ := hideP hj
    clear hz hn hk hk0 hj
    go_wp2_with fail
    exact ⟨⟨trivial, j, Nat.le_of_lt HJ.out, rfl, HZ.out⟩, by simp [intOf] <;> omega⟩
   ·
    have hl := Zaz m j
    obtain ⟨p1, p2⟩ := ZcR (x := limb m j) (by omega) hl
    have ht : m < 18446744073709551616 ^ (j + 1) := ZbL (m := 4) (by rw [← R_eq]; exact HM.out) (4 - (j + 1)) (j + 1) (by omega) hz
    have HRR : Hid (1 ≤ 64 * j + Lib.bitLen (limb m j) ∧ 64 * j + Lib.bitLen (limb m j) ≤ 256 ∧ m < 2 ^ (64 * j + Lib.bitLen (limb m j)) ∧ 2 ^ (64 * j + Lib.bitLen (limb m j) - 1) ≤ m) := ⟨by omega, by omega, Zif ht, Zig hn⟩
    have HLEN := hideP (fun W => ZfA (limb m j) W hl)
    generalize Lib.bitLen (limb m j) = bl at HRR HLEN p1 p2
    have hn' : ¬ (((limb m j : Nat) : Int) = 0) := by omega
    have e1 : IntKind.i64.wrap (64 * (j : Int)) = 64 * (j : Int) := by rw [IntKind.wrap_i64]; omega
    have e2 : IntKind.i64.wrap (64 * (j : Int) + bl) = 64 * (j : Int) + bl := by rw [IntKind.wrap_i64]; omega
    clear hz hn hl ht hk hk0 hj p1 p2
    go_wp2_with (go_at_call 218; refine (HLEN.out _).mono ?_; rintro e w' ⟨rfl, rfl⟩)
    go_ret
    exact ⟨⟨64 * j + bl, by simp, HRR.out⟩, HBW.out⟩
end Go.Proofs.YtcbdbnfgnonacaaGreat.W4
namespace Go.Proofs.YtcbdbnfgnonacaaGreat
open Go.RowKit Go.Shelf
theorem Zhy (n : Nat) (hn : n % 2 = 1) : ((1 - (n : Int)) ^ (2 ^ 6)) % 18446744073709551616 = 0 := by
 obtain ⟨k, hk⟩ : ∃ k : Int, 1 - (n : Int) = 2 * k := ⟨(1 - (n : Int)) / 2, by omega⟩
 rw [hk, Int.mul_pow]
 have e : (2 : Int) ^ (2 ^ 6) = 18446744073709551616 := by decide
 rw [e]
 exact Int.mul_emod_right _ _
theorem ZiS (n x : Nat) (h : (1 - (n : Int) * (x : Int)) % 18446744073709551616 = 0) : n * x % 18446744073709551616 = 1 := by
 have e : ((n : Int) * (x : Int)) = ((n * x : Nat) : Int) := (Int.natCast_mul n x).symm
 rw [e] at h
 omega
theorem ZlG (a b K : Int) : (a * (b % K)) % K = (a * b) % K := by rw [Int.mul_emod, Int.emod_emod, ← Int.mul_emod]
theorem sub_em (a b K : Int) : (a - b % K) % K = (a - b) % K := by rw [Int.sub_emod, Int.emod_emod, ← Int.sub_emod]
theorem Zhz (n x : Nat) (d : Int) (h : (1 - (n : Int) * (x : Int)) % 18446744073709551616 = d % 18446744073709551616) : ∃ y : Nat, y < 18446744073709551616 ∧
  IntKind.u64.wrap ((x : Int) * IntKind.u64.wrap (2 - IntKind.u64.wrap ((n : Int) * (x : Int)))) = (y : Int) ∧ (1 - (n : Int) * (y : Int)) % 18446744073709551616 = (d * d) % 18446744073709551616 := by
 refine ⟨(((x : Int) * (2 - (n : Int) * (x : Int))) % 18446744073709551616).toNat, by omega, ?_, ?_⟩
 ·
  have h0 : (0 : Int) ≤ ((x : Int) * (2 - (n : Int) * (x : Int))) % 18446744073709551616 := Int.emod_nonneg _ (by decide)
  rw [Int.toNat_of_nonneg h0]
  simp only [IntKind.wrap_u64]
  rw [ZlG, Int.mul_emod, sub_em, ← Int.mul_emod]
 ·
  have h0 : (0 : Int) ≤ ((x : Int) * (2 - (n : Int) * (x : Int))) % 18446744073709551616 := Int.emod_nonneg _ (by decide)
  rw [Int.toNat_of_nonneg h0, ← MN.inv_step n x d _ h, Int.sub_emod, ZlG, ← Int.sub_emod]
theorem ZdW (n : Nat) (hn : n % 2 = 1) (w : World) : Calls Tryz.prog 149 #[.int .u64 n] w fun e w' => (∃ x : Nat, e = .returned (.int .u64 x) ∧ x < 18446744073709551616 ∧ n * x % 18446744073709551616 = 1) ∧ w = w' := by
 have HN := hideP hn
 clear hn
 go_enter Tryz.func149, Tryz.ntmps149
 go_wp2_with fail
 go_loopw [3, 4] (fun v i wr => wr = w ∧ ∃ k x : Nat, k ≤ 6 ∧ i = .int .i64 k ∧ v = .int .u64 x ∧ x < 18446744073709551616 ∧ (1 - (n : Int) * (x : Int)) % 18446744073709551616 = ((1 - (n : Int)) ^ (2 ^ k)) % 18446744073709551616) (fun _ i _ => 6 - (intOf i).toNat)
 case atStart => exact ⟨rfl, 0, 1, by omega, rfl, rfl, by decide, by rw [show 2 ^ 0 = 1 from rfl, Int.pow_succ, Int.pow_zero]; simp⟩
 case round =>
  obtain ⟨rfl, k, x, hk, rfl, rfl, hx, hd⟩ := hrel
  by_cases hlt : k < 6
  ·
   obtain ⟨y, hy, e1, e2⟩ := Zhz n x _ hd
   rw [← Int.pow_add, ← Nat.two_mul, Nat.mul_comm 2, ← Nat.pow_succ] at e2
   have HY : Hid (y < 18446744073709551616 ∧ (1 - (n : Int) * (y : Int)) % 18446744073709551616 = ((1 - (n : Int)) ^ (2 ^ (k + 1))) % 18446744073709551616) := ⟨hy, e2⟩
   have hlt' : (k : Int) < 6 := by omega
   have e4 : IntKind.i64.wrap ((k : Int) + 1) = (k : Int) + 1 := by rw [IntKind.wrap_i64]; omega
   have HKS : Hid (k + 1 ≤ 6) := hlt
   clear hk hlt hx hd hy e2
   go_wp2_with fail
   exact ⟨⟨trivial, k + 1, y, HKS.out, by go_num, rfl, HY.out.1, HY.out.2⟩, by have := HKS.out; simp [intOf]; omega⟩
  ·
   have hkn : k = 6 := by omega
   have hnl : ¬ (k : Int) < 6 := by omega
   rw [hkn, Zhy n HN.out] at hd
   have HD : Hid (x < 18446744073709551616 ∧ n * x % 18446744073709551616 = 1) := ⟨hx, ZiS n x hd⟩
   clear hk hlt hx hd hkn
   go_wp2
   go_ret
   exact ⟨⟨x, rfl, HD.out⟩, rfl⟩
end Go.Proofs.YtcbdbnfgnonacaaGreat
