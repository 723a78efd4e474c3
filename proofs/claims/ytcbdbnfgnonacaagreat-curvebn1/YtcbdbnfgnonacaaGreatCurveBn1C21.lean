/-
 The document's times over a prime field.
-/
import Derived.Test.YtcbdbnfgnonacaaGreatCurveBn1C20
namespace Go.Proofs.YtcbdbnfgnonacaaGreat
open Go.RowKit Go.Shelf
open P4 (dJ dSt dOut dTimes)
theorem ZjM (m u v k T j : Nat) : dJ m u v k T (j + 1) = dSt m u v (decide (k / 2 ^ (T - 1 - j) % 2 = 1)) (dJ m u v k T j) := rfl
set_option maxHeartbeats 8000000 in
set_option maxRecDepth 100000 in
theorem Zhd {n M B R bx by_ ne : Nat} (hn : 2 ≤ n) (hM : FM n M) (hB3 : B < M ∧ bx < M ∧ by_ < M) (hne : ne ≤ 8) (w : World) (cv pv kv : Value) (px py : Nat) (hpx : px < M) (hpy : py < M) (k : Nat) (hC : DCv w cv n M B R bx by_) (hP : QD w pv n px py false) (hK : LW w kv ne (limb k)) :
  Calls Tryz.prog 116 #[cv, pv, kv] w fun r w' => (∃ u, r = .returned u ∧ QD w' u n (dOut M (dJ M px py k (64 * ne) (64 * ne))).1 (dOut M (dJ M px py k (64 * ne) (64 * ne))).2.1 (dOut M (dJ M px py k (64 * ne) (64 * ne))).2.2) ∧ Below w.heap.size w w' := by
 have HCV := hideP hC
 have HM := hideP hM
 have HPV := hideP hP
 have HNN := hideP (And.intro hn (And.intro hne (And.intro hpx hpy)))
 have HB3 := hideP hB3
 have ew2 : IntKind.i64.wrap ((ne : Int) - 1) = (ne : Int) - 1 := by rw [IntKind.wrap_i64]; omega
 obtain ⟨gk, ok, ck, rfl, -, -, hgk, hck⟩ := hK.ex
 have HCK := hideP (And.intro hgk hck)
 obtain ⟨mv, fo, tv, b, r, x, y, rfl, hF, h2, h3, h4, h5⟩ := hC.ex
 obtain ⟨pa, pb, rfl, hpa, hpb⟩ := hP.ex
 have HPA := hideP hpa
 have HPB := hideP hpb
 obtain ⟨gx, ox, cx, ux, rfl, -, -, -, -⟩ := hpa.one
 obtain ⟨gy, oy, cy, uy, rfl, -, -, -, -⟩ := hpb.one
 have HCF : Hid (CF w (.agg #[mv, .int .u64 fo, tv, .int .i64 1, b, r, x, y, .bool false]) n M 1) := by
  obtain ⟨mv', fo', tv', e, h6, h7, h8⟩ := hF.ex
  cases e
  exact ⟨mv, fo, tv, b, r, x, y, .bool false, rfl, hF, h6⟩
 clear hC hP hF h2 h3 h4 h5 hpa hpb hM hK hgk hck hn hne hpx hpy hB3
 go_enter Tryz.func116, Tryz.ntmps116
 refine Zae (fun K0 HK0 => ?_)
 go_wp2_with fail
 refine HK0.out _ _ ?_
 refine Zaj (fun W0 hW0 => ?_)
 have hB0 : W0.heap[w.heap.size]? = some (.cells #[mv, .int .u64 fo, tv, .int .i64 1, b, r, x, y, .bool false] 44 (0, 0)) := by
  rw [hW0, Zah _ _ (by rw [World.size_alloc, World.size_alloc]; omega), Zah _ _ (by rw [World.size_alloc]; omega)]
  exact Zaf _ _
 have hB1 : W0.heap[w.heap.size + 1]? = some (.cells #[.slice (some ⟨gx, ox, none⟩) 1 cx, .slice (some ⟨gy, oy, none⟩) 1 cy, .bool false] 42 (0, 0)) := by
  rw [hW0, Zah _ _ (by rw [World.size_alloc, World.size_alloc]; omega)]
  exact Zat _ _ _
 have hB2 : W0.heap[w.heap.size + 1 + 1]? = some (.cells #[.slice none 0 0, .slice none 0 0, .bool false] 42 (0, 0)) := by
  rw [hW0]
  exact ZaG _ _ _ _
 have HBW : Hid (Below w.heap.size w W0) := by
  show Below _ _ _
  rw [hW0]
  repeat first | exact Below.refl _ _ | (refine Below.alloc ?_ (by simp <;> omega) _)
 have HB0 := hideP hB0
 have HB1 := hideP hB1
 have HB2 := hideP hB2
 have hl0 := Zab hB0
 have hl1 := Zab hB1
 have q0 : W0.cell? ⟨w.heap.size + 1, 0, none⟩ = some _ := Zac hB1 rfl
 have q1 : W0.cell? ⟨w.heap.size + 1, 1, none⟩ = some _ := Zac hB1 rfl
 have q2 : W0.cell? ⟨w.heap.size + 1, 2, none⟩ = some _ := Zac hB1 rfl
 have p0 : W0.cell? ⟨w.heap.size, 0, none⟩ = some _ := Zac hB0 rfl
 have p1 : W0.cell? ⟨w.heap.size, 1, none⟩ = some _ := Zac hB0 rfl
 have p2 : W0.cell? ⟨w.heap.size, 2, none⟩ = some _ := Zac hB0 rfl
 have p3 : W0.cell? ⟨w.heap.size, 3, none⟩ = some _ := Zac hB0 rfl
 have p4 : W0.cell? ⟨w.heap.size, 4, none⟩ = some _ := Zac hB0 rfl
 have p5 : W0.cell? ⟨w.heap.size, 5, none⟩ = some _ := Zac hB0 rfl
 have p6 : W0.cell? ⟨w.heap.size, 6, none⟩ = some _ := Zac hB0 rfl
 have p7 : W0.cell? ⟨w.heap.size, 7, none⟩ = some _ := Zac hB0 rfl
 have p8 : W0.cell? ⟨w.heap.size, 8, none⟩ = some _ := Zac hB0 rfl
 clear hW0 hB0 hB1 hB2
 refine Zae (fun K1 HK1 => ?_)
 go_wp2_with fail
 refine HK1.out _ _ ?_
 clear HK1
 refine Zae (fun K2 HK2 => ?_)
 have HREST : Hid (∀ (z gn cn : Nat) (W : World), Below W0.heap.size W0 W → W0.heap.size ≤ z → W.heap[z]? = some (.cells #[.slice (some ⟨gx, ox, none⟩) 1 cx, .slice (some ⟨gy, oy, none⟩) 1 cy, .slice (some ⟨gn, 0, none⟩) 1 cn] 283 (0, 0)) → LL W (.slice (some ⟨gn, 0, none⟩) 1 cn) n [0] → K2 { tmps := ((.agg #[mv, .int .u64 fo, tv, .int .i64 1, b, r, x, y, .bool false] : Value) :: (.agg #[.slice (some ⟨gx, ox, none⟩) 1 cx, .slice (some ⟨gy, oy, none⟩) 1 cy, .bool false]) :: (.slice (some ⟨gk, ok, none⟩) ne ck) :: (.pointer (some ⟨w.heap.size, 0, none⟩)) :: (.pointer (some ⟨w.heap.size + 1, 0, none⟩)) :: (undef) :: (.pointer (some ⟨w.heap.size + 1 + 1, 0, none⟩)) :: (.pointer (some ⟨z, 0, none⟩)) :: (undef) :: (undef) :: (undef) :: (undef) :: (.pointer (some ⟨w.heap.size + 1, 2, none⟩)) :: (.bool false) :: (undef) :: (.pointer (some ⟨w.heap.size + 1, 0, none⟩)) :: (.slice (some ⟨gx, ox, none⟩) 1 cx) :: (.pointer (some ⟨w.heap.size + 1, 1, none⟩)) :: (.slice (some ⟨gy, oy, none⟩) 1 cy) :: (.agg #[mv, .int .u64 fo, tv, .int .i64 1, b, r, x, y, .bool false]) :: (.slice (some ⟨gn, 0, none⟩) 1 cn) :: (.agg #[.slice (some ⟨gx, ox, none⟩) 1 cx, .slice (some ⟨gy, oy, none⟩) 1 cy, .slice (some ⟨gn, 0, none⟩) 1 cn]) :: (undef) :: (undef) :: (undef) :: (undef) :: (undef) :: (undef) :: (undef) :: (undef) :: (undef) :: (undef) :: (undef) :: (undef) :: (undef) :: (undef) :: (undef) :: (undef) :: (undef) :: (undef) :: (undef) :: (undef) :: (undef) :: (undef) :: (undef) :: (undef) :: (undef) :: (undef) :: (undef) :: (undef) :: (undef) :: (undef) :: (undef) :: (undef) :: (undef) :: (undef) :: (undef) :: (undef) :: (undef) :: (undef) :: (undef) :: (undef) :: (undef) :: (undef) :: (undef) :: (undef) :: (undef) :: (undef) :: (undef) :: (undef) :: (undef) :: (undef) :: (undef) :: (undef) :: (undef) :: (undef) :: (undef) :: (undef) :: (undef) :: (undef) :: []).toArray, defers := [] } W) := by
  show ∀ (z gn cn : Nat) (W : World), _
  intro z gn cn W hW hz hrow hnone
  refine HK2.out _ _ ?_
  clear HK2
  have hbw := HBW.out.trans (hW.mono HBW.out.size)
  have HT0 : Hid (TmS w W z n M #[mv, .int .u64 fo, tv, .int .i64 1, b, r, x, y, .bool false] #[.slice (some ⟨gx, ox, none⟩) 1 cx, .slice (some ⟨gy, oy, none⟩) 1 cy, .bool false] (px, py, 0)) :=
   ⟨hbw, (hW.block _ hl0).trans HB0.out, (hW.block _ hl1).trans HB1.out, (hW.block _ (Zab HB2.out)).trans HB2.out, by have := Zab HB2.out; omega, ⟨HNN.out.2.2.1, HNN.out.2.2.2, HM.out.pos⟩, _, _, _, hrow, _, _, _, rfl, HPA.out.moved hbw, HPB.out.moved hbw, hnone⟩
  clear hW hz hrow hnone hbw q0 q1 q2 p0 p1 p2 p3 p4 p5 p6 p7 p8 hl0 hl1
  refine Zae (fun Ka HKa => ?_)
  go_wp2_with fail
  go_loopw [8] (fun i wr => ∃ t : Nat, t ≤ ne ∧ i = .int .i64 ((t : Int) - 1) ∧ Hid (TmS w wr z n M #[mv, .int .u64 fo, tv, .int .i64 1, b, r, x, y, .bool false] #[.slice (some ⟨gx, ox, none⟩) 1 cx, .slice (some ⟨gy, oy, none⟩) 1 cy, .bool false] (dJ M px py k (64 * ne) (64 * (ne - t))))) (fun i _ => (intOf i + 1).toNat)
  case atStart => exact ⟨ne, Nat.le_refl _, rfl, by rw [Nat.sub_self]; exact HT0.out⟩
  case round =>
   obtain ⟨t, ht, rfl, HT⟩ := hrel
   by_cases hz : 0 < t
   ·
    obtain ⟨k1, rfl⟩ : ∃ k1, t = k1 + 1 := ⟨t - 1, by omega⟩
    have e1 : ((k1 + 1 : Nat) : Int) - 1 = (k1 : Int) := by omega
    have hne := HNN.out.2.1
    have e2 : IntKind.i64.wrap ((k1 : Int) - 1) = (k1 : Int) - 1 := by rw [IntKind.wrap_i64]; omega
    have HK1 : Hid (k1 < ne) := ht
    have g3 : (k1 : Int) < ne := by omega
    rw [e1]
    clear ht hz e1 hne
    go_wp2_with fail
    go_loopw [9] (fun kk wq => ∃ j : Nat, j ≤ 64 ∧ kk = .int .i64 ((j : Int) - 1) ∧ Hid (TmS w wq z n M #[mv, .int .u64 fo, tv, .int .i64 1, b, r, x, y, .bool false] #[.slice (some ⟨gx, ox, none⟩) 1 cx, .slice (some ⟨gy, oy, none⟩) 1 cy, .bool false] (dJ M px py k (64 * ne) (64 * (ne - (k1 + 1)) + (64 - j))))) (fun kk _ => (intOf kk + 1).toNat)
    case atStart => exact ⟨64, Nat.le_refl _, rfl, by rw [Nat.sub_self, Nat.add_zero]; exact HT⟩
    case round =>
     obtain ⟨j, hj, rfl, HQ⟩ := hrel
     by_cases hz : 0 < j
     ·
      obtain ⟨j1, rfl⟩ : ∃ j1, j = j1 + 1 := ⟨j - 1, by omega⟩
      have e1 : ((j1 + 1 : Nat) : Int) - 1 = (j1 : Int) := by omega
      have e3 : IntKind.i64.wrap ((j1 : Int) - 1) = (j1 : Int) - 1 := by rw [IntKind.wrap_i64]; omega
      have e5 : IntKind.u64.wrap (j1 : Int) = (j1 : Int) := by rw [IntKind.wrap_u64]; omega
      have g4 : (j1 : Int) < 64 := by omega
      have HJS : Hid (j1 ≤ 64) := by show j1 ≤ 64; omega
      have hk1 := HK1.out
      have hlx := Zaz k k1
      have hdl : limb k k1 / 2 ^ j1 < 18446744073709551616 := Nat.lt_of_le_of_lt (Nat.div_le_self _ _) hlx
      have hand : bits .and .u64 ((limb k k1 : Int) / 2 ^ j1) 1 = ((limb k k1 / 2 ^ j1 % 2 : Nat) : Int) := by
       rw [← ZdA _ hdl]
       congr 1
      have HST : Hid (dJ M px py k (64 * ne) (64 * (ne - (k1 + 1)) + (64 - j1)) = dSt M px py (decide (limb k k1 / 2 ^ j1 % 2 = 1)) (dJ M px py k (64 * ne) (64 * (ne - (k1 + 1)) + (64 - (j1 + 1))))) := by
       show _ = _
       rw [Zip k k1 j1 (by omega), show 64 * (ne - (k1 + 1)) + (64 - j1) = 64 * (ne - (k1 + 1)) + (64 - (j1 + 1)) + 1 by omega, ZjM, show 64 * ne - 1 - (64 * (ne - (k1 + 1)) + (64 - (j1 + 1))) = 64 * k1 + j1 by omega]
      have hb01 : limb k k1 / 2 ^ j1 % 2 = 0 ∨ limb k k1 / 2 ^ j1 % 2 = 1 := by omega
      have hcl := HCK.out.2 k1 hk1
      have HKC : Hid (gk < w.heap.size ∧ w.cell? ⟨gk, ok + k1, none⟩ = some (.int .u64 (limb k k1))) := ⟨HCK.out.1, hcl⟩
      rw [e1]
      clear hj hz e1 hk1 hdl hlx hcl
      generalize dJ M px py k (64 * ne) (64 * (ne - (k1 + 1)) + (64 - (j1 + 1))) = d at *
      generalize limb k k1 / 2 ^ j1 % 2 = bt at *
      generalize limb k k1 = lv at *
      obtain ⟨a0, b0, c0, hz0, hJ0⟩ := HQ.out.ex
      have HZ := hideP hz0
      have HJ0 := hideP hJ0
      have cz2 : wr.cell? ⟨z, 2, none⟩ = some c0 := Zac hz0 rfl
      clear hz0 hJ0
      have C0 := hideP (Zgi HNN.out.1 HM.out HQ.out.lt.2.2 wr c0 HJ0.out.cells.2.2)
      by_cases hd : d.2.2 = 0
      ·
       rw [decide_eq_true hd] at C0
       have HD := hideP hd
       clear hd
       go_wp2_with fail
       refine C0.out.mono ?_
       rintro e w1 ⟨rfl, hb1⟩
       have HT1 := hideP (HQ.out.moved hb1)
       have HJ1 := hideP (HJ0.out.moved hb1)
       have hrc := HT1.out.rc
       have cB0 : w1.cell? ⟨w.heap.size, 0, none⟩ = some _ := Zac hrc rfl
       have cB1 : w1.cell? ⟨w.heap.size, 1, none⟩ = some _ := Zac hrc rfl
       have cB2 : w1.cell? ⟨w.heap.size, 2, none⟩ = some _ := Zac hrc rfl
       have cB3 : w1.cell? ⟨w.heap.size, 3, none⟩ = some _ := Zac hrc rfl
       have cB4 : w1.cell? ⟨w.heap.size, 4, none⟩ = some _ := Zac hrc rfl
       have cB5 : w1.cell? ⟨w.heap.size, 5, none⟩ = some _ := Zac hrc rfl
       have cB6 : w1.cell? ⟨w.heap.size, 6, none⟩ = some _ := Zac hrc rfl
       have cB7 : w1.cell? ⟨w.heap.size, 7, none⟩ = some _ := Zac hrc rfl
       have cB8 : w1.cell? ⟨w.heap.size, 8, none⟩ = some _ := Zac hrc rfl
       have hrp := HT1.out.rp
       have p0 : w1.cell? ⟨w.heap.size + 1, 0, none⟩ = some _ := Zac hrp rfl
       have p1 : w1.cell? ⟨w.heap.size + 1, 1, none⟩ = some _ := Zac hrp rfl
       have p2 : w1.cell? ⟨w.heap.size + 1, 2, none⟩ = some _ := Zac hrp rfl
       have hz1 := (hb1.block _ (Zab HZ.out)).trans HZ.out
       have z0 : w1.cell? ⟨z, 0, none⟩ = some a0 := Zac hz1 rfl
       have z1 : w1.cell? ⟨z, 1, none⟩ = some b0 := Zac hz1 rfl
       have z2 : w1.cell? ⟨z, 2, none⟩ = some c0 := Zac hz1 rfl
       have HZ1 := hideP hz1
       have ck1 : w1.cell? ⟨gk, ok + k1, none⟩ = some (.int .u64 lv) := (HT1.out.below.cell (p := ⟨gk, ok + k1, none⟩) HKC.out.1).trans HKC.out.2
       clear hb1 hrc hrp hz1
       clear C0 cz2
       rcases hb01 with rfl | rfl
       ·
        go_wp2_with fail
        refine ⟨⟨j1, HJS.out, by go_num, ?_⟩, ?_⟩
        ·
         rw [HST.out]
         unfold dSt
         rw [if_neg (by decide), if_pos HD.out]
         exact HT1
        ·
         simp [intOf] <;> omega
       ·
        have C2 := hideP (Zgc HNN.out.1 HM.out HB3.out HT1.out.lt ⟨HNN.out.2.2.1, HNN.out.2.2.2⟩ (HCV.out.moved HT1.out.below) HJ1.out (HPV.out.moved HT1.out.below))
        go_wp2_with fail
        refine C2.out.mono ?_
        rintro e w2 ⟨⟨u, rfl, hJ⟩, hb2⟩
        have HB2 := hideP hb2
        have HJ2 := hideP hJ
        obtain ⟨a2, b2, c2, rfl, hl2⟩ := hJ.ex
        have hz2 := (hb2.block _ (Zab HZ1.out)).trans HZ1.out
        have y0 : w2.cell? ⟨z, 0, none⟩ = some _ := Zac hz2 rfl
        have y1 : w2.cell? ⟨z, 1, none⟩ = some _ := Zac hz2 rfl
        have y2 : w2.cell? ⟨z, 2, none⟩ = some _ := Zac hz2 rfl
        have fr : ∀ o, w2.frozen? ⟨z, o, none⟩ = false := fun o => Zap hz2
        obtain ⟨ha2, hb2', hc2⟩ := hJ.cells
        have o0 := ha2.oneC
        have o1 := hb2'.oneC
        have o2 := hc2.oneC
        obtain ⟨ga2, oa2, ca2, rfl, -⟩ := ha2.ex
        obtain ⟨gb2, ob2, cb2, rfl, -⟩ := hb2'.ex
        obtain ⟨gc2, oc2, cc2, rfl, -⟩ := hc2.ex
        clear hJ hl2 hz2 hb2 ha2 hb2' hc2 cB0 cB1 cB2 cB3 cB4 cB5 cB6 cB7 cB8 p0 p1 p2 z0 z1 z2 ck1
        clear C2
        go_wp2_with fail
        refine ⟨⟨j1, HJS.out, by go_num, ?_⟩, ?_⟩
        ·
         rw [HST.out]
         unfold dSt
         rw [if_pos (by decide), if_pos HD.out]
         exact (HT1.out.moved HB2.out).put HNN.out.1 HJ2.out (Zmc (by have := HM.out.ge; omega) HNN.out.2.2.1 HNN.out.2.2.2 HT1.out.lt)
        ·
         simp [intOf] <;> omega
      ·
       rw [decide_eq_false hd] at C0
       have HD := hideP hd
       clear hd
       go_wp2_with fail
       refine C0.out.mono ?_
       rintro e w1 ⟨rfl, hb1⟩
       have HT1 := hideP (HQ.out.moved hb1)
       have HJ1 := hideP (HJ0.out.moved hb1)
       have hrc := HT1.out.rc
       have cB0 : w1.cell? ⟨w.heap.size, 0, none⟩ = some _ := Zac hrc rfl
       have cB1 : w1.cell? ⟨w.heap.size, 1, none⟩ = some _ := Zac hrc rfl
       have cB2 : w1.cell? ⟨w.heap.size, 2, none⟩ = some _ := Zac hrc rfl
       have cB3 : w1.cell? ⟨w.heap.size, 3, none⟩ = some _ := Zac hrc rfl
       have cB4 : w1.cell? ⟨w.heap.size, 4, none⟩ = some _ := Zac hrc rfl
       have cB5 : w1.cell? ⟨w.heap.size, 5, none⟩ = some _ := Zac hrc rfl
       have cB6 : w1.cell? ⟨w.heap.size, 6, none⟩ = some _ := Zac hrc rfl
       have cB7 : w1.cell? ⟨w.heap.size, 7, none⟩ = some _ := Zac hrc rfl
       have cB8 : w1.cell? ⟨w.heap.size, 8, none⟩ = some _ := Zac hrc rfl
       have hrp := HT1.out.rp
       have p0 : w1.cell? ⟨w.heap.size + 1, 0, none⟩ = some _ := Zac hrp rfl
       have p1 : w1.cell? ⟨w.heap.size + 1, 1, none⟩ = some _ := Zac hrp rfl
       have p2 : w1.cell? ⟨w.heap.size + 1, 2, none⟩ = some _ := Zac hrp rfl
       have hz1 := (hb1.block _ (Zab HZ.out)).trans HZ.out
       have z0 : w1.cell? ⟨z, 0, none⟩ = some a0 := Zac hz1 rfl
       have z1 : w1.cell? ⟨z, 1, none⟩ = some b0 := Zac hz1 rfl
       have z2 : w1.cell? ⟨z, 2, none⟩ = some c0 := Zac hz1 rfl
       have HZ1 := hideP hz1
       have ck1 : w1.cell? ⟨gk, ok + k1, none⟩ = some (.int .u64 lv) := (HT1.out.below.cell (p := ⟨gk, ok + k1, none⟩) HKC.out.1).trans HKC.out.2
       clear hb1 hrc hrp hz1
       clear C0 cz2
       have C1 := hideP (ZhT HNN.out.1 HM.out HB3.out HT1.out.lt (HCV.out.moved HT1.out.below) HJ1.out)
       go_wp2_with fail
       refine C1.out.mono ?_
       rintro e wt ⟨⟨u, rfl, hJ⟩, hbt⟩
       have HB2 := hideP hbt
       have HJ2 := hideP hJ
       obtain ⟨a2, b2, c2, rfl, hl2⟩ := hJ.ex
       have hz2 := (hbt.block _ (Zab HZ1.out)).trans HZ1.out
       have y0 : wt.cell? ⟨z, 0, none⟩ = some _ := Zac hz2 rfl
       have y1 : wt.cell? ⟨z, 1, none⟩ = some _ := Zac hz2 rfl
       have y2 : wt.cell? ⟨z, 2, none⟩ = some _ := Zac hz2 rfl
       have fr : ∀ o, wt.frozen? ⟨z, o, none⟩ = false := fun o => Zap hz2
       obtain ⟨ha2, hb2', hc2⟩ := hJ.cells
       have o0 := ha2.oneC
       have o1 := hb2'.oneC
       have o2 := hc2.oneC
       obtain ⟨ga2, oa2, ca2, rfl, -⟩ := ha2.ex
       obtain ⟨gb2, ob2, cb2, rfl, -⟩ := hb2'.ex
       obtain ⟨gc2, oc2, cc2, rfl, -⟩ := hc2.ex
       have HTB : Hid (TmS w (((wt.setCell ⟨z, 0, none⟩ (.slice (some ⟨ga2, oa2, none⟩) 1 ca2)).setCell ⟨z, 1, none⟩ (.slice (some ⟨gb2, ob2, none⟩) 1 cb2)).setCell ⟨z, 2, none⟩ (.slice (some ⟨gc2, oc2, none⟩) 1 cc2)) z n M #[mv, .int .u64 fo, tv, .int .i64 1, b, r, x, y, .bool false] #[.slice (some ⟨gx, ox, none⟩) 1 cx, .slice (some ⟨gy, oy, none⟩) 1 cy, .bool false] (dTw M d)) := (HT1.out.moved hbt).put HNN.out.1 hJ (Zmb HM.out.pos HT1.out.lt)
       have HZB : Hid ((((wt.setCell ⟨z, 0, none⟩ (.slice (some ⟨ga2, oa2, none⟩) 1 ca2)).setCell ⟨z, 1, none⟩ (.slice (some ⟨gb2, ob2, none⟩) 1 cb2)).setCell ⟨z, 2, none⟩ (.slice (some ⟨gc2, oc2, none⟩) 1 cc2)).heap[z]? = some (.cells #[.slice (some ⟨ga2, oa2, none⟩) 1 ca2, .slice (some ⟨gb2, ob2, none⟩) 1 cb2, .slice (some ⟨gc2, oc2, none⟩) 1 cc2] 283 (0, 0))) := Zd2 hz2 _ _ _
       have HJB : Hid (JD (((wt.setCell ⟨z, 0, none⟩ (.slice (some ⟨ga2, oa2, none⟩) 1 ca2)).setCell ⟨z, 1, none⟩ (.slice (some ⟨gb2, ob2, none⟩) 1 cb2)).setCell ⟨z, 2, none⟩ (.slice (some ⟨gc2, oc2, none⟩) 1 cc2)) (.agg #[.slice (some ⟨ga2, oa2, none⟩) 1 ca2, .slice (some ⟨gb2, ob2, none⟩) 1 cb2, .slice (some ⟨gc2, oc2, none⟩) 1 cc2]) n (dTw M d)) := by
        obtain ⟨a9, b9, c9, h9, hJ9⟩ := HTB.out.ex
        rw [HZB.out] at h9
        cases h9
        exact hJ9
       clear hJ hl2 hbt ha2 hb2' hc2 cB0 cB1 cB2 cB3 cB4 cB5 cB6 cB7 cB8 p0 p1 p2 z0 z1 z2 ck1 HB2 HJ2
       have hrc := HTB.out.rc
       have d0 : (((wt.setCell ⟨z, 0, none⟩ (.slice (some ⟨ga2, oa2, none⟩) 1 ca2)).setCell ⟨z, 1, none⟩ (.slice (some ⟨gb2, ob2, none⟩) 1 cb2)).setCell ⟨z, 2, none⟩ (.slice (some ⟨gc2, oc2, none⟩) 1 cc2)).cell? ⟨w.heap.size, 0, none⟩ = some _ := Zac hrc rfl
       have d1 : (((wt.setCell ⟨z, 0, none⟩ (.slice (some ⟨ga2, oa2, none⟩) 1 ca2)).setCell ⟨z, 1, none⟩ (.slice (some ⟨gb2, ob2, none⟩) 1 cb2)).setCell ⟨z, 2, none⟩ (.slice (some ⟨gc2, oc2, none⟩) 1 cc2)).cell? ⟨w.heap.size, 1, none⟩ = some _ := Zac hrc rfl
       have d2 : (((wt.setCell ⟨z, 0, none⟩ (.slice (some ⟨ga2, oa2, none⟩) 1 ca2)).setCell ⟨z, 1, none⟩ (.slice (some ⟨gb2, ob2, none⟩) 1 cb2)).setCell ⟨z, 2, none⟩ (.slice (some ⟨gc2, oc2, none⟩) 1 cc2)).cell? ⟨w.heap.size, 2, none⟩ = some _ := Zac hrc rfl
       have d3 : (((wt.setCell ⟨z, 0, none⟩ (.slice (some ⟨ga2, oa2, none⟩) 1 ca2)).setCell ⟨z, 1, none⟩ (.slice (some ⟨gb2, ob2, none⟩) 1 cb2)).setCell ⟨z, 2, none⟩ (.slice (some ⟨gc2, oc2, none⟩) 1 cc2)).cell? ⟨w.heap.size, 3, none⟩ = some _ := Zac hrc rfl
       have d4 : (((wt.setCell ⟨z, 0, none⟩ (.slice (some ⟨ga2, oa2, none⟩) 1 ca2)).setCell ⟨z, 1, none⟩ (.slice (some ⟨gb2, ob2, none⟩) 1 cb2)).setCell ⟨z, 2, none⟩ (.slice (some ⟨gc2, oc2, none⟩) 1 cc2)).cell? ⟨w.heap.size, 4, none⟩ = some _ := Zac hrc rfl
       have d5 : (((wt.setCell ⟨z, 0, none⟩ (.slice (some ⟨ga2, oa2, none⟩) 1 ca2)).setCell ⟨z, 1, none⟩ (.slice (some ⟨gb2, ob2, none⟩) 1 cb2)).setCell ⟨z, 2, none⟩ (.slice (some ⟨gc2, oc2, none⟩) 1 cc2)).cell? ⟨w.heap.size, 5, none⟩ = some _ := Zac hrc rfl
       have d6 : (((wt.setCell ⟨z, 0, none⟩ (.slice (some ⟨ga2, oa2, none⟩) 1 ca2)).setCell ⟨z, 1, none⟩ (.slice (some ⟨gb2, ob2, none⟩) 1 cb2)).setCell ⟨z, 2, none⟩ (.slice (some ⟨gc2, oc2, none⟩) 1 cc2)).cell? ⟨w.heap.size, 6, none⟩ = some _ := Zac hrc rfl
       have d7 : (((wt.setCell ⟨z, 0, none⟩ (.slice (some ⟨ga2, oa2, none⟩) 1 ca2)).setCell ⟨z, 1, none⟩ (.slice (some ⟨gb2, ob2, none⟩) 1 cb2)).setCell ⟨z, 2, none⟩ (.slice (some ⟨gc2, oc2, none⟩) 1 cc2)).cell? ⟨w.heap.size, 7, none⟩ = some _ := Zac hrc rfl
       have d8 : (((wt.setCell ⟨z, 0, none⟩ (.slice (some ⟨ga2, oa2, none⟩) 1 ca2)).setCell ⟨z, 1, none⟩ (.slice (some ⟨gb2, ob2, none⟩) 1 cb2)).setCell ⟨z, 2, none⟩ (.slice (some ⟨gc2, oc2, none⟩) 1 cc2)).cell? ⟨w.heap.size, 8, none⟩ = some _ := Zac hrc rfl
       have hrp := HTB.out.rp
       have p0 : (((wt.setCell ⟨z, 0, none⟩ (.slice (some ⟨ga2, oa2, none⟩) 1 ca2)).setCell ⟨z, 1, none⟩ (.slice (some ⟨gb2, ob2, none⟩) 1 cb2)).setCell ⟨z, 2, none⟩ (.slice (some ⟨gc2, oc2, none⟩) 1 cc2)).cell? ⟨w.heap.size + 1, 0, none⟩ = some _ := Zac hrp rfl
       have p1 : (((wt.setCell ⟨z, 0, none⟩ (.slice (some ⟨ga2, oa2, none⟩) 1 ca2)).setCell ⟨z, 1, none⟩ (.slice (some ⟨gb2, ob2, none⟩) 1 cb2)).setCell ⟨z, 2, none⟩ (.slice (some ⟨gc2, oc2, none⟩) 1 cc2)).cell? ⟨w.heap.size + 1, 1, none⟩ = some _ := Zac hrp rfl
       have p2 : (((wt.setCell ⟨z, 0, none⟩ (.slice (some ⟨ga2, oa2, none⟩) 1 ca2)).setCell ⟨z, 1, none⟩ (.slice (some ⟨gb2, ob2, none⟩) 1 cb2)).setCell ⟨z, 2, none⟩ (.slice (some ⟨gc2, oc2, none⟩) 1 cc2)).cell? ⟨w.heap.size + 1, 2, none⟩ = some _ := Zac hrp rfl
       have z0 : (((wt.setCell ⟨z, 0, none⟩ (.slice (some ⟨ga2, oa2, none⟩) 1 ca2)).setCell ⟨z, 1, none⟩ (.slice (some ⟨gb2, ob2, none⟩) 1 cb2)).setCell ⟨z, 2, none⟩ (.slice (some ⟨gc2, oc2, none⟩) 1 cc2)).cell? ⟨z, 0, none⟩ = some _ := Zac HZB.out rfl
       have z1 : (((wt.setCell ⟨z, 0, none⟩ (.slice (some ⟨ga2, oa2, none⟩) 1 ca2)).setCell ⟨z, 1, none⟩ (.slice (some ⟨gb2, ob2, none⟩) 1 cb2)).setCell ⟨z, 2, none⟩ (.slice (some ⟨gc2, oc2, none⟩) 1 cc2)).cell? ⟨z, 1, none⟩ = some _ := Zac HZB.out rfl
       have z2 : (((wt.setCell ⟨z, 0, none⟩ (.slice (some ⟨ga2, oa2, none⟩) 1 ca2)).setCell ⟨z, 1, none⟩ (.slice (some ⟨gb2, ob2, none⟩) 1 cb2)).setCell ⟨z, 2, none⟩ (.slice (some ⟨gc2, oc2, none⟩) 1 cc2)).cell? ⟨z, 2, none⟩ = some _ := Zac HZB.out rfl
       have ck1 : (((wt.setCell ⟨z, 0, none⟩ (.slice (some ⟨ga2, oa2, none⟩) 1 ca2)).setCell ⟨z, 1, none⟩ (.slice (some ⟨gb2, ob2, none⟩) 1 cb2)).setCell ⟨z, 2, none⟩ (.slice (some ⟨gc2, oc2, none⟩) 1 cc2)).cell? ⟨gk, ok + k1, none⟩ = some (.int .u64 lv) := (HTB.out.below.cell (p := ⟨gk, ok + k1, none⟩) HKC.out.1).trans HKC.out.2
       clear hrc hrp hz2
       clear C1
       rcases hb01 with rfl | rfl
       ·
        go_wp2_with fail
        refine ⟨⟨j1, HJS.out, by go_num, ?_⟩, ?_⟩
        ·
         rw [HST.out]
         unfold dSt
         rw [if_neg (by decide), if_neg HD.out]
         exact HTB
        ·
         simp [intOf] <;> omega
       ·
        have C2 := hideP (Zgc HNN.out.1 HM.out HB3.out HTB.out.lt ⟨HNN.out.2.2.1, HNN.out.2.2.2⟩ (HCV.out.moved HTB.out.below) HJB.out (HPV.out.moved HTB.out.below))
        go_wp2_with fail
        refine C2.out.mono ?_
        rintro e w2 ⟨⟨u, rfl, hJ⟩, hb2⟩
        have HB2 := hideP hb2
        have HJ2 := hideP hJ
        obtain ⟨a3, b3, c3, rfl, hl2⟩ := hJ.ex
        have hz2 := (hb2.block _ (Zab HZB.out)).trans HZB.out
        have y0 : w2.cell? ⟨z, 0, none⟩ = some _ := Zac hz2 rfl
        have y1 : w2.cell? ⟨z, 1, none⟩ = some _ := Zac hz2 rfl
        have y2 : w2.cell? ⟨z, 2, none⟩ = some _ := Zac hz2 rfl
        have fr : ∀ o, w2.frozen? ⟨z, o, none⟩ = false := fun o => Zap hz2
        obtain ⟨ha3, hb2', hc3⟩ := hJ.cells
        have o3 := ha3.oneC
        have o4 := hb2'.oneC
        have o5 := hc3.oneC
        obtain ⟨ga3, oa3, ca3, rfl, -⟩ := ha3.ex
        obtain ⟨gb3, ob3, cb3, rfl, -⟩ := hb2'.ex
        obtain ⟨gc3, oc3, cc3, rfl, -⟩ := hc3.ex
        clear hJ hl2 hz2 hb2
        clear C2
        go_wp2_with fail
        refine ⟨⟨j1, HJS.out, by go_num, ?_⟩, ?_⟩
        ·
         rw [HST.out]
         unfold dSt
         rw [if_pos (by decide), if_neg HD.out]
         exact (HTB.out.moved HB2.out).put HNN.out.1 HJ2.out (Zmc (by have := HM.out.ge; omega) HNN.out.2.2.1 HNN.out.2.2.2 HTB.out.lt)
        ·
         simp [intOf] <;> omega
     ·
      have hj0 : j = 0 := by omega
      subst hj0
      have HQ2 : Hid (TmS w wr z n M #[mv, .int .u64 fo, tv, .int .i64 1, b, r, x, y, .bool false] #[.slice (some ⟨gx, ox, none⟩) 1 cx, .slice (some ⟨gy, oy, none⟩) 1 cy, .bool false] (dJ M px py k (64 * ne) (64 * (ne - k1)))) := by
       have e := HK1.out
       have e4 : 64 * (ne - (k1 + 1)) + (64 - 0) = 64 * (ne - k1) := by omega
       rw [e4] at HQ
       exact HQ
      clear HQ hj hz
      simp only [Int.natCast_zero, Int.zero_sub]
      go_wp2_with fail
      refine ⟨⟨k1, Nat.le_of_lt HK1.out, by go_num, HQ2⟩, ?_⟩
      have := HK1.out
      simp [intOf] <;> omega
   ·
    have ht0 : t = 0 := by omega
    subst ht0
    rw [Nat.sub_zero] at HT
    clear ht hz
    simp only [Int.natCast_zero, Int.zero_sub]
    go_wp2_with fail
    refine HKa.out _ _ ?_
    clear HKa
    obtain ⟨d, hd0⟩ : ∃ d, d = dJ M px py k (64 * ne) (64 * ne) := ⟨_, rfl⟩
    rw [← hd0] at HT
    have HDJ := hideP hd0
    clear hd0
    obtain ⟨a0, b0, c0, hz0, hJ0⟩ := HT.out.ex
    have HZ := hideP hz0
    have HJ0 := hideP hJ0
    have cz2 : wr.cell? ⟨z, 2, none⟩ = some c0 := Zac hz0 rfl
    clear hz0 hJ0
    have C0 := hideP (Zgi HNN.out.1 HM.out HT.out.lt.2.2 wr c0 HJ0.out.cells.2.2)
    by_cases hd : d.2.2 = 0
    ·
     rw [decide_eq_true hd] at C0
     have HD := hideP hd
     clear hd
     refine Zae (fun Kb HKb => ?_)
     go_wp2_with fail
     refine C0.out.mono ?_
     rintro e w1 ⟨rfl, hb1⟩
     have HT1 := hideP (HT.out.moved hb1)
     have hrc := HT1.out.rc
     have cB0 : w1.cell? ⟨w.heap.size, 0, none⟩ = some _ := Zac hrc rfl
     have cB1 : w1.cell? ⟨w.heap.size, 1, none⟩ = some _ := Zac hrc rfl
     have cB2 : w1.cell? ⟨w.heap.size, 2, none⟩ = some _ := Zac hrc rfl
     have cB3 : w1.cell? ⟨w.heap.size, 3, none⟩ = some _ := Zac hrc rfl
     have cB4 : w1.cell? ⟨w.heap.size, 4, none⟩ = some _ := Zac hrc rfl
     have cB5 : w1.cell? ⟨w.heap.size, 5, none⟩ = some _ := Zac hrc rfl
     have cB6 : w1.cell? ⟨w.heap.size, 6, none⟩ = some _ := Zac hrc rfl
     have cB7 : w1.cell? ⟨w.heap.size, 7, none⟩ = some _ := Zac hrc rfl
     have cB8 : w1.cell? ⟨w.heap.size, 8, none⟩ = some _ := Zac hrc rfl
     clear hb1 hrc C0 cz2
     have C1 := hideP (Zlm HNN.out.1 HM.out HB3.out w1 _ (HCV.out.moved HT1.out.below))
     go_wp2_with fail
     refine C1.out.mono ?_
     rintro e w2 ⟨⟨u, rfl, hQ⟩, hb2⟩
     obtain ⟨qa, qb, rfl, hq1, hq2⟩ := hQ.ex
     have hr2 := (hb2.block _ (Zab HT1.out.rr)).trans HT1.out.rr
     have e0 : w2.cell? ⟨w.heap.size + 1 + 1, 0, none⟩ = some _ := Zac hr2 rfl
     have e1 : w2.cell? ⟨w.heap.size + 1 + 1, 1, none⟩ = some _ := Zac hr2 rfl
     have e2 : w2.cell? ⟨w.heap.size + 1 + 1, 2, none⟩ = some _ := Zac hr2 rfl
     have fr : ∀ o, w2.frozen? ⟨w.heap.size + 1 + 1, o, none⟩ = false := fun o => Zap hr2
     have o0 := hq1.oneC
     have o1 := hq2.oneC
     obtain ⟨ga, oa, ca, rfl, -⟩ := hq1.ex
     obtain ⟨gb, ob, cb, rfl, -⟩ := hq2.ex
     have HW := hideP (Zd2 hr2 (.slice (some ⟨ga, oa, none⟩) 1 ca) (.slice (some ⟨gb, ob, none⟩) 1 cb) (.bool true))
     have HE : Hid (QD (((w2.setCell ⟨w.heap.size + 1 + 1, 0, none⟩ (.slice (some ⟨ga, oa, none⟩) 1 ca)).setCell ⟨w.heap.size + 1 + 1, 1, none⟩ (.slice (some ⟨gb, ob, none⟩) 1 cb)).setCell ⟨w.heap.size + 1 + 1, 2, none⟩ (.bool true)) (.agg #[.slice (some ⟨ga, oa, none⟩) 1 ca, .slice (some ⟨gb, ob, none⟩) 1 cb, .bool true]) n 0 0 true) := ⟨_, _, rfl, hq1.set3b hr2 (by have := HNN.out.1; omega) (by have := HNN.out.1; omega) _ _ _, hq2.set3b hr2 (by have := HNN.out.1; omega) (by have := HNN.out.1; omega) _ _ _⟩
     have HEB := hideP ((HT1.out.moved hb2).below.trans ((ZeC (w := w2) (m := w.heap.size + 1 + 1) (Nat.le_refl _) (.slice (some ⟨ga, oa, none⟩) 1 ca) (.slice (some ⟨gb, ob, none⟩) 1 cb) (.bool true)).mono (by omega)))
     have HDO : Hid (dOut M (dJ M px py k (64 * ne) (64 * ne)) = (0, 0, true)) := by
      show _ = _
      rw [← HDJ.out]
      exact if_pos HD.out
     clear hQ hq1 hq2 hr2 hb2 C1
     go_wp2_with fail
     refine bodyPost_ret_by (ZaD rfl rfl (loadC _ (w.heap.size + 1 + 1) 0 42 _ (.struct (fsOf (Tryz.prog.underlying 42))) (Zag HW.out) (by kernel_rfl) rfl (by kernel_rfl))) rfl ⟨⟨_, rfl, ?_⟩, HEB.out⟩
     rw [HDO.out]
     exact HE.out
    ·
     rw [decide_eq_false hd] at C0
     have HD := hideP hd
     clear hd
     refine Zae (fun Kb HKb => ?_)
     go_wp2_with fail
     refine C0.out.mono ?_
     rintro e w1 ⟨rfl, hb1⟩
     go_wp2_with fail
     refine HKb.out _ _ ?_
     clear HKb Kb
     have HT1 := hideP (HT.out.moved hb1)
     obtain ⟨BC, hBC⟩ : ∃ B, B = w.heap.size := ⟨_, rfl⟩
     obtain ⟨BR, hBR⟩ : ∃ B, B = w.heap.size + 1 + 1 := ⟨_, rfl⟩
     have HBC : Hid (BX w1 BC #[mv, .int .u64 fo, tv, .int .i64 1, b, r, x, y, .bool false] 44) := ⟨by rw [hBC]; exact HT1.out.rc⟩
     have HBR : Hid (BX w1 BR #[.slice none 0 0, .slice none 0 0, .bool false] 42) := ⟨by rw [hBR]; exact HT1.out.rr⟩
     have Hz : Hid (BX w1 z #[a0, b0, c0] 283) := ⟨(hb1.block _ (Zab HZ.out)).trans HZ.out⟩
     have HJ1 := hideP (HJ0.out.moved hb1)
     have Ha0 := hideP HJ1.out.cells.1
     have Hb0 := hideP HJ1.out.cells.2.1
     have Hc0 := hideP HJ1.out.cells.2.2
     have HB : Hid (Up w w1) := HT1.out.below
     have HLT := hideP HT1.out.lt
     have HN2 := hideP HNN.out.1
     have LBR : Hid (w.heap.size ≤ BR) := by show _ ≤ _; omega
     have nBR_BC : BC ≠ BR := by omega
     have nBR_z : z ≠ BR := by have := HT1.out.zge; omega
     have HDO : Hid (dOut M (dJ M px py k (64 * ne) (64 * ne)) = (d.1 * (d.2.2 ^ (M - 2) % M * (d.2.2 ^ (M - 2) % M) % M) % M, d.2.1 * (d.2.2 ^ (M - 2) % M * (d.2.2 ^ (M - 2) % M) % M * (d.2.2 ^ (M - 2) % M) % M) % M, false)) := by
      show _ = _
      rw [← HDJ.out]
      exact if_neg HD.out
     refine ZaW 80 [(3, .pointer (some ⟨BC, 0, none⟩)), (6, .pointer (some ⟨BR, 0, none⟩)), (7, .pointer (some ⟨z, 0, none⟩))] rfl ⟨by rw [hBC]; rfl, by rw [hBR]; rfl, rfl, trivial⟩ (fun L hL hK => ?_)
     clear hBC hBR hb1 C0 cz2 HT1 HT HT0 HJ1 HJ0 HZ
     refine Zae (fun K1 HK1 => ?_)
     have up : ∀ V, Up w1 V → Up w V := fun _ h => HB.out.trans (h.mono HB.out.size)
     refine ZaA [.ex (.agg #[mv, .int .u64 fo, tv, .int .i64 1, b, r, x, y, .bool false]), .ex (.pointer (some ⟨z, 2, none⟩)), .ex (c0), .pr (fun zv zw => LL zw zv (n) ([d.2.2 ^ (M - 2) % M])), .pr (fun zv zw => LL zw zv (n) ([d.2.2 ^ (M - 2) % M]))] [3, 6, 7, 10] hL hK ⟨Zbf _ _, Zbf _ _, trivial⟩
      ⟨ZaM 0 hK (fun V h => HBC.out.moved h) Zb1 info44,
      ok_q hK,
      ZdJ 2 hK (fun V h => Hz.out.moved h),
      ok_c [.ex (.agg #[mv, .int .u64 fo, tv, .int .i64 1, b, r, x, y, .bool false]), .ex (c0)] (en Tryz.func93) hK (fun V h => cinv_1 HM.out (d.2.2) HLT.out.2.2 _ _ _ (HCF.out.moved (up V h)) (Hc0.out.moved h)),
      ok_x [.pr (fun zv zw => LL zw zv (n) ([d.2.2 ^ (M - 2) % M]))] hK (fun V h u q => ⟨_, _, Zbl rfl rfl, Below.refl _ _, q⟩),
      trivial⟩ ?_
     rintro W4 h v1 pv1 v2 pv2 L1 hL1 hK1
     replace HB := hideP (up _ h)
     replace Ha0 := hideP (Ha0.out.moved h)
     replace Hb0 := hideP (Hb0.out.moved h)
     replace Hc0 := hideP (Hc0.out.moved h)
     replace HBC := hideP (HBC.out.moved h)
     replace Hz := hideP (Hz.out.moved h)
     replace HBR := hideP (HBR.out.moved h)
     have Fv1 := hideP pv1
     clear pv1
     have Fv2 := hideP pv2
     clear pv2
     have hK2 := hK1.to [(3, .pointer (some ⟨BC, 0, none⟩)), (6, .pointer (some ⟨BR, 0, none⟩)), (7, .pointer (some ⟨z, 0, none⟩)), (10, v2)] (by kernel_rfl)
     clear up h hK1 hK hL L
     revert L1
     intro L hL hK
     refine HK1.out _ _ ?_
     clear HK1 K1
     refine Zae (fun K2 HK2 => ?_)
     have up : ∀ V, Up W4 V → Up w V := fun _ h => HB.out.trans (h.mono HB.out.size)
     refine ZaA [.ex (.agg #[mv, .int .u64 fo, tv, .int .i64 1, b, r, x, y, .bool false]), .ex (v2), .ex (v2), .pr (fun zv zw => LL zw zv (n) ([(d.2.2 ^ (M - 2) % M) * (d.2.2 ^ (M - 2) % M) % M])), .pr (fun zv zw => LL zw zv (n) ([(d.2.2 ^ (M - 2) % M) * (d.2.2 ^ (M - 2) % M) % M]))] [3, 6, 7, 10, 11] hL hK ⟨Zbf _ _, Zbf _ _, trivial⟩
      ⟨ZaM 0 hK (fun V h => HBC.out.moved h) Zb1 info44,
      ok_q hK,
      ok_q hK,
      ok_c [.ex (.agg #[mv, .int .u64 fo, tv, .int .i64 1, b, r, x, y, .bool false]), .ex (v2), .ex (v2)] (en Tryz.func92) hK (fun V h => Zej HM.out (d.2.2 ^ (M - 2) % M) (d.2.2 ^ (M - 2) % M) (Nat.mod_lt _ HM.out.pos) (Nat.mod_lt _ HM.out.pos) _ _ _ _ (HCF.out.moved (up V h)) (Fv2.out.moved h) (Fv2.out.moved h)),
      ok_x [.pr (fun zv zw => LL zw zv (n) ([(d.2.2 ^ (M - 2) % M) * (d.2.2 ^ (M - 2) % M) % M]))] hK (fun V h u q => ⟨_, _, Zbl rfl rfl, Below.refl _ _, q⟩),
      trivial⟩ ?_
     rintro W5 h v3 pv3 v4 pv4 L1 hL1 hK1
     replace HB := hideP (up _ h)
     replace Ha0 := hideP (Ha0.out.moved h)
     replace Hb0 := hideP (Hb0.out.moved h)
     replace Hc0 := hideP (Hc0.out.moved h)
     replace Fv1 := hideP (Fv1.out.moved h)
     replace Fv2 := hideP (Fv2.out.moved h)
     replace HBC := hideP (HBC.out.moved h)
     replace Hz := hideP (Hz.out.moved h)
     replace HBR := hideP (HBR.out.moved h)
     have Fv3 := hideP pv3
     clear pv3
     have Fv4 := hideP pv4
     clear pv4
     have hK2 := hK1.to [(3, .pointer (some ⟨BC, 0, none⟩)), (6, .pointer (some ⟨BR, 0, none⟩)), (7, .pointer (some ⟨z, 0, none⟩)), (10, v2), (11, v4)] (by kernel_rfl)
     clear up h hK1 hK hL L
     revert L1
     intro L hL hK
     refine HK2.out _ _ ?_
     clear HK2 K2
     refine Zae (fun K3 HK3 => ?_)
     have up : ∀ V, Up W5 V → Up w V := fun _ h => HB.out.trans (h.mono HB.out.size)
     refine Zbi [.ex (.agg #[mv, .int .u64 fo, tv, .int .i64 1, b, r, x, y, .bool false]), .ex (.pointer (some ⟨z, 0, none⟩)), .ex (a0), .ex (v4), .pr (fun zv zw => LL zw zv (n) ([d.1 * ((d.2.2 ^ (M - 2) % M) * (d.2.2 ^ (M - 2) % M) % M) % M])), .ex (.agg #[mv, .int .u64 fo, tv, .int .i64 1, b, r, x, y, .bool false]), .ex (.pointer (some ⟨z, 1, none⟩)), .ex (b0), .ex (.agg #[mv, .int .u64 fo, tv, .int .i64 1, b, r, x, y, .bool false]), .ex (v4), .ex (v2), .pr (fun zv zw => LL zw zv (n) ([((d.2.2 ^ (M - 2) % M) * (d.2.2 ^ (M - 2) % M) % M) * (d.2.2 ^ (M - 2) % M) % M])), .pr (fun zv zw => LL zw zv (n) ([d.2.1 * (((d.2.2 ^ (M - 2) % M) * (d.2.2 ^ (M - 2) % M) % M) * (d.2.2 ^ (M - 2) % M) % M) % M])), .pr (fun zv zw => PT zw zv (n) ([d.1 * ((d.2.2 ^ (M - 2) % M) * (d.2.2 ^ (M - 2) % M) % M) % M]) ([d.2.1 * (((d.2.2 ^ (M - 2) % M) * (d.2.2 ^ (M - 2) % M) % M) * (d.2.2 ^ (M - 2) % M) % M) % M]) false)] [6, 79] hL hK ⟨Zbf _ _, Zbf _ _, Zbf _ _, Zeh _ _ _ _, trivial⟩
      ⟨ZaM 0 hK (fun V h => HBC.out.moved h) Zb1 info44,
      ok_q hK,
      ZdJ 0 hK (fun V h => Hz.out.moved h),
      ok_q hK,
      ok_c [.ex (.agg #[mv, .int .u64 fo, tv, .int .i64 1, b, r, x, y, .bool false]), .ex (a0), .ex (v4)] (en Tryz.func92) hK (fun V h => Zej HM.out (d.1) ((d.2.2 ^ (M - 2) % M) * (d.2.2 ^ (M - 2) % M) % M) HLT.out.1 (Nat.mod_lt _ HM.out.pos) _ _ _ _ (HCF.out.moved (up V h)) (Ha0.out.moved h) (Fv4.out.moved h)),
      ZaM 0 hK (fun V h => HBC.out.moved h) Zb1 info44,
      ok_q hK,
      ZdJ 1 hK (fun V h => Hz.out.moved h),
      ZaM 0 hK (fun V h => HBC.out.moved h) Zb1 info44,
      ok_q hK,
      ok_q hK,
      ok_c [.ex (.agg #[mv, .int .u64 fo, tv, .int .i64 1, b, r, x, y, .bool false]), .ex (v4), .ex (v2)] (en Tryz.func92) hK (fun V h => Zej HM.out ((d.2.2 ^ (M - 2) % M) * (d.2.2 ^ (M - 2) % M) % M) (d.2.2 ^ (M - 2) % M) (Nat.mod_lt _ HM.out.pos) (Nat.mod_lt _ HM.out.pos) _ _ _ _ (HCF.out.moved (up V h)) (Fv4.out.moved h) (Fv2.out.moved h)),
      ok_c [.ex (.agg #[mv, .int .u64 fo, tv, .int .i64 1, b, r, x, y, .bool false]), .ex (b0), .pr (fun zv zw => LL zw zv (n) ([((d.2.2 ^ (M - 2) % M) * (d.2.2 ^ (M - 2) % M) % M) * (d.2.2 ^ (M - 2) % M) % M]))] (en Tryz.func92) hK (fun V h u1 q1 => Zej HM.out (d.2.1) (((d.2.2 ^ (M - 2) % M) * (d.2.2 ^ (M - 2) % M) % M) * (d.2.2 ^ (M - 2) % M) % M) HLT.out.2.1 (Nat.mod_lt _ HM.out.pos) _ _ _ _ (HCF.out.moved (up V h)) (Hb0.out.moved h) q1),
      ok_x [.pr (fun zv zw => LL zw zv (n) ([d.1 * ((d.2.2 ^ (M - 2) % M) * (d.2.2 ^ (M - 2) % M) % M) % M])), .pr (fun zv zw => LL zw zv (n) ([d.2.1 * (((d.2.2 ^ (M - 2) % M) * (d.2.2 ^ (M - 2) % M) % M) * (d.2.2 ^ (M - 2) % M) % M) % M]))] hK (fun V h u1 q1 u2 q2 => ⟨_, _, Zcu (vs := #[(0, u1), (1, u2)]) rfl (by kernel_rfl) (ZlX (LL.isSlice q1) (LL.isSlice q2) _), Below.refl _ _, ⟨_, _, rfl, q1, q2⟩⟩),
      trivial⟩ ?_
     rintro W6 h v5 pv5 v6 pv6 v7 pv7 _ ⟨⟨xz8, yz8, rfl, hxz8, hyz8⟩⟩ L1 hL1 hK1
     replace HB := hideP (up _ h)
     replace Ha0 := hideP (Ha0.out.moved h)
     replace Hb0 := hideP (Hb0.out.moved h)
     replace Hc0 := hideP (Hc0.out.moved h)
     replace Fv1 := hideP (Fv1.out.moved h)
     replace Fv2 := hideP (Fv2.out.moved h)
     replace Fv3 := hideP (Fv3.out.moved h)
     replace Fv4 := hideP (Fv4.out.moved h)
     replace HBC := hideP (HBC.out.moved h)
     replace Hz := hideP (Hz.out.moved h)
     replace HBR := hideP (HBR.out.moved h)
     have Fv5 := hideP pv5
     clear pv5
     have Fv6 := hideP pv6
     clear pv6
     have Fv7 := hideP pv7
     clear pv7
     have HXz8 : Hid (LL W6 xz8 (n) ([d.1 * ((d.2.2 ^ (M - 2) % M) * (d.2.2 ^ (M - 2) % M) % M) % M])) := hxz8
     clear hxz8
     have HYz8 : Hid (LL W6 yz8 (n) ([d.2.1 * (((d.2.2 ^ (M - 2) % M) * (d.2.2 ^ (M - 2) % M) % M) * (d.2.2 ^ (M - 2) % M) % M) % M])) := hyz8
     clear hyz8
     have hK2 := hK1.to [(6, .pointer (some ⟨BR, 0, none⟩)), (79, .agg #[xz8, yz8, .bool false])] (by kernel_rfl)
     clear up h hK1 hK hL L
     revert L1
     intro L hL hK
     refine ZbQ rfl rfl 42 _ _ rfl rfl BR 0 #[.slice none 0 0, .slice none 0 0, .bool false] [xz8, yz8, .bool false] 42 (Zam (hK.get rfl)) (Zam (hK.get rfl)) (rfl) HBR.out (Nat.le_of_ble_eq_true rfl) info42 ⟨HXz8.out.oneC, HYz8.out.oneC, rfl, trivial⟩ (fun W7 hb9 hx9 => ?_)
     have hs9 := Zca HBR.out (by kernel_rfl) hb9 hx9
     replace Ha0 := hideP (Ha0.out.safe HN2.out hs9)
     replace Hb0 := hideP (Hb0.out.safe HN2.out hs9)
     replace Hc0 := hideP (Hc0.out.safe HN2.out hs9)
     replace Fv1 := hideP (Fv1.out.safe HN2.out hs9)
     replace Fv2 := hideP (Fv2.out.safe HN2.out hs9)
     replace Fv3 := hideP (Fv3.out.safe HN2.out hs9)
     replace Fv4 := hideP (Fv4.out.safe HN2.out hs9)
     replace Fv5 := hideP (Fv5.out.safe HN2.out hs9)
     replace Fv6 := hideP (Fv6.out.safe HN2.out hs9)
     replace Fv7 := hideP (Fv7.out.safe HN2.out hs9)
     replace HXz8 := hideP (HXz8.out.safe HN2.out hs9)
     replace HYz8 := hideP (HYz8.out.safe HN2.out hs9)
     replace HBC := hideP (HBC.out.but hb9 nBR_BC)
     replace Hz := hideP (Hz.out.but hb9 nBR_z)
     replace HB := hideP (HB.out.trans (hb9.below.mono LBR.out))
     rw [show putAll _ _ _ = #[xz8, yz8, .bool false] by kernel_rfl] at hx9
     replace HBR := hideP hx9
     clear hs9 hb9 hx9
     refine HK3.out _ _ ?_
     clear HK3 K3
     refine wp_ret ?_
     exact ZcP 6 42 BR (#[xz8, yz8, .bool false]) rfl (hK.get rfl) HBR.out Zbj rfl info42 ⟨⟨_, rfl, by rw [HDO.out]; exact ⟨_, _, rfl, HXz8.out, HYz8.out⟩⟩, HB.out⟩
 clear HK2
 refine Zai (S := fun V => Below W0.heap.size W0 V) (by kernel_rfl) (Below.refl _ _).drew (fun hS => ?_)
 refine tkG 0 hS ?_
 simp only [Zaa, Zs, Zz]
 refine tkI 1 ?_ hS ?_ ?_
 rotate_left
 ·
  intro V hV
  have k0 := (hV.cell (p := ⟨w.heap.size + 1, 0, none⟩) hl1).trans q0
  go_simp
  (try with_reducible rfl)
 simp only [Zaa, Zs, Zz]
 refine tkG 2 hS ?_
 simp only [Zaa, Zs, Zz]
 refine tkI 3 ?_ hS ?_ ?_
 rotate_left
 ·
  intro V hV
  have k0 := (hV.cell (p := ⟨w.heap.size + 1, 1, none⟩) hl1).trans q1
  go_simp
  (try with_reducible rfl)
 simp only [Zaa, Zs, Zz]
 refine tkI 4 ?_ hS ?_ ?_
 rotate_left
 ·
  intro V hV
  have k0 := (hV.cell (p := ⟨w.heap.size, 0, none⟩) hl0).trans p0
  have k1 := (hV.cell (p := ⟨w.heap.size, 1, none⟩) hl0).trans p1
  have k2 := (hV.cell (p := ⟨w.heap.size, 2, none⟩) hl0).trans p2
  have k3 := (hV.cell (p := ⟨w.heap.size, 3, none⟩) hl0).trans p3
  have k4 := (hV.cell (p := ⟨w.heap.size, 4, none⟩) hl0).trans p4
  have k5 := (hV.cell (p := ⟨w.heap.size, 5, none⟩) hl0).trans p5
  have k6 := (hV.cell (p := ⟨w.heap.size, 6, none⟩) hl0).trans p6
  have k7 := (hV.cell (p := ⟨w.heap.size, 7, none⟩) hl0).trans p7
  have k8 := (hV.cell (p := ⟨w.heap.size, 8, none⟩) hl0).trans p8
  go_simp
  (try with_reducible rfl)
 simp only [Zaa, Zs, Zz]
 refine wpAnyH_ready (rs := [5, 7]) (by kernel_rfl) (by simp) (AllReadyH.cons rfl (fun K hK => ?_) (AllReadyH.cons rfl (fun K hK => ?_) AllReadyH.nil))
 ·
  go_simp
  refine (Zfx HM.out _ _ (HCF.out.moved (HBW.out.trans (hS.mono HBW.out.size)))).mono ?_
  rintro e U1 ⟨⟨gn, cn, curn, un, rfl, n1, n2, n3, n4, n5, n6⟩, hbc⟩
  have HNO := hideP (And.intro n1 (And.intro n2 (And.intro n3 (And.intro n4 (And.intro n5 n6)))))
  have HBC := hideP hbc
  clear n1 n2 n3 n4 n5 n6
  refine hK.out _ _ (hS.trans (hbc.mono hS.size)) (fun hS => ?_)
  clear hK K hbc
  refine tkG 6 hS ?_
  simp only [Zaa, Zs, Zz]
  have hLN : LL U1 (.slice (some ⟨gn, 0, none⟩) 1 cn) n [0] := by
   obtain ⟨n1, n2, n3, n4, n5, n6⟩ := HNO.out
   refine ⟨gn, 0, cn, rfl, n2, n3, Zab n4, fun j x hj => ?_⟩
   match j, hj with
   | 0, hj =>
    cases hj
    exact ⟨un, Zac n4 n5, n6⟩
  have HSU := hideP hS
  refine rd1 7 (fun K hK => ?_)
  go_simp
  refine hK.out _ _ (hS.alloc hS.size _) (fun hS => ?_)
  clear hK K
  refine rd1 8 (fun K hK => ?_)
  go_simp
  refine hK.out _ _ (HSU.out.alloc HSU.out.size _) (fun hS => ?_)
  refine wpAnyH_done (by kernel_rfl) ?_ _
  exact HREST.out U1.heap.size gn cn _ hS HSU.out.size (Zaf _ _) (hLN.moved ((Below.refl _ _).alloc (Nat.le_refl _) _))
 ·
  go_simp
  refine hK.out _ _ (hS.alloc hS.size _) (fun hS => ?_)
  clear hK K
  refine rd1 5 (fun K hK => ?_)
  go_simp
  refine (Zfx HM.out _ _ (HCF.out.moved (HBW.out.trans (hS.mono HBW.out.size)))).mono ?_
  rintro e U1 ⟨⟨gn, cn, curn, un, rfl, n1, n2, n3, n4, n5, n6⟩, hbc⟩
  have HNO := hideP (And.intro n1 (And.intro n2 (And.intro n3 (And.intro n4 (And.intro n5 n6)))))
  have HBC := hideP hbc
  clear n1 n2 n3 n4 n5 n6
  refine hK.out _ _ (hS.trans (hbc.mono hS.size)) (fun hS => ?_)
  clear hK K hbc
  refine tkG 6 hS ?_
  simp only [Zaa, Zs, Zz]
  refine rd1 8 (fun K hK => ?_)
  have hLN : LL U1 (.slice (some ⟨gn, 0, none⟩) 1 cn) n [0] := by
   obtain ⟨n1, n2, n3, n4, n5, n6⟩ := HNO.out
   refine ⟨gn, 0, cn, rfl, n2, n3, Zab n4, fun j x hj => ?_⟩
   match j, hj with
   | 0, hj =>
    cases hj
    exact ⟨un, Zac n4 n5, n6⟩
  have hz : U1.heap[W0.heap.size]? = some (.cells #[.slice none 0 0, .slice none 0 0, .slice none 0 0] 283 (0, 0)) := (HBC.out.block W0.heap.size (by show _ < (W0.alloc _).heap.size; rw [World.size_alloc]; omega)).trans (Zaf W0 _)
  have ca0 := Zac (o := 0) hz rfl
  have ca1 := Zac (o := 1) hz rfl
  have ca2 := Zac (o := 2) hz rfl
  have fr : ∀ o, U1.frozen? ⟨W0.heap.size, o, none⟩ = false := fun o => Zap hz
  go_simp
  refine hK.out _ _ ?_ (fun hS => ?_)
  ·
   repeat refine Below.setCell ?_ (by first | exact Nat.le_refl _ | exact (hS.size)) _
   exact hS
  refine wpAnyH_done (by kernel_rfl) ?_ _
  exact HREST.out W0.heap.size gn cn _ hS (Nat.le_refl _) (Zd2 hz _ _ _) (hLN.set3 hz (by have := HNN.out.1; omega) (by have := HNN.out.1; omega) (by have := HNN.out.1; omega) _ _ _)
theorem ZjN : runZ [] Tryz.f116 [K1, .row [.nm 1 [.v 0], .nm 1 [.v 1], .cx (.lit true)], .one (.nm 8 [.v 109])] = some (.row [.nm 1 [.v 0], .nm 1 [.v 1], .cx (.lit true)]) := by kernel_rfl
theorem Zgj {n M B R bx by_ : Nat} (hn : 2 ≤ n) (hM : FM n M) (hB3 : B < M ∧ bx < M ∧ by_ < M) (w : World) (cv pv kv : Value) (px py : Nat) (hpx : px < M) (hpy : py < M) (k : Nat) (hC : DCv w cv n M B R bx by_) (hP : QD w pv n px py true) (hK : LW w kv 4 (limb k)) :
  Calls Tryz.prog 116 #[cv, pv, kv] w fun r w' => (∃ u, r = .returned u ∧ QD w' u n px py true) ∧ Below w.heap.size w w' := by
 obtain ⟨a, b, rfl, h1, h2⟩ := hP.ex
 obtain ⟨mv, fo, tv, b', r, x, y, rfl, hF, k2, k3, k4, k5⟩ := hC.ex
 obtain ⟨mv', fo', tv', e, h6, h7, h8⟩ := hF.ex
 cases e
 have := Zga hn hM (v := fun j => if j = 0 then px else if j = 1 then py else if j = 110 then R else if j = 109 then k else if j = 102 then B else if j = 111 then bx else if j = 113 then by_ else 0) (bo := fun _ => false) (fun j hj => by
  have n1 : j ≠ 110 := fun e => by subst e; revert hj; decide
  have n2 : j ≠ 109 := fun e => by subst e; revert hj; decide
  show (if j = 0 then px else if j = 1 then py else if j = 110 then R else if j = 109 then k else if j = 102 then B else if j = 111 then bx else if j = 113 then by_ else 0) < M
  rw [if_neg n1, if_neg n2]
  repeat' split
  all_goals first | exact hpx | exact hpy | exact hB3.1 | exact hB3.2.1 | exact hB3.2.2 | exact hM.pos) [] (by simp) (w := w) Tryz.func116 ZjN (vs := [.agg #[mv, .int .u64 fo, tv, .int .i64 1, b', r, x, y, .bool false], .agg #[a, b, .bool true], kv]) ⟨⟨[mv, .int .u64 fo, tv, .int .i64 1, b', r, x, y, .bool false], rfl, h6, ⟨fo, rfl, h8⟩, h7, rfl, k2, k3, k4, k5, rfl, trivial⟩, ⟨[a, b, .bool true], rfl, h1, h2, rfl, trivial⟩, hK, trivial⟩
 refine this.mono fun e w' h => ⟨?_, h.2⟩
 obtain ⟨⟨u, e, l, rfl, h⟩, _⟩ := h
 match l, h with
 | [a, b, c], ⟨h1, h2, h3, _⟩ =>
  have h3 : c = .bool true := h3
  subst h3
  exact ⟨_, e, a, b, rfl, h1, h2⟩
theorem Zgk {n M B R bx by_ : Nat} (hn : 2 ≤ n) (hM : FM n M) (hB3 : B < M ∧ bx < M ∧ by_ < M) (w : World) (cv pv kv : Value) (px py : Nat) (i : Bool) (hpx : px < M) (hpy : py < M) (k : Nat) (hC : DCv w cv n M B R bx by_) (hP : QD w pv n px py i) (hK : LW w kv 4 (limb k)) :
  Calls Tryz.prog 116 #[cv, pv, kv] w fun r w' => (∃ u, r = .returned u ∧ QD w' u n (dTimes M px py i k 256).1 (dTimes M px py i k 256).2.1 (dTimes M px py i k 256).2.2) ∧ Below w.heap.size w w' := by
 cases i with
 | true => exact Zgj hn hM hB3 w cv pv kv px py hpx hpy k hC hP hK
 | false => exact Zhd (ne := 4) hn hM hB3 (by decide) w cv pv kv px py hpx hpy k hC hP hK
end Go.Proofs.YtcbdbnfgnonacaaGreat
