/- YtcceaokldphfgaaDiskTwinsC49 -/
import Derived.Test.YtcceaokldphfgaaDiskTwinsC48
import Derived.Test.YtcceaokldphfgaaDiskTwinsC36
namespace Go.Proofs.Ytcceaokldphfgaa
open Go.RowKit Go.Shelf

set_option maxHeartbeats 4000000 in
set_option maxRecDepth 100000 in
theorem twins_any {w : World} {a1 a2 a3 : Option Addr} {c1 c2 c3 : Nat} {cr ro : Int} {keep fail full : List Int} {v u : Value} {L M : List AOp} (hp : PlanAt w a1 a2 a3 c1 c2 c3 cr ro keep fail full) (hL : OpsAt w v L) (hM : OpsAt w u M) :
    Calls Try.prog 7 #[planV a1 a2 a3 c1 c2 c3 cr ro keep fail full, v, u] w fun r w' => r = .returned (.bool true) ∧ Below w.heap.size w w' := by
  unfold planV
  obtain ⟨av, cv, hv⟩ := hL.shape
  obtain ⟨au, cu, hu⟩ := hM.shape
  generalize hn1 : keep.length = n1
  generalize hn2 : fail.length = n2
  generalize hn3 : full.length = n3
  obtain ⟨W0, hW0⟩ : ∃ W0, W0 = w.alloc (.cells #[.int .i64 cr, .slice a1 n1 c1, .slice a2 n2 c2, .slice a3 n3 c3, .int .i64 ro] 24) := ⟨_, rfl⟩
  have hb0 : Below w.heap.size w W0 := by rw [hW0]; exact (Below.refl _ w).alloc (Nat.le_refl _) _
  have hB0 : W0.heap[w.heap.size]? = some (.cells #[.int .i64 cr, .slice a1 n1 c1, .slice a2 n2 c2, .slice a3 n3 c3, .int .i64 ro] 24 (0, 0)) := by rw [hW0]; exact World.alloc_heap_new w _
  have hz0 : w.heap.size < W0.heap.size := (Array.getElem?_eq_some_iff.1 hB0).1
  have haw := awake_any W0
  have HP := hideP hp
  have HLL := hideP hL
  have HMM := hideP hM
  have HW0 := hideP hW0
  have HB0 := hideP hB0
  have HBW0 := hideP hb0
  have HZ0 := hideP hz0
  have HN : Hid (keep.length = n1 ∧ fail.length = n2 ∧ full.length = n3) := ⟨hn1, hn2, hn3⟩
  clear hp hL hM hW0 hB0 hb0 hz0 hn1 hn2 hn3
  subst hv hu
  go_enter Try.func7, Try.ntmps7
  go_wp2_with fail
  rw [← HW0.out]
  refine haw.mono ?_
  rintro r W1 ⟨rfl, hb1⟩
  clear haw
  have HBW1 := hideP (HBW0.out.trans (hb1.mono (Nat.le_of_lt HZ0.out)))
  have HB1 := hideP ((hb1.block _ HZ0.out).trans HB0.out)
  have hfew := few_D W1 _ L (HLL.out.later HBW1.out)
  clear hb1
  go_wp2_with fail
  refine hfew.mono ?_
  rintro r Wx ⟨⟨b, rfl, hb60⟩, hbx⟩
  clear hfew
  have HBWx := hideP (HBW1.out.trans (hbx.mono HBW1.out.size))
  have HBx := hideP ((hbx.block _ (Array.getElem?_eq_some_iff.1 HB1.out).1).trans HB1.out)
  clear hbx
  cases b with
  | false =>
    go_wp2
    go_ret
    exact ⟨rfl, HBWx.out⟩
  | true =>
  have H60 := hideP (hb60 rfl)
  clear hb60
  have hfew2 := few_D Wx _ M (HMM.out.later HBWx.out)
  go_wp2_with fail
  refine hfew2.mono ?_
  rintro r W2 ⟨⟨b, rfl, hb60⟩, hb2⟩
  clear hfew2
  have HBW2 := hideP (HBWx.out.trans (hb2.mono HBWx.out.size))
  have hB2 := (hb2.block _ (Array.getElem?_eq_some_iff.1 HBx.out).1).trans HBx.out
  clear hb2
  cases b with
  | false =>
    clear hB2
    go_wp2
    go_ret
    exact ⟨rfl, HBW2.out⟩
  | true =>
  have M60 := hideP (hb60 rfl)
  clear hb60
  have u0 : W2.cell? ⟨w.heap.size, 0, none⟩ = some (.int .i64 cr) := blk_cell hB2 rfl
  have u1 : W2.cell? ⟨w.heap.size, 1, none⟩ = some (.slice a1 n1 c1) := blk_cell hB2 rfl
  have u2 : W2.cell? ⟨w.heap.size, 2, none⟩ = some (.slice a2 n2 c2) := blk_cell hB2 rfl
  have u3 : W2.cell? ⟨w.heap.size, 3, none⟩ = some (.slice a3 n3 c3) := blk_cell hB2 rfl
  have u4 : W2.cell? ⟨w.heap.size, 4, none⟩ = some (.int .i64 ro) := blk_cell hB2 rfl
  have hnt := newTwin (HP.out.later HBW2.out)
  unfold planV at hnt
  rw [HN.out.1, HN.out.2.1, HN.out.2.2] at hnt
  have HNT := hideP hnt
  clear hB2 hnt
  go_wp2_with fail
  refine HNT.out.mono ?_
  rintro r W3 ⟨v1, v2, v3, rfl, HNW⟩
  clear u0 u1 u2 u3 u4
  go_wp2_with fail
  refine HNW.out.mono ?_
  rintro r W4 ⟨D, rfl, role, s, hd4, hs4, ha4⟩
  have hop0 : s.ops ≤ 0 := by
    have h5 : (abs s).ops = 0 := by rw [ha4]
    have h6 : (abs s).ops = s.ops := rfl
    omega
  have hl0 : Hid (Lives W2 W4 D 0) := ⟨role, s, hd4, hs4, by rw [ha4]; exact ⟨fun f hf => by simp at hf, fun e => by simp at e⟩, hop0⟩
  clear hd4 hs4 ha4 HNW hop0
  go_wp2
  go_loopw [37] (fun i wr => ∃ j : Nat, j ≤ L.length ∧ i = .int .i64 j ∧ Hid (Lives W2 wr D j)) (fun i _ => L.length - (intOf i).toNat)
  case atStart => exact ⟨0, Nat.zero_le _, rfl, hl0⟩
  case round =>
    obtain ⟨j, hj, rfl, hlv⟩ := hrel
    have h60 := H60.out
    by_cases hjl : j < L.length
    · have hbr : Below w.heap.size w wr := by
        obtain ⟨role, s, g1, g2, _⟩ := hlv.out
        exact HBW2.out.trans (g2.below.mono HBW2.out.size)
      obtain ⟨blk, off, rfl, b0, b1, b2, b3, d0, d1, d2, d3, hop, hcell⟩ := (HLL.out.later hbr).at_ hjl
      have m0 := hcell 0 _ rfl
      have m1 := hcell 1 _ rfl
      have m2 := hcell 2 _ rfl
      have m3 := hcell 3 _ rfl
      have m4 := hcell 4 _ rfl
      have m5 := hcell 5 _ rfl
      have m6 := hcell 6 _ rfl
      have m7 := hcell 7 _ rfl
      have m8 := hcell 8 _ rfl
      have m9 := hcell 9 _ rfl
      have m10 := hcell 10 _ rfl
      simp only [Nat.add_zero] at m0
      have hba : ∀ o, Below wr.heap.size wr (wr.alloc o) := fun o => (Below.refl _ wr).alloc (Nat.le_refl _) o
      have hdo := Lives.doesU (hlv.out.still (hba (.cells #[.int .i64 L[j].kind, .string L[j].name, .string L[j].to, .int .i64 L[j].at_, .int .i64 L[j].long, .slice b0 L[j].data.length d0, .int .i64 L[j].crash, .slice b1 L[j].keep.length d1, .slice b2 L[j].fail.length d2, .slice b3 L[j].full.length d3, .int .i64 L[j].room] 35))) (by omega) (hop.later (hba _))
      unfold opV at hdo
      have HDO := hideP hdo
      clear hcell hop hba hbr hlv hdo
      go_wp2_with fail
      refine HDO.out.mono ?_
      rintro r w5 ⟨⟨e, rfl⟩, HLV⟩
      go_wp2
      go_roundw
      case rel => exact ⟨j + 1, by omega, by go_num, HLV⟩
      case measure => simp [intOf]; omega
    · have hjl' : j = L.length := by omega
      subst hjl'
      have hcl := pair_clone hlv.out
      clear hlv hl0
      go_wp2_with fail
      refine hcl.mono ?_
      rintro r W5 ⟨T, rfl, HPR⟩
      clear hcl
      obtain ⟨a, hpr⟩ := HPR.out
      have hfl := hpr.files
      have HP5 := hideP hpr
      clear hpr HPR
      go_wp2_with fail
      refine hfl.mono ?_
      rintro r W6 ⟨aw, nw, cw, rfl, HF6, hb6⟩
      clear hfl
      have HP6 := hideP (HP5.out.hold hb6)
      have HZ56 := hideP hb6.size
      clear hb6
      have HBW5 : Hid (Below w.heap.size w W6) := HBW2.out.trans (HP6.out.below.mono HBW2.out.size)
      have HZ6 : Hid (W2.heap.size ≤ W6.heap.size ∧ W5.heap.size ≤ W6.heap.size) := ⟨HP6.out.below.size, HZ56.out⟩
      have hin0 : Hid (W6.ownsRow W6.heap.size 3 1 (.slice none 0 0) 0 ((errsA a (M.take 0)).map fun e => .int .i64 e) ∧ Pair W2 W6 (fun k => False ∨ (W5.heap.size ≤ k ∧ k < W6.heap.size)) (Value.slice none 0 0).ownBlock D T a (runA a (M.take 0)) (L.length + 0) W6) := ⟨World.ownsRow_nil _ _ _ _, HP6.out⟩
      clear h60 hj hjl
      go_wp2
      go_loopw [12, 53] (fun sv i wr => ∃ (j : Nat) (q : Option Addr) (c : Nat), j ≤ M.length ∧ i = .int .i64 j ∧ sv = .slice q j c ∧ Hid (wr.ownsRow W6.heap.size 3 1 (.slice q j c) j ((errsA a (M.take j)).map fun e => .int .i64 e) ∧ Pair W2 W6 (fun k => False ∨ (W5.heap.size ≤ k ∧ k < W6.heap.size)) (Value.slice q j c).ownBlock D T a (runA a (M.take j)) (L.length + j) wr ∧ W6.heap.size ≤ wr.heap.size)) (fun _ i _ => M.length - (intOf i).toNat)
      case atStart => exact ⟨0, none, 0, Nat.zero_le _, rfl, rfl, hin0.out.1, hin0.out.2, Nat.le_refl _⟩
      case round =>
        obtain ⟨j, q, c, hj, rfl, rfl, hin⟩ := hrel
        have h60 := H60.out
        have m60 := M60.out
        by_cases hjl : j < M.length
        · obtain ⟨hrow, hpr, hz⟩ := hin.out
          have hbr : Below w.heap.size w wr := HBW2.out.trans (hpr.below.mono HBW2.out.size)
          obtain ⟨blk, off, rfl, b0, b1, b2, b3, d0, d1, d2, d3, hop, hcell⟩ := (HMM.out.later hbr).at_ hjl
          have m0 := hcell 0 _ rfl
          have m1 := hcell 1 _ rfl
          have m2 := hcell 2 _ rfl
          have m3 := hcell 3 _ rfl
          have m4 := hcell 4 _ rfl
          have m5 := hcell 5 _ rfl
          have m6 := hcell 6 _ rfl
          have m7 := hcell 7 _ rfl
          have m8 := hcell 8 _ rfl
          have m9 := hcell 9 _ rfl
          have m10 := hcell 10 _ rfl
          simp only [Nat.add_zero] at m0
          have hba : ∀ o, Below wr.heap.size wr (wr.alloc o) := fun o => (Below.refl _ wr).alloc (Nat.le_refl _) o
          have hdo := said_step (hpr.still (hba (.cells #[.int .i64 M[j].kind, .string M[j].name, .string M[j].to, .int .i64 M[j].at_, .int .i64 M[j].long, .slice b0 M[j].data.length d0, .int .i64 M[j].crash, .slice b1 M[j].keep.length d1, .slice b2 M[j].fail.length d2, .slice b3 M[j].full.length d3, .int .i64 M[j].room] 35))) (own_below hrow (hba _)) (by omega) (by omega) (hop.later (hba _)) (fun k hk => by rcases hk with hk | hk; exact hk.elim; exact hk.2) HZ6.out.1 (by have := (hba (.cells #[.int .i64 M[j].kind, .string M[j].name, .string M[j].to, .int .i64 M[j].at_, .int .i64 M[j].long, .slice b0 M[j].data.length d0, .int .i64 M[j].crash, .slice b1 M[j].keep.length d1, .slice b2 M[j].fail.length d2, .slice b3 M[j].full.length d3, .int .i64 M[j].room] 35)).size; omega)
          unfold opV at hdo
          have hst : M.take (j + 1) = M.take j ++ [M[j]] := List.take_succ_eq_append_getElem hjl
          have HST := hideP hst
          have HDO := hideP hdo
          have HZR : Hid (W6.heap.size ≤ (wr.alloc (.cells #[.int .i64 M[j].kind, .string M[j].name, .string M[j].to, .int .i64 M[j].at_, .int .i64 M[j].long, .slice b0 M[j].data.length d0, .int .i64 M[j].crash, .slice b1 M[j].keep.length d1, .slice b2 M[j].fail.length d2, .slice b3 M[j].full.length d3, .int .i64 M[j].room] 35)).heap.size) := Nat.le_trans hz (hba _).size
          clear hcell hop hba hbr hdo hin hrow hpr hst hz
          generalize M[j] = o at *
          go_wp2_with fail
          refine HDO.out.mono ?_
          rintro r w5 ⟨rfl, q', c', w7, HRN, HPN⟩
          have HRL : Hid (w7.ownsRow W6.heap.size 3 1 (.slice q' (j + 1) c') (j + 1) ((errsA a (M.take (j + 1))).map fun e => .int .i64 e) ∧ Pair W2 W6 (fun k => False ∨ (W5.heap.size ≤ k ∧ k < W6.heap.size)) (Value.slice q' (j + 1) c').ownBlock D T a (runA a (M.take (j + 1))) (L.length + (j + 1)) w7 ∧ W6.heap.size ≤ w7.heap.size) := by
            rw [HST.out, errsA_snoc, runA_snoc, List.map_append]
            exact ⟨HPN.out.1, HPN.out.2.1, Nat.le_trans HZR.out HPN.out.2.2⟩
          clear HPN HDO HST
          generalize (doA (runA a (List.take j M)) o).snd = e at *
          go_wp2_with (at_builtin; refine Lib.wpList_append_run _ rfl _ _ 22 22 rfl _ _ rfl rfl _ _ HRN.out ?_)
          go_roundw
          case rel => exact ⟨j + 1, q', c', by omega, by go_num, rfl, HRL⟩
          case measure => simp [intOf]; omega
        · have hjl' : j = M.length := by omega
          subst hjl'
          rw [List.take_length] at hin
          obtain ⟨hrow, hpr, hz⟩ := hin.out
          have hfl := hpr.files
          have HRW := hideP hrow
          have HPR := hideP hpr
          clear hin hrow hpr hz hj hjl
          go_wp2_with fail
          refine hfl.mono ?_
          rintro r W8 ⟨a8, n8, k8, rfl, HF8, hb8⟩
          clear hfl
          have hsm := same_true HF8.out (HF6.out.to (w' := W8) (fun k h1 h2 => (hb8.block k (by have := (HPR.out.ex); obtain ⟨r1, s1, r2, s2, _, _, _, _, _, _, _, h8, _⟩ := this; exact (h8 k (.inr ⟨h1, h2⟩)).2.2)).trans (HPR.out.same k (.inr ⟨h1, h2⟩))))
          have HB8 := hideP hb8
          clear hb8
          go_wp2_with fail
          refine hsm.mono ?_
          rintro r W9 ⟨rfl, hb9⟩
          clear hsm
          have HB9 : Hid (Below wr.heap.size wr W9) := HB8.out.trans (hb9.mono HB8.out.size)
          have HP9 := hideP (HPR.out.still HB9.out)
          clear hb9
          have hfl := HP9.out.swap.files
          go_wp2_with fail
          refine hfl.mono ?_
          rintro r W10 ⟨a10, n10, k10, rfl, HF10, hb10⟩
          clear hfl
          have HP10 := hideP (HP9.out.still hb10)
          have HZ910 := hideP hb10.size
          have HB10 : Hid (Below wr.heap.size wr W10) := HB9.out.trans (hb10.mono HB9.out.size)
          clear hb10
          have hsf := HP10.out.swap.safe
          go_wp2_with fail
          refine hsf.mono ?_
          rintro r W11 ⟨a11, n11, k11, rfl, HF11, hb11⟩
          clear hsf
          have HP11 := hideP (HP10.out.still hb11)
          have HB11 : Hid (Below wr.heap.size wr W11) := HB10.out.trans (hb11.mono HB10.out.size)
          have HFA : Hid (FilesAt W11 W9.heap.size (.slice a10 n10 k10) (toldA (runA a M))) := HF10.out.later hb11
          clear hb11
          have hops := HP11.out.swap.ops
          go_wp2_with fail
          refine hops.mono ?_
          rintro r w12 ⟨rfl, rfl⟩
          clear hops
          have HPX := hideP ((HPR.out.holdM).hold HB11.out)
          have HRX : Hid (W11.ownsRow W6.heap.size 3 1 (.slice q M.length c) M.length ((errsA a M).map fun e => .int .i64 e)) := own_below HRW.out HB11.out
          obtain ⟨HH, HPY⟩ : ∃ HH : Nat → Prop, Hid ((∀ k, W9.heap.size ≤ k → k < W11.heap.size → HH k) ∧ (∀ k, (Value.slice q M.length c).ownBlock = some k → HH k) ∧ Pair W2 W11 HH none D T a (runA a M) (L.length + M.length) W11 ∧ W9.heap.size ≤ W10.heap.size) :=
            ⟨_, fun k h1 h2 => .inr ⟨Nat.le_trans HB9.out.size h1, h2⟩, fun k hk => .inl (.inr hk), HPX.out, HZ910.out⟩
          clear HP11 HP10 HP9 HF8 HF10 HB8 HB9 HB10 HRW HPR HF6 HP6 HP5 HPX HB11 HZ910
          have hin1 : Hid (Pair W2 W11 HH none D T (runA a (M.take 0)) (runA a M) (L.length + M.length + 0) W11) := HPY.out.2.2.1
          generalize hbo : (runA a M).ops = bo
          have HBO := hideP hbo
          clear hbo
          go_wp2
          go_loopw [18, 77] (fun _ i wr => ∃ (j : Nat), j ≤ M.length ∧ i = .int .i64 j ∧ Hid (Pair W2 W11 HH none D T (runA a (M.take j)) (runA a M) (L.length + M.length + j) wr)) (fun _ i _ => M.length - (intOf i).toNat)
          case atStart => exact ⟨0, Nat.zero_le _, rfl, hin1⟩
          case round =>
            obtain ⟨j, hj, rfl, hin⟩ := hrel
            by_cases hjl : j < M.length
            · have hpr := hin.out
              have hbr : Below w.heap.size w wr := HBW2.out.trans (hpr.below.mono HBW2.out.size)
              obtain ⟨blk, off, rfl, b0, b1, b2, b3, d0, d1, d2, d3, hop, hcell⟩ := (HMM.out.later hbr).at_ hjl
              have m0 := hcell 0 _ rfl
              have m1 := hcell 1 _ rfl
              have m2 := hcell 2 _ rfl
              have m3 := hcell 3 _ rfl
              have m4 := hcell 4 _ rfl
              have m5 := hcell 5 _ rfl
              have m6 := hcell 6 _ rfl
              have m7 := hcell 7 _ rfl
              have m8 := hcell 8 _ rfl
              have m9 := hcell 9 _ rfl
              have m10 := hcell 10 _ rfl
              simp only [Nat.add_zero] at m0
              obtain ⟨e, he⟩ : ∃ e, e = (doA (runA a (M.take j)) M[j]).2 := ⟨_, rfl⟩
              obtain ⟨g, hg, hgc⟩ : ∃ g, q = some ⟨g, 0, none⟩ ∧ ∀ V : World, V.heap[g]? = W11.heap[g]? → V.cell? ⟨g, j, none⟩ = some (.int .i64 e) := by
                rcases HRX.out.2 with ⟨_, e0⟩ | ⟨g, cap, cur, e0, _, hgg, _, _, _, ht⟩
                · exact absurd hjl (by omega)
                · simp only [Value.slice.injEq] at e0
                  refine ⟨g, e0.1, fun V hV => blk_cell (hV.trans hgg) ?_⟩
                  have h1 := errsA_get M a hjl
                  have h2 : (cur.toList.take (M.length * 1))[j]? = some (.int .i64 e) := by rw [ht, List.getElem?_map, h1, he]; rfl
                  rw [List.getElem?_take] at h2
                  split at h2
                  · simpa using h2
                  · cases h2
              subst hg
              have hHg : HH g := HPY.out.2.1 g rfl
              have hba : ∀ o, Below wr.heap.size wr (wr.alloc o).drew := fun o => ((Below.refl _ wr).alloc (Nat.le_refl _) o).drew
              have hdo := Pair.does (hpr.still (hba (.cells #[.int .i64 M[j].kind, .string M[j].name, .string M[j].to, .int .i64 M[j].at_, .int .i64 M[j].long, .slice b0 M[j].data.length d0, .int .i64 M[j].crash, .slice b1 M[j].keep.length d1, .slice b2 M[j].fail.length d2, .slice b3 M[j].full.length d3, .int .i64 M[j].room] 35))) (by omega) (hop.later (hba _))
              unfold opV at hdo
              rw [← he] at hdo
              have hst : M.take (j + 1) = M.take j ++ [M[j]] := List.take_succ_eq_append_getElem hjl
              have hq0 : wr.cell? ⟨g, j, none⟩ = some (.int .i64 e) := hgc wr (hpr.same g hHg)
              have hq1 : (wr.alloc (.cells #[.int .i64 M[j].kind, .string M[j].name, .string M[j].to, .int .i64 M[j].at_, .int .i64 M[j].long, .slice b0 M[j].data.length d0, .int .i64 M[j].crash, .slice b1 M[j].keep.length d1, .slice b2 M[j].fail.length d2, .slice b3 M[j].full.length d3, .int .i64 M[j].room] 35)).cell? ⟨g, j, none⟩ = some (.int .i64 e) := hgc _ ((hpr.still (hba (.cells #[.int .i64 M[j].kind, .string M[j].name, .string M[j].to, .int .i64 M[j].at_, .int .i64 M[j].long, .slice b0 M[j].data.length d0, .int .i64 M[j].crash, .slice b1 M[j].keep.length d1, .slice b2 M[j].fail.length d2, .slice b3 M[j].full.length d3, .int .i64 M[j].room] 35))).same g hHg)
              have HDO : Hid (Calls Try.prog 14 #[.pointer (some ⟨D, 0, none⟩), .agg #[.int .i64 M[j].kind, .string M[j].name, .string M[j].to, .int .i64 M[j].at_, .int .i64 M[j].long, .slice b0 M[j].data.length d0, .int .i64 M[j].crash, .slice b1 M[j].keep.length d1, .slice b2 M[j].fail.length d2, .slice b3 M[j].full.length d3, .int .i64 M[j].room]] (wr.alloc (.cells #[.int .i64 M[j].kind, .string M[j].name, .string M[j].to, .int .i64 M[j].at_, .int .i64 M[j].long, .slice b0 M[j].data.length d0, .int .i64 M[j].crash, .slice b1 M[j].keep.length d1, .slice b2 M[j].fail.length d2, .slice b3 M[j].full.length d3, .int .i64 M[j].room] 35)).drew fun r w5 => r = .returned (.int .i64 e) ∧ w5.cell? ⟨g, j, none⟩ = some (.int .i64 e) ∧ Hid (Pair W2 W11 HH none D T (runA a (M.take (j + 1))) (runA a M) (L.length + M.length + (j + 1)) w5)) := by
                refine hdo.mono ?_
                rintro r w5 ⟨rfl, HX⟩
                rw [hst, runA_snoc]
                exact ⟨rfl, hgc w5 (HX.out.1.same g hHg), HX.out.1⟩
              have hne : (e != e) = false := by simp
              clear hcell hop hba hbr hdo hin hpr hst hgc he hHg
              generalize M[j] = o at *
              go_wp2
              refine wp_region_heldS (S := fun _ => True) (by kernel_rfl) trivial (fun _ => ?_)
              refine wpAnyH_takeL (i := 0) (v := ?_) rfl (by kernel_rfl) (by kernel_rfl) (by kernel_rfl) (fun _ _ _ h => h) (Or.inl ⟨by kernel_rfl, ?_⟩) trivial ?_
              rotate_left
              · intro V _
                go_simp
                (try with_reducible rfl)
              simp only [put_list, List.set_cons_succ, List.set_cons_zero]
              refine wpAnyH_takeL (i := 3) (v := ?_) rfl (by kernel_rfl) (by kernel_rfl) (by kernel_rfl) (fun _ _ _ h => h) (Or.inl ⟨by kernel_rfl, ?_⟩) trivial ?_
              rotate_left
              · intro V _
                go_simp
                (try with_reducible rfl)
              simp only [put_list, List.set_cons_succ, List.set_cons_zero]
              refine wpAnyH_takeL (i := 4) (v := ?_) rfl (by kernel_rfl) (by kernel_rfl) (by kernel_rfl) (fun _ _ _ h => h) (Or.inl ⟨by kernel_rfl, ?_⟩) trivial ?_
              rotate_left
              · intro V _
                go_simp
                (try with_reducible rfl)
              simp only [put_list, List.set_cons_succ, List.set_cons_zero]
              refine wpAnyH_takeL (i := 5) (v := ?_) rfl (by kernel_rfl) (by kernel_rfl) (by kernel_rfl) (fun _ _ _ h => h) (Or.inl ⟨by kernel_rfl, ?_⟩) trivial ?_
              rotate_left
              · intro V _
                go_simp
                (try with_reducible rfl)
              simp only [put_list, List.set_cons_succ, List.set_cons_zero]
              refine wpAnyH_ready (rs := [1, 6]) (by kernel_rfl) (by simp) (AllReadyH.cons rfl (fun K hK => ?_) (AllReadyH.cons rfl (fun K hK => ?_) (AllReadyH.nil)))
              · go_simp
                refine hK.out _ _ trivial (fun _ => ?_)
                clear hK K
                refine wpAnyH_ready (rs := [2, 6]) (by kernel_rfl) (by simp) (AllReadyH.cons rfl (fun K hK => ?_) (AllReadyH.cons rfl (fun K hK => ?_) (AllReadyH.nil)))
                · go_simp
                  refine HDO.out.mono ?_
                  rintro r w5 ⟨rfl, hc5, HPN⟩
                  refine hK.out _ _ trivial (fun _ => ?_)
                  clear hK K
                  refine wpAnyH_ready (rs := [6]) (by kernel_rfl) (by simp) (AllReadyH.cons rfl (fun K hK => ?_) (AllReadyH.nil))
                  go_simp
                  refine hK.out _ _ trivial (fun _ => ?_)
                  clear hK K
                  refine wpAnyH_takeL (i := 7) (v := ?_) rfl (by kernel_rfl) (by kernel_rfl) (by kernel_rfl) (fun _ _ _ h => h) (Or.inl ⟨by kernel_rfl, ?_⟩) trivial ?_
                  rotate_left
                  · intro V _
                    go_simp
                    (try with_reducible rfl)
                  simp only [put_list, List.set_cons_succ, List.set_cons_zero]
                  refine wpAnyH_done (by kernel_rfl) ?_ _
                  go_wp2
                  all_goals go_roundw
                  all_goals first
                    | exact ⟨j + 1, by omega, by go_num, HPN⟩
                    | (simp [intOf]; omega)
                · go_simp
                  refine hK.out _ _ trivial (fun _ => ?_)
                  clear hK K
                  refine wpAnyH_ready (rs := [2]) (by kernel_rfl) (by simp) (AllReadyH.cons rfl (fun K hK => ?_) (AllReadyH.nil))
                  go_simp
                  refine HDO.out.mono ?_
                  rintro r w5 ⟨rfl, hc5, HPN⟩
                  refine hK.out _ _ trivial (fun _ => ?_)
                  clear hK K
                  refine wpAnyH_takeL (i := 7) (v := ?_) rfl (by kernel_rfl) (by kernel_rfl) (by kernel_rfl) (fun _ _ _ h => h) (Or.inl ⟨by kernel_rfl, ?_⟩) trivial ?_
                  rotate_left
                  · intro V _
                    go_simp
                    (try with_reducible rfl)
                  simp only [put_list, List.set_cons_succ, List.set_cons_zero]
                  refine wpAnyH_done (by kernel_rfl) ?_ _
                  go_wp2
                  all_goals go_roundw
                  all_goals first
                    | exact ⟨j + 1, by omega, by go_num, HPN⟩
                    | (simp [intOf]; omega)
              · go_simp
                refine hK.out _ _ trivial (fun _ => ?_)
                clear hK K
                refine wpAnyH_ready (rs := [1]) (by kernel_rfl) (by simp) (AllReadyH.cons rfl (fun K hK => ?_) (AllReadyH.nil))
                go_simp
                refine hK.out _ _ trivial (fun _ => ?_)
                clear hK K
                refine wpAnyH_ready (rs := [2]) (by kernel_rfl) (by simp) (AllReadyH.cons rfl (fun K hK => ?_) (AllReadyH.nil))
                go_simp
                refine HDO.out.mono ?_
                rintro r w5 ⟨rfl, hc5, HPN⟩
                refine hK.out _ _ trivial (fun _ => ?_)
                clear hK K
                refine wpAnyH_takeL (i := 7) (v := ?_) rfl (by kernel_rfl) (by kernel_rfl) (by kernel_rfl) (fun _ _ _ h => h) (Or.inl ⟨by kernel_rfl, ?_⟩) trivial ?_
                rotate_left
                · intro V _
                  go_simp
                  (try with_reducible rfl)
                simp only [put_list, List.set_cons_succ, List.set_cons_zero]
                refine wpAnyH_done (by kernel_rfl) ?_ _
                go_wp2
                all_goals go_roundw
                all_goals first
                  | exact ⟨j + 1, by omega, by go_num, HPN⟩
                  | (simp [intOf]; omega)
            · have hjl' : j = M.length := by omega
              subst hjl'
              rw [List.take_length] at hin
              have hpr := hin.out
              have HKEEP : Hid (∀ k, W9.heap.size ≤ k → k < W11.heap.size → k < wr.heap.size ∧ wr.heap[k]? = W11.heap[k]?) := fun k h1 h2 => by
                have hk := HPY.out.1 k h1 h2
                obtain ⟨r1, s1, r2, s2, _, _, _, _, _, _, _, h8, _⟩ := hpr.ex
                exact ⟨(h8 k hk).2.2, hpr.same k hk⟩
              have HPE := hideP hpr
              have hfl := hpr.files
              clear hin hpr
              go_wp2_with fail
              refine hfl.mono ?_
              rintro r X1 ⟨p1, m1, k1, rfl, HG1, hx1⟩
              clear hfl
              have HX1 := hideP hx1
              clear hx1
              have hsm := same_true HG1.out (HFA.out.to (w' := X1) (fun k h1 h2 => (HX1.out.block k (HKEEP.out k h1 h2).1).trans (HKEEP.out k h1 h2).2))
              go_wp2_with fail
              refine hsm.mono ?_
              rintro r X2 ⟨rfl, hx2⟩
              clear hsm
              have HX2 : Hid (Below wr.heap.size wr X2) := HX1.out.trans (hx2.mono HX1.out.size)
              clear hx2
              have hsf := (HPE.out.still HX2.out).safe
              go_wp2_with fail
              refine hsf.mono ?_
              rintro r X3 ⟨p3, m3, k3, rfl, HG3, hx3⟩
              clear hsf
              have HX3 : Hid (Below wr.heap.size wr X3) := HX2.out.trans (hx3.mono HX2.out.size)
              clear hx3
              have hsm := same_true HG3.out (HF11.out.to (w' := X3) (fun k h1 h2 => (HX3.out.block k (HKEEP.out k (Nat.le_trans HPY.out.2.2.2 h1) h2).1).trans (HKEEP.out k (Nat.le_trans HPY.out.2.2.2 h1) h2).2))
              go_wp2_with fail
              refine hsm.mono ?_
              rintro r X4 ⟨rfl, hx4⟩
              clear hsm
              have HX4 : Hid (Below wr.heap.size wr X4) := HX3.out.trans (hx4.mono HX3.out.size)
              clear hx4
              have hops := (HPE.out.still HX4.out).ops
              rw [HBO.out] at hops
              have hee : (bo == bo) = true := by simp
              go_wp2_with fail
              refine hops.mono ?_
              rintro r x12 ⟨rfl, rfl⟩
              clear hops
              have hfl := (HPE.out.still HX4.out).swap.files
              go_wp2_with fail
              refine hfl.mono ?_
              rintro r X5 ⟨p5, m5, k5, rfl, HG5, hx5⟩
              clear hfl
              have HX5 : Hid (Below wr.heap.size wr X5) := HX4.out.trans (hx5.mono HX4.out.size)
              clear hx5
              have hsm := same_true HG5.out (HFA.out.to (w' := X5) (fun k h1 h2 => (HX5.out.block k (HKEEP.out k h1 h2).1).trans (HKEEP.out k h1 h2).2))
              go_wp2_with fail
              refine hsm.mono ?_
              rintro r X6 ⟨rfl, hx6⟩
              clear hsm
              have HX6 : Hid (Below wr.heap.size wr X6) := HX5.out.trans (hx6.mono HX5.out.size)
              clear hx6
              go_wp2
              go_ret
              exact ⟨rfl, HBW2.out.trans ((HPE.out.below.trans (HX6.out.mono HPE.out.below.size)).mono HBW2.out.size)⟩

end Go.Proofs.Ytcceaokldphfgaa
