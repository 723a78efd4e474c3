/- YtcceaokldphfgaaDiskSyncedC48 -/
import Derived.Test.YtcceaokldphfgaaDiskSyncedC47
namespace Go.Proofs.Ytcceaokldphfgaa
open Go.RowKit Go.Shelf

/-- A plan that can be read. -/
structure PlanAt (w : World) (a1 a2 a3 : Option Addr) (c1 c2 c3 : Nat) (cr ro : Int) (keep fail full : List Int) : Prop where
  rK : RdS w a1 c1 (keep.map (Value.int .i64)) 8
  rF : RdS w a2 c2 (fail.map (Value.int .i64)) 8
  rU : RdS w a3 c3 (full.map (Value.int .i64)) 8
  iC : I64 cr
  iR : I64 ro
  iK : ∀ x ∈ keep, I64 x
  iF : ∀ x ∈ fail, I64 x
  iU : ∀ x ∈ full, I64 x
  lK : keep.length * 8 ≤ 140737488351232
  lF : fail.length * 8 ≤ 140737488351232
  lU : full.length * 8 ≤ 140737488351232

abbrev planV (a1 a2 a3 : Option Addr) (c1 c2 c3 : Nat) (cr ro : Int) (keep fail full : List Int) : Value := .agg #[.int .i64 cr, .slice a1 keep.length c1, .slice a2 fail.length c2, .slice a3 full.length c3, .int .i64 ro]

theorem PlanAt.later {w w' : World} {a1 a2 a3 : Option Addr} {c1 c2 c3 : Nat} {cr ro : Int} {keep fail full : List Int} (h : PlanAt w a1 a2 a3 c1 c2 c3 cr ro keep fail full) (hb : Below w.heap.size w w') : PlanAt w' a1 a2 a3 c1 c2 c3 cr ro keep fail full :=
  { h with rK := h.rK.later hb, rF := h.rF.later hb, rU := h.rU.later hb }

theorem ri_own {w w' : World} {v : Value} {l : List Int} (ho : w'.ownsRow w.heap.size 3 1 v (l.map (Value.int .i64)).length (l.map (Value.int .i64))) : RdI w' v l ∧ ∀ a n c, v = .slice (some a) n c → a.block < w'.heap.size := by
  rw [List.length_map] at ho
  refine ⟨RdI.of_own ho, fun a n c e => ?_⟩
  rcases ho.2 with ⟨e0, _⟩ | ⟨g, cap, cur, e0, _, hg, _⟩
  · rw [e0] at e; simp at e
  · rw [e0] at e
    simp only [Value.slice.injEq, Option.some.injEq] at e
    rw [← e.1]
    exact (Array.getElem?_eq_some_iff.1 hg).1

/-- A plan's twin, and a disk that goes by it. -/
theorem newTwin {w : World} {a1 a2 a3 : Option Addr} {c1 c2 c3 : Nat} {cr ro : Int} {keep fail full : List Int} (h : PlanAt w a1 a2 a3 c1 c2 c3 cr ro keep fail full) :
    Calls Try.prog 11 #[planV a1 a2 a3 c1 c2 c3 cr ro keep fail full] w fun r w1 => ∃ v1 v2 v3, r = .returned (.agg #[.int .i64 cr, v1, v2, v3, .int .i64 ro]) ∧ Hid (Calls Try.prog 12 #[.agg #[.int .i64 cr, v1, v2, v3, .int .i64 ro]] w1 fun r w2 => ∃ D, r = .returned (.pointer (some ⟨D, 0, none⟩)) ∧
      Hid (∃ role s, DiskOK w2 role D s ∧ Stp noRole role w w2 ∧ abs s = { dead := false, crash := cr, room := ro, ops := 0, keep := keep, fail := fail, full := full, fs := [] })) := by
  have hp := planTwin_new w cr ro a1 a2 a3 c1 c2 c3 _ _ _ h.rK h.rF h.rU
  simp only [List.length_map] at hp
  refine hp.mono ?_
  rintro r w1 ⟨v1, v2, v3, rfl, hb, o1, o2, o3⟩
  refine ⟨v1, v2, v3, rfl, ?_⟩
  obtain ⟨r1, b1⟩ := ri_own (w := w) (by rw [List.length_map]; exact o1)
  obtain ⟨r2, b2⟩ := ri_own (w := w) (by rw [List.length_map]; exact o2)
  obtain ⟨r3, b3⟩ := ri_own (w := w) (by rw [List.length_map]; exact o3)
  refine (new_any cr ro v1 v2 v3 keep fail full w1 r1 r2 r3 h.lK h.lF h.lU b1 b2 b3 h.iK h.iF h.iU h.iC h.iR).mono ?_
  rintro r w2 ⟨D, rfl, _, role, s, q1, q2, q3, q4, q5, q6, q7, q8, q9, q10⟩
  refine ⟨D, rfl, role, s, q1, (Stp.still hb).trans q2, ?_⟩
  simp [abs, q3, q4, q5, q6, q7, q8, q9, q10]

theorem conv_out {w : World} {B : Nat} {v : Value} {l : List UInt8} (h : w.ownsRow B 5 1 v l.length (l.map byteV)) : (convert 33 9 v).run Try.prog w = .ok (.string ⟨l.toArray⟩) w := by
  rcases h.2 with ⟨rfl, e⟩ | ⟨g, cap, cur, rfl, _⟩
  · have : l = [] := List.eq_nil_of_length_eq_zero e
    subst this
    exact run_convert_bytes_nil (P := Try.prog) w 33 5 Try.underlying33 Try.underlying5 0 0 9 Try.underlying9
  · refine run_convert_bytes_back (P := Try.prog) w 33 9 5 ⟨g, 0, none⟩ cap l Try.underlying33 Try.underlying5 Try.underlying9 (fun j hj => ?_)
    obtain ⟨_, _, e, _, hc⟩ := Rd.of_own (own_zero h)
    cases e
    obtain ⟨ad, ea, hc⟩ := hc j _ (List.getElem?_eq_getElem hj)
    cases ea
    exact hc

set_option maxHeartbeats 4000000 in
set_option maxRecDepth 100000 in
theorem synced_any {w : World} {a1 a2 a3 : Option Addr} {c1 c2 c3 : Nat} {cr ro : Int} {keep fail full : List Int} {v : Value} {L : List AOp} {t : ByteArray} (hp : PlanAt w a1 a2 a3 c1 c2 c3 cr ro keep fail full) (hL : OpsAt w v L) :
    Calls Try.prog 5 #[planV a1 a2 a3 c1 c2 c3 cr ro keep fail full, v, .string t] w fun r w' => r = .returned (.bool true) ∧ Below w.heap.size w w' := by
  unfold planV
  obtain ⟨av, cv, hv⟩ : ∃ a c, v = .slice a L.length c := by
    rcases hL with ⟨h0, a, c, h⟩ | ⟨blk, off, cap, h, _⟩
    · exact ⟨a, c, by rw [h, h0]; rfl⟩
    · exact ⟨_, _, h⟩
  generalize hn1 : keep.length = n1
  generalize hn2 : fail.length = n2
  generalize hn3 : full.length = n3
  obtain ⟨W0, hW0⟩ : ∃ W0, W0 = w.alloc (.cells #[.int .i64 cr, .slice a1 n1 c1, .slice a2 n2 c2, .slice a3 n3 c3, .int .i64 ro] 24) := ⟨_, rfl⟩
  have hb0 : Below w.heap.size w W0 := by rw [hW0]; exact (Below.refl _ w).alloc (Nat.le_refl _) _
  have hB0 : W0.heap[w.heap.size]? = some (.cells #[.int .i64 cr, .slice a1 n1 c1, .slice a2 n2 c2, .slice a3 n3 c3, .int .i64 ro] 24 (0, 0)) := by rw [hW0]; exact World.alloc_heap_new w _
  have hz0 : w.heap.size < W0.heap.size := (Array.getElem?_eq_some_iff.1 hB0).1
  have haw := awake_any W0
  have HP := hideP hp
  have HLL := hideP hL
  have HW0 := hideP hW0
  have HB0 := hideP hB0
  have HBW0 := hideP hb0
  have HZ0 := hideP hz0
  have HN : Hid (keep.length = n1 ∧ fail.length = n2 ∧ full.length = n3) := ⟨hn1, hn2, hn3⟩
  clear hp hL hW0 hB0 hb0 hz0 hn1 hn2 hn3
  subst hv
  go_enter Try.func5, Try.ntmps5
  go_wp2_with fail
  rw [← HW0.out]
  refine haw.mono ?_
  rintro r W1 ⟨rfl, hb1⟩
  clear haw
  have HBW1 := hideP (HBW0.out.trans (hb1.mono (Nat.le_of_lt HZ0.out)))
  have HB1 := hideP ((hb1.block _ HZ0.out).trans HB0.out)
  have hfew := few_D W1 _ L (HLL.out.later HBW1.out)
  clear hb1
  go_wp2_with fail
  refine hfew.mono ?_
  rintro r W2 ⟨⟨b, rfl, hb60⟩, hb2⟩
  clear hfew
  have HBW2 := hideP (HBW1.out.trans (hb2.mono HBW1.out.size))
  have hB2 := (hb2.block _ (Array.getElem?_eq_some_iff.1 HB1.out).1).trans HB1.out
  cases b with
  | false =>
    clear hB2 hb2
    go_wp2
    go_ret
    exact ⟨rfl, HBW2.out⟩
  | true =>
    have h60 := hb60 rfl
    clear hb60 hb2
    have u0 : W2.cell? ⟨w.heap.size, 0, none⟩ = some (.int .i64 cr) := blk_cell hB2 rfl
    have u1 : W2.cell? ⟨w.heap.size, 1, none⟩ = some (.slice a1 n1 c1) := blk_cell hB2 rfl
    have u2 : W2.cell? ⟨w.heap.size, 2, none⟩ = some (.slice a2 n2 c2) := blk_cell hB2 rfl
    have u3 : W2.cell? ⟨w.heap.size, 3, none⟩ = some (.slice a3 n3 c3) := blk_cell hB2 rfl
    have u4 : W2.cell? ⟨w.heap.size, 4, none⟩ = some (.int .i64 ro) := blk_cell hB2 rfl
    have hnt := newTwin (HP.out.later HBW2.out)
    unfold planV at hnt
    rw [HN.out.1, HN.out.2.1, HN.out.2.2] at hnt
    have HNT := hideP hnt
    have H60 := hideP h60
    clear hB2 hnt h60
    go_wp2_with fail
    refine HNT.out.mono ?_
    rintro r W3 ⟨v1, v2, v3, rfl, HNW⟩
    clear u0 u1 u2 u3 u4
    go_wp2_with fail
    refine HNW.out.mono ?_
    rintro r W4 ⟨D, rfl, role, s, hd4, hs4, ha4⟩
    have hop0 : s.ops ≤ 0 := by
      have h5 : (abs s).ops = 0 := by rw [ha4]
      have h6 : (abs s).ops = s.ops := rfl
      omega
    have hl0 : Hid (Lives W2 W4 D 0) := ⟨role, s, hd4, hs4, by rw [ha4]; exact ⟨fun f hf => by simp at hf, fun e => by simp at e⟩, hop0⟩
    clear hd4 hs4 ha4 HNW hop0
    go_wp2
    go_loopw [28] (fun i wr => ∃ j : Nat, j ≤ L.length ∧ i = .int .i64 j ∧ Hid (Lives W2 wr D j)) (fun i _ => L.length - (intOf i).toNat)
    case atStart => exact ⟨0, Nat.zero_le _, rfl, hl0⟩
    case round =>
      obtain ⟨j, hj, rfl, hlv⟩ := hrel
      by_cases hjl : j < L.length
      · have hbr : Below w.heap.size w wr := by
          obtain ⟨role, s, g1, g2, _⟩ := hlv.out
          exact HBW2.out.trans (g2.below.mono HBW2.out.size)
        obtain ⟨blk, off, rfl, b0, b1, b2, b3, d0, d1, d2, d3, hop, hcell⟩ : ∃ blk off, av = some ⟨blk, off, none⟩ ∧ ∃ a a1 a2 a3 c c1 c2 c3, OpAt wr a a1 a2 a3 c c1 c2 c3 L[j] ∧ ∀ (i : Nat) (u : Value), (opC a a1 a2 a3 c c1 c2 c3 L[j])[i]? = some u → wr.cell? ⟨blk, off + j * 11 + i, none⟩ = some u := by
          rcases HLL.out.later hbr with ⟨h0, _⟩ | ⟨blk, off, cap, h1, _, _, h4⟩
          · rw [h0] at hjl; simp at hjl
          · simp only [Value.slice.injEq] at h1
            exact ⟨blk, off, h1.1, h4 j L[j] (by simp [hjl])⟩
        have m0 := hcell 0 _ rfl
        have m1 := hcell 1 _ rfl
        have m2 := hcell 2 _ rfl
        have m3 := hcell 3 _ rfl
        have m4 := hcell 4 _ rfl
        have m5 := hcell 5 _ rfl
        have m6 := hcell 6 _ rfl
        have m7 := hcell 7 _ rfl
        have m8 := hcell 8 _ rfl
        have m9 := hcell 9 _ rfl
        have m10 := hcell 10 _ rfl
        simp only [Nat.add_zero] at m0
        have h60 := H60.out
        have hba : ∀ o, Below wr.heap.size wr (wr.alloc o) := fun o => (Below.refl _ wr).alloc (Nat.le_refl _) o
        by_cases h7 : L[j].kind = 7
        · have hq7 : (L[j].kind != 7) = false := by simp [h7]
          have HST : Hid (∀ o, Lives W2 (wr.alloc o) D (j + 1)) := fun o => by
            obtain ⟨role, s, g1, g2, g3, g4⟩ := hlv.out.still (hba o)
            exact ⟨role, s, g1, g2, g3, by omega⟩
          clear hcell hop hba hbr hlv
          go_wp2
          go_roundw
          case rel => exact ⟨j + 1, by omega, by go_num, HST.out _⟩
          case measure => simp [intOf]; omega
        · have hq7 : (L[j].kind != 7) = true := by simp [h7]
          have hdo := Lives.does (hlv.out.still (hba (.cells #[.int .i64 L[j].kind, .string L[j].name, .string L[j].to, .int .i64 L[j].at_, .int .i64 L[j].long, .slice b0 L[j].data.length d0, .int .i64 L[j].crash, .slice b1 L[j].keep.length d1, .slice b2 L[j].fail.length d2, .slice b3 L[j].full.length d3, .int .i64 L[j].room] 35))) (by have := H60.out; omega) (hop.later (hba _)) h7
          unfold opV at hdo
          have HDO := hideP hdo
          clear hcell hop hba hbr hlv hdo h7
          go_wp2_with fail
          refine HDO.out.mono ?_
          rintro r w5 ⟨⟨e, rfl⟩, HLV⟩
          go_wp2
          go_roundw
          case rel => exact ⟨j + 1, by omega, by go_num, HLV⟩
          case measure => simp [intOf]; omega
      · have hjl' : j = L.length := by omega
        subst hjl'
        obtain ⟨role, s, hd, hs, hc, ho⟩ := hlv.out
        have h60 := H60.out
        have hsz := size_D hd t
        have HD := hideP hd
        have HS := hideP hs
        have HC := hideP hc
        have HO := hideP ho
        clear hlv hd hs hc ho
        by_cases h0 : (sizeA (abs s) t).2 = 0
        · rw [h0] at hsz
          have HH0 := hideP h0
          obtain ⟨n, hn⟩ : ∃ n, n = (sizeA (abs s) t).1 := ⟨_, rfl⟩
          rw [← hn] at hsz
          have HNN := hideP hn
          clear h0 hn
          go_wp2_with fail
          refine hsz.mono ?_
          rintro r w5 ⟨rfl, rfl⟩
          clear hsz
          have hsy := sync_D HD.out (by have := HO.out; omega) t
          by_cases hy : (syncA (abs s) t).2 = 0
          · obtain ⟨l, f1, f2, f3, f4, f5⟩ := synced_fact HC.out HH0.out hy
            rw [← HNN.out] at f1 f2 f4 f5
            have hn28 : I64 (n : Int) := by
              obtain ⟨_, f, hf, hz⟩ := size_zero HH0.out
              have hnf : n = f.data.length := by rw [HNN.out, hz]
              have hf2 : findF s.fs t ≠ none := fun e => by
                have : findA (abs s).fs t = (findF s.fs t).map (·.a) := find_fn s.fs t
                rw [hf, e] at this; cases this
              obtain ⟨g, hg⟩ := Option.ne_none_iff_exists'.1 hf2
              have hga : findA (abs s).fs t = (findF s.fs t).map (·.a) := find_fn s.fs t
              rw [hf, hg] at hga
              simp only [Option.map_some, Option.some.injEq] at hga
              have := (HD.out.each g (List.mem_of_find?_eq_some hg)).ldata
              rw [hnf, hga]
              constructor <;> omega
            have HSY : Hid (Calls Try.prog 26 #[.pointer (some ⟨D, 0, none⟩), .string t] wr fun r w6 => r = .returned (.int .i64 0) ∧ Hid (Calls Try.prog 17 #[.pointer (some ⟨D, 0, none⟩), .string t, .int .i64 0, .int .i64 n] w6 fun r w7 => ∃ q m c, r = .returned (.tuple #[.slice q m c, .int .i64 0]) ∧
                Hid (Calls Try.prog 27 #[.pointer (some ⟨D, 0, none⟩), .agg #[.int .i64 0, .slice none 0 0, .slice none 0 0, .slice none 0 0, .int .i64 0]] w7 fun r w8 => r = .returned (.int .i64 0) ∧
                  Hid (Calls Try.prog 24 #[.pointer (some ⟨D, 0, none⟩), .string t] w8 fun r w' => r = .returned (.tuple #[.int .i64 n, .int .i64 0]) ∧ w8 = w') ∧
                  Hid (Calls Try.prog 17 #[.pointer (some ⟨D, 0, none⟩), .string t, .int .i64 0, .int .i64 n] w8 fun r w9 => ∃ q' m' c', r = .returned (.tuple #[.slice q' m' c', .int .i64 0]) ∧ (convert 33 9 (.slice q m c)).run Try.prog w9 = .ok (.string ⟨l.toArray⟩) w9 ∧ (convert 33 9 (.slice q' m' c')).run Try.prog w9 = .ok (.string ⟨l.toArray⟩) w9 ∧ Hid (Below w.heap.size w w9))))) := by
              refine hsy.mono ?_
              rintro r w6 ⟨rfl, role6, s6, d6, p6, e6⟩
              refine ⟨by rw [hy], ?_⟩
              have hr6 := read_D d6 t 0 n ⟨by simp, by simp⟩ hn28
              rw [e6, f2] at hr6
              refine hr6.mono ?_
              rintro r w7 ⟨v7, rfl, o7, b7⟩
              obtain ⟨q, c, rfl⟩ := own_shape o7
              refine ⟨_, _, _, rfl, ?_⟩
              have d7 := d6.still b7
              have hst := start_D d7 (fun e => by have : (abs s6).dead = true := e; rw [e6, f3] at this; cases this) 0 0 (.slice none 0 0) (.slice none 0 0) (.slice none 0 0) [] [] [] (PlanArg.nil _ _) (PlanArg.nil _ _) (PlanArg.nil _ _) ⟨by simp, by simp⟩ ⟨by simp, by simp⟩
              refine hst.mono ?_
              rintro r w8 ⟨rfl, role8, s8, d8, p8, e8⟩
              rw [e6] at e8
              have hs8 := size_D d8 t
              rw [e8, f4] at hs8
              have hr8 := read_D d8 t 0 n ⟨by simp, by simp⟩ hn28
              rw [e8, f5] at hr8
              refine ⟨rfl, hs8, hr8.mono ?_⟩
              rintro r w9 ⟨v9, rfl, o9, b9⟩
              obtain ⟨q', c', rfl⟩ := own_shape o9
              have o8 : w8.ownsRow w6.heap.size 5 1 (.slice q l.length c) l.length (l.map byteV) := row_to o7 (Nat.le_refl _) fun k hk hl => p8.keep k hl (.inl (no_role d6 hk))
              refine ⟨_, _, _, rfl, conv_out (own_below o8 b9), conv_out o9, ?_⟩
              have q9 := ((HS.out.trans p6).trans (Stp.still b7)).trans p8
              exact HBW2.out.trans ((q9.below.trans (b9.mono q9.size)).mono HBW2.out.size)
            clear hsy hy f1 f2 f3 f4 f5 hn28
            go_wp2_with fail
            refine HSY.out.mono ?_
            rintro r w6 ⟨rfl, HR6⟩
            go_wp2_with fail
            refine HR6.out.mono ?_
            rintro r w7 ⟨q, m, c, rfl, HS7⟩
            go_wp2_with fail
            refine HS7.out.mono ?_
            rintro r w8 ⟨rfl, HZ8, HR8⟩
            go_wp2_with fail
            refine HZ8.out.mono ?_
            rintro r w9 ⟨rfl, rfl⟩
            go_wp2_with fail
            refine HR8.out.mono ?_
            rintro r w10 ⟨q', m', c', rfl, k1, k2, HB9⟩
            have hse : ((⟨l.toArray⟩ : ByteArray).toList == (⟨l.toArray⟩ : ByteArray).toList) = true := by simp
            have hnn : ((n : Int) == (n : Int)) = true := by simp
            go_wp2
            go_ret
            exact ⟨rfl, HB9.out⟩
          · have hq : ((syncA (abs s) t).2 != 0) = true := by simp [hy]
            have HSY : Hid (Calls Try.prog 26 #[.pointer (some ⟨D, 0, none⟩), .string t] wr fun r w6 => r = .returned (.int .i64 (syncA (abs s) t).2) ∧ Hid (Below w.heap.size w w6)) := by
              refine hsy.mono ?_
              rintro r w6 ⟨rfl, role6, s6, d6, p6, e6⟩
              exact ⟨rfl, HBW2.out.trans ((HS.out.trans p6).below.mono HBW2.out.size)⟩
            clear hsy hy
            go_wp2_with fail
            refine HSY.out.mono ?_
            rintro r w6 ⟨rfl, HB6⟩
            go_wp2
            go_ret
            exact ⟨rfl, HB6.out⟩
        · have hq : ((sizeA (abs s) t).2 != 0) = true := by simp [h0]
          have HBF : Hid (Below w.heap.size w wr) := HBW2.out.trans (HS.out.below.mono HBW2.out.size)
          clear h0
          go_wp2_with fail
          refine hsz.mono ?_
          rintro r w5 ⟨rfl, rfl⟩
          clear hsz
          go_wp2
          go_ret
          exact ⟨rfl, HBF.out⟩

end Go.Proofs.Ytcceaokldphfgaa
