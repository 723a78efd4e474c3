/-
  The document's reading of texts.
-/
import Derived.Test.YtpnijncoldihfaaTextsC42
namespace Go.Proofs.Ytpnijncoldihfaa
open Go.RowKit Go.Shelf

theorem RI.setT {t : Nat} {w wr : World} {V V' : Nat} {z0 z1 z2 z3 : Int} (I : RI t w wr V) (hz : wv V' = .agg #[.int .u64 z0, .int .u64 z1, .int .u64 z2, .int .u64 z3]) :
    RI t w ((((wr.setCell ⟨w.heap.size + 1, 0, none⟩ (.int .u64 z0)).setCell ⟨w.heap.size + 1, 1, none⟩ (.int .u64 z1)).setCell ⟨w.heap.size + 1, 2, none⟩ (.int .u64 z2)).setCell ⟨w.heap.size + 1, 3, none⟩ (.int .u64 z3)) V' := by
  refine ⟨(other4 (by omega)).trans I.r, ?_, below_stored4 I.b (by omega)⟩
  rw [c4_form hz]
  exact stored4 I.x

theorem RI.moveT {t : Nat} {w wr V : World} {N : Nat} (I : RI t w wr N) (hb : Below wr.heap.size wr V) : RI t w V N :=
  ⟨(hb.block _ (lt_of_block I.r)).trans I.r, (hb.block _ (lt_of_block I.x)).trans I.x, I.b.trans (hb.mono I.b.size)⟩

set_option maxHeartbeats 16000000 in
set_option maxRecDepth 100000 in
theorem refParse_long (s : ByteArray) (h : 80 < s.size) (w : World) : Calls Try.prog 75 #[.string s] w fun e w' => e = .returned (.tuple #[wv 0, .int .i64 2]) ∧ Below w.heap.size w w' := by
  have g : (s.size : Int) > 80 := by omega
  have g' : (80 : Int) < (s.size : Int) := by omega
  clear h
  go_enter Try.func75, Try.ntmps75
  go_wp2_with fail
  refine bodyPost_ret (v := .tuple #[.agg #[.int .u64 0, .int .u64 0, .int .u64 0, .int .u64 0], .int .i64 2]) (by simp [results, Try.results75, go_sem]) rfl ⟨rfl, ?_⟩
  repeat first | exact Below.refl _ _ | (refine Below.alloc ?_ (by simp <;> omega) _) | (refine Below.setCell ?_ (by simp <;> omega) _)

set_option maxHeartbeats 16000000 in
set_option maxRecDepth 100000 in
theorem refParse_zero (s : ByteArray) (h80 : ¬ 80 < s.size) (h1 : 1 < s.size) (h0 : sb s 0 = 48) (hx : sb s 1 ≠ 120) (w : World) : Calls Try.prog 75 #[.string s] w fun e w' => e = .returned (pres none) ∧ Below w.heap.size w w' := by
  have g : ¬ (s.size : Int) > 80 := by omega
  have g' : ¬ (80 : Int) < (s.size : Int) := by omega
  have g1 : (s.size : Int) > 1 := by omega
  have g1' : (1 : Int) < (s.size : Int) := by omega
  have g2 : (2 : Int) ≤ (s.size : Int) := by omega
  have hi0 := fun W => index_sb s 0 (by omega) W
  rw [h0] at hi0
  have hix0 : ∀ W : World, (Instr.index 9 (.string s) (.int .i64 0)).run Try.prog W = .ok (.int .u8 48) W := hi0
  have hix1 : ∀ W : World, (Instr.index 9 (.string s) (.int .i64 1)).run Try.prog W = .ok (.int .u8 (sb s 1)) W := fun W => index_sb s 1 (by omega) W
  have g3 : ¬ ((sb s 1 : Nat) : Int) = 120 := by omega
  have g4 : (((sb s 1 : Nat) : Int) == 120) = false := by simp; omega
  generalize sb s 1 = c1 at *
  clear h80 h1 h0 hx hi0
  go_enter Try.func75, Try.ntmps75
  go_wp2_with fail
  refine bodyPost_ret (v := .tuple #[.agg #[.int .u64 0, .int .u64 0, .int .u64 0, .int .u64 0], .int .i64 20]) (by simp [results, Try.results75, go_sem]) rfl ⟨rfl, ?_⟩
  repeat first | exact Below.refl _ _ | (refine Below.alloc ?_ (by simp <;> omega) _) | (refine Below.setCell ?_ (by simp <;> omega) _)

theorem cut_rest (s : ByteArray) (h : 2 ≤ s.size) (W : World) : (Instr.sliceAt 9 (.string s) (some (.int .i64 2)) none none).run Try.prog W = .ok (.string (restS s)) W := by
  have g : (2 : Int) ≤ (s.size : Int) := by omega
  unfold restS
  simp [go_sem, g]

set_option maxHeartbeats 16000000 in
set_option maxRecDepth 100000 in
theorem refParse_hex0 (s : ByteArray) (h80 : ¬ 80 < s.size) (h2 : 2 ≤ s.size) (h0 : sb s 0 = 48) (h1 : sb s 1 = 120) (hr : (restS s).size = 0 ∨ 64 < (restS s).size) (w : World) : Calls Try.prog 75 #[.string s] w fun e w' => e = .returned (pres none) ∧ Below w.heap.size w w' := by
  have g : ¬ (s.size : Int) > 80 := by omega
  have g' : ¬ (80 : Int) < (s.size : Int) := by omega
  have g2 : (2 : Int) ≤ (s.size : Int) := by omega
  have hi0 := fun W => index_sb s 0 (by omega) W
  rw [h0] at hi0
  have hix0 : ∀ W : World, (Instr.index 9 (.string s) (.int .i64 0)).run Try.prog W = .ok (.int .u8 48) W := hi0
  have hi1 := fun W => index_sb s 1 (by omega) W
  rw [h1] at hi1
  have hix1 : ∀ W : World, (Instr.index 9 (.string s) (.int .i64 1)).run Try.prog W = .ok (.int .u8 120) W := hi1
  have hcut : ∀ W : World, (Instr.sliceAt 9 (.string s) (some (.int .i64 2)) none none).run Try.prog W = .ok (.string (restS s)) W := fun W => cut_rest s h2 W
  generalize restS s = s1 at *
  have HS1 := hideP hr
  clear h80 h2 h0 h1 hi0 hi1 hr
  rcases HS1.out with hr | hr
  · have e0 : (s1.size : Int) = 0 := by omega
    clear hr HS1
    go_enter Try.func75, Try.ntmps75
    go_wp2_with fail
    refine bodyPost_ret (v := .tuple #[.agg #[.int .u64 0, .int .u64 0, .int .u64 0, .int .u64 0], .int .i64 20]) (by simp [results, Try.results75, go_sem]) rfl ⟨rfl, ?_⟩
    repeat first | exact Below.refl _ _ | (refine Below.alloc ?_ (by simp <;> omega) _) | (refine Below.setCell ?_ (by simp <;> omega) _)
  · have e0 : ¬ (s1.size : Int) = 0 := by omega
    have e1 : (s1.size : Int) > 64 := by omega
    have e1' : (64 : Int) < (s1.size : Int) := by omega
    have e2 : ((s1.size : Int) == 0) = false := beq_eq_false_iff_ne.2 e0
    clear hr HS1
    go_enter Try.func75, Try.ntmps75
    go_wp2_with fail
    refine bodyPost_ret (v := .tuple #[.agg #[.int .u64 0, .int .u64 0, .int .u64 0, .int .u64 0], .int .i64 20]) (by simp [results, Try.results75, go_sem]) rfl ⟨rfl, ?_⟩
    repeat first | exact Below.refl _ _ | (refine Below.alloc ?_ (by simp <;> omega) _) | (refine Below.setCell ?_ (by simp <;> omega) _)

set_option maxHeartbeats 16000000 in
set_option maxRecDepth 100000 in
theorem refParse_hex1 (s : ByteArray) (h80 : ¬ 80 < s.size) (h2 : 2 ≤ s.size) (h0 : sb s 0 = 48) (h1 : sb s 1 = 120) (hr0 : (restS s).size ≠ 0) (hr1 : ¬ 64 < (restS s).size) (w : World) : Calls Try.prog 75 #[.string s] w fun e w' => e = .returned (pres (pre 16 (sb (restS s)) (restS s).size)) ∧ Below w.heap.size w w' := by
  have g : ¬ (s.size : Int) > 80 := by omega
  have g' : ¬ (80 : Int) < (s.size : Int) := by omega
  have g2 : (2 : Int) ≤ (s.size : Int) := by omega
  have hi0 := fun W => index_sb s 0 (by omega) W
  rw [h0] at hi0
  have hix0 : ∀ W : World, (Instr.index 9 (.string s) (.int .i64 0)).run Try.prog W = .ok (.int .u8 48) W := hi0
  have hi1 := fun W => index_sb s 1 (by omega) W
  rw [h1] at hi1
  have hix1 : ∀ W : World, (Instr.index 9 (.string s) (.int .i64 1)).run Try.prog W = .ok (.int .u8 120) W := hi1
  have hcut : ∀ W : World, (Instr.sliceAt 9 (.string s) (some (.int .i64 2)) none none).run Try.prog W = .ok (.string (restS s)) W := fun W => cut_rest s h2 W
  generalize restS s = s1 at *
  have e0 : ¬ (s1.size : Int) = 0 := by omega
  have e2 : ((s1.size : Int) == 0) = false := beq_eq_false_iff_ne.2 e0
  have e1 : ¬ (s1.size : Int) > 64 := by omega
  have e1' : ¬ (64 : Int) < (s1.size : Int) := by omega
  have HRES : Hid (∃ R, R = pres (pre 16 (sb s1) s1.size)) := ⟨_, rfl⟩
  obtain ⟨R, hR⟩ := HRES.out
  rw [← hR]
  clear HRES
  generalize hn : s1.size = n at *
  have HRES : Hid (R = pres (pre 16 (sb s1) n)) := hR
  have HNS : Hid (n ≤ 80) := (by omega : n ≤ 80)
  have HNN := hideP hn
  clear h80 h2 h0 h1 hi0 hi1 hr0 hr1 hR
  have HE : Hid (RI 23 w ((w.alloc (.cells #[.int .u64 0, .int .u64 0, .int .u64 0, .int .u64 0] 23 (0, 0))).alloc (.cells #[.int .u64 0, .int .u64 0, .int .u64 0, .int .u64 0] 23 (0, 0))) 0) :=
    ⟨(heap_old _ _ (by simp)).trans (heap_new _ _), by rw [show limb 0 = fun _ => 0 from limb_nought]; exact heap_new1 _ _ _, ((Below.refl _ w).alloc (Nat.le_refl _) _).alloc (by simp) _⟩
  go_enter Try.func75, Try.ntmps75
  go_wp2_with fail
  generalize (w.alloc (.cells #[.int .u64 0, .int .u64 0, .int .u64 0, .int .u64 0] 23 (0, 0))).alloc (.cells #[.int .u64 0, .int .u64 0, .int .u64 0, .int .u64 0] 23 (0, 0)) = W2 at HE ⊢
  go_loopw [7] (fun i wr => ∃ (k V : Nat), k ≤ n ∧ i = .int .i64 k ∧ pre 16 (sb s1) k = some V ∧ RI 23 w wr V) (fun i _ => n - (intOf i).toNat)
  case atStart => exact ⟨0, 0, Nat.zero_le _, rfl, rfl, HE.out⟩
  case round =>
    obtain ⟨k, V, hk, rfl, hpre, I⟩ := hrel
    have HI := hideP I
    have HPK := hideP hpre
    clear I HE hpre
    have hn48 := HNS.out
    have hsz := HNN.out
    by_cases hlt : k < n
    · have HN : Hid (k < n) := hlt
      have hix := fun W => index_sb s1 k (by omega) W
      have cd := fun W => refValue_any (sb s1 k) (sb_lt s1 k) W
      have hge := fun h : 16 ≤ digV (sb s1 k) => pre_none (pre_bad HPK.out (fun h' => absurd h'.1 (by omega))) n hlt
      have hov := fun h : ¬ V * 16 + digV (sb s1 k) < M256 => pre_none (pre_bad HPK.out (fun h' => h h'.2)) n hlt
      have hok := fun (h : digV (sb s1 k) < 16) (h' : V * 16 + digV (sb s1 k) < M256) => pre_good HPK.out ⟨h, h'⟩
      have HGE := hideP hge
      have HOV := hideP hov
      have HOK := hideP hok
      have HVM := hideP (pre_lt HPK.out)
      generalize digV (sb s1 k) = d at *
      generalize sb s1 k = c at *
      have g1 : (k : Int) < (n : Int) := by omega
      have e4 : IntKind.i64.wrap ((k : Int) + 1) = (k : Int) + 1 := by rw [IntKind.wrap_i64]; omega
      have CD := hideP cd
      clear cd hge hov hok hlt hk hn48
      go_wp2_with fail
      refine (CD.out _).mono ?_
      rintro e w' ⟨rfl, rfl⟩
      by_cases hd : 16 ≤ d
      · have g2 : (16 : Int) ≤ ((d : Nat) : Int) := by omega
        have HR := hideP (HRES.out.trans (congrArg pres (HGE.out hd)))
        obtain ⟨j0, j1, j2, j3⟩ := cells4 (show wr.heap[w.heap.size]? = some (.cells #[.int .u64 (0 : Nat), .int .u64 (0 : Nat), .int .u64 (0 : Nat), .int .u64 (0 : Nat)] 23 (0, 0)) from HI.out.r)
        have jf : ∀ o, wr.frozen? ⟨w.heap.size, o, none⟩ = false := fun o => blk_free (HI.out.r)
        have HL := hideP HI.out.b
        clear hd
        go_wp2_with fail
        refine bodyPost_ret (v := .tuple #[.agg #[.int .u64 0, .int .u64 0, .int .u64 0, .int .u64 0], .int .i64 20]) (by simp [results, Try.results75, go_sem, j0, j1, j2, j3, World.cell?_setCell_same]) rfl ⟨?_, ?_⟩
        · rw [HR.out]; rfl
        · exact below_stored4 HL.out (by omega)
      · have g2 : ¬ (16 : Int) ≤ ((d : Nat) : Int) := by omega
        have hdb : d < 16 := by omega
        have HD := hideP hdb
        have co := fun W => refOf_any 16 (by decide) W
        have ct := fun W => times_any V 16 W
        have cu := fun W => refOf_any d (by omega) W
        have cf := fun W => fromWord_any d W
        have cp := fun W => plus_any (V * 16) d W
        have cw := fun W => toWord_any (V * 16 + d) W
        rw [Nat.mod_eq_of_lt HVM.out, show 16 % M256 = 16 from Nat.mod_eq_of_lt (by decide)] at ct
        rw [Nat.mod_eq_of_lt (show d < M256 from Nat.lt_trans hdb (by decide))] at cf
        obtain ⟨y0, y1, y2, y3, hy⟩ := wv_form 16
        obtain ⟨u0, u1, u2, u3, hu⟩ := wv_form d
        obtain ⟨v0, v1, v2, v3, hv⟩ := wv_form V
        obtain ⟨z0, z1, z2, z3, hz⟩ := wv_form (V * 16 + d)
        simp only [hy, hu, hv, hz] at co ct cu cf cw
        have HCV := hideP (c4_form hv)
        have HZ := hideP hz
        have hxx := HI.out.x
        rw [HCV.out] at hxx
        obtain ⟨cx0, cx1, cx2, cx3⟩ := cells4 hxx
        have hlx := lt_of_block hxx
        have CO := hideP co
        have CT := hideP ct
        have CU := hideP cu
        have CF := hideP cf
        have CP := hideP cp
        have CW := hideP cw
        clear co ct cu cf cp cw hy hu hv hz hxx hd hdb
        go_wp2_with fail
        refine wp_region_heldS (S := fun V => Below wr.heap.size wr V) (by kernel_rfl) (Below.refl _ _).drew (fun hS => ?_)
        refine wpAnyH_takeL (i := 0) (v := ?_) rfl (by kernel_rfl) (by kernel_rfl) (by kernel_rfl) (fun _ _ _ h => h) (Or.inl ⟨by kernel_rfl, ?_⟩) hS ?_
        rotate_left
        · intro V hV
          have k0 := (hV.cell (p := ⟨w.heap.size + 1, 0, none⟩) hlx).trans cx0
          have k1 := (hV.cell (p := ⟨w.heap.size + 1, 1, none⟩) hlx).trans cx1
          have k2 := (hV.cell (p := ⟨w.heap.size + 1, 2, none⟩) hlx).trans cx2
          have k3 := (hV.cell (p := ⟨w.heap.size + 1, 3, none⟩) hlx).trans cx3
          go_simp
          (try with_reducible rfl)
        simp only [put_list, List.set_cons_succ, List.set_cons_zero]
        refine wpAnyH_takeL (i := 1) (v := ?_) rfl (by kernel_rfl) (by kernel_rfl) (by kernel_rfl) (fun _ _ _ h => h) (Or.inl ⟨by kernel_rfl, ?_⟩) hS ?_
        rotate_left
        · intro V hV
          go_simp
          (try with_reducible rfl)
        simp only [put_list, List.set_cons_succ, List.set_cons_zero]
        refine wpAnyH_takeL (i := 4) (v := ?_) rfl (by kernel_rfl) (by kernel_rfl) (by kernel_rfl) (fun _ _ _ h => h) (Or.inl ⟨by kernel_rfl, ?_⟩) hS ?_
        rotate_left
        · intro V hV
          go_simp
          (try with_reducible rfl)
        simp only [put_list, List.set_cons_succ, List.set_cons_zero]
        clear cx0 cx1 cx2 cx3 hlx
        refine regionO (r := 1) 5 (fun k => match k with | 0 => 2 | 1 => 3 | 2 => 5 | 3 => 6 | _ => 7) (fun k => match k with | 0 => 64 | 1 => 65 | 2 => 67 | 3 => 68 | _ => 69) (fun k => match k with | 0 => .agg #[.int .u64 y0, .int .u64 y1, .int .u64 y2, .int .u64 y3] | 1 => lv (V * 16) | 2 => .agg #[.int .u64 u0, .int .u64 u1, .int .u64 u2, .int .u64 u3] | 3 => lv d | _ => lv (V * 16 + d)) (fun i p => #[true, true, decide (1 ≤ i), decide (2 ≤ i), true, decide (3 ≤ i), decide (4 ≤ i), decide (5 ≤ i), p, false] : Nat → Bool → Array Bool) #[.int .u64 0, .int .u64 0, .int .u64 0, .int .u64 0, .int .u64 0, .int .u64 0, .int .u64 0, .int .u64 0, .int .u64 0, .int .u64 0, .int .u64 0, .int .u64 0, .int .u64 0, .int .u64 0, .int .u64 0, .int .u64 0, .int .u64 0] 76 8 9 (by kernel_rfl) (by decide) (by kernel_rfl) hS ?_ ?_ ?_
        · intro i hi T w2 K hT hK
          match i, hi with
          | 0, _ =>
            have t0 : T[63]? = some (.int .u64 16) := hT 63 (by decide)
            refine wpOp_stepT (i := 2) rfl (fun K' hK' => ?_)
            have HK' := hideP hK'
            have HK9 := hideP hK
            clear hK hK' hT
            go_simp
            refine (CO.out _).mono ?_
            rintro e w3 ⟨rfl, hb⟩
            exact HK'.out _ _ (HK9.out w3 hb)
          | 1, _ =>
            have t0 : T[62]? = some (.agg #[.int .u64 v0, .int .u64 v1, .int .u64 v2, .int .u64 v3]) := hT 62 (by decide)
            have t1 : T[64]? = some (.agg #[.int .u64 y0, .int .u64 y1, .int .u64 y2, .int .u64 y3]) := hT 64 (by decide)
            refine wpOp_stepT (i := 3) rfl (fun K' hK' => ?_)
            have HK' := hideP hK'
            have HK9 := hideP hK
            clear hK hK' hT
            go_simp
            refine (CT.out _).mono ?_
            rintro e w3 ⟨rfl, hb⟩
            exact HK'.out _ _ (HK9.out w3 hb)
          | 2, _ =>
            have t0 : T[66]? = some (.int .u64 d) := hT 66 (by decide)
            refine wpOp_stepT (i := 5) rfl (fun K' hK' => ?_)
            have HK' := hideP hK'
            have HK9 := hideP hK
            clear hK hK' hT
            go_simp
            refine (CU.out _).mono ?_
            rintro e w3 ⟨rfl, hb⟩
            exact HK'.out _ _ (HK9.out w3 hb)
          | 3, _ =>
            have t0 : T[67]? = some (.agg #[.int .u64 u0, .int .u64 u1, .int .u64 u2, .int .u64 u3]) := hT 67 (by decide)
            refine wpOp_stepT (i := 6) rfl (fun K' hK' => ?_)
            have HK' := hideP hK'
            have HK9 := hideP hK
            clear hK hK' hT
            go_simp
            refine (CF.out _).mono ?_
            rintro e w3 ⟨rfl, hb⟩
            exact HK'.out _ _ (HK9.out w3 hb)
          | 4, _ =>
            have t0 : T[65]? = some (lv (V * 16)) := hT 65 (by decide)
            have t1 : T[68]? = some (lv d) := hT 68 (by decide)
            refine wpOp_stepT (i := 7) rfl (fun K' hK' => ?_)
            have HK' := hideP hK'
            have HK9 := hideP hK
            clear hK hK' hT
            go_simp
            refine (CP.out _).mono ?_
            rintro e w3 ⟨rfl, hb⟩
            exact HK'.out _ _ (HK9.out w3 hb)
          | k' + 5, h => exact absurd h (by omega)
        · intro T w2 K hK
          refine wpOp_stepT rfl (fun K' hK' => ?_)
          have HK' := hideP hK'
          have HK9 := hideP hK
          clear hK hK'
          go_simp
          exact HK'.out _ _ HK9.out
        intro w2 b1 hS l1 h1
        simp only [TC, List.set_cons_succ, List.set_cons_zero]
        rw [zero17] at h1
        refine wpAnyH_ready (rs := [9]) (by kernel_rfl) (by simp) (AllReadyH.cons rfl (fun K hK => ?_) AllReadyH.nil)
        rw [if_pos (by kernel_rfl)]
        refine wp_store_mid 76 (.tmp 9) (.tmp 69) rfl b1 0 (c17 (dg (V * 16 + d))) rfl rfl (there17 h1) size76 (oneCell17 _) ?_
        have g3 := blk_sets (c17 (dg (V * 16 + d))).toList 0 h1
        rw [putAll17] at g3
        have hB1 := But.sets (c17 (dg (V * 16 + d))).toList 0 (But.refl b1 w2)
        have hSB := hS.trans (hB1.below.mono l1)
        clear h1 hB1
        generalize w2.setCells b1 0 (c17 (dg (V * 16 + d))).toList = w3 at g3 hSB ⊢
        refine hK.out _ _ hSB (fun hS => ?_)
        clear hK K hSB
        refine wpAnyH_done (by kernel_rfl) ?_ _
        have HI3 := hideP (HI.out.moveT hS)
        have c8 := blk_cell g3 (get17 (dg (V * 16 + d)) (show 8 < 17 by decide))
        have hNb : V * 16 + d < 4294967296 ^ 9 := by
          have h1 := HVM.out
          have h2 := HD.out
          have h3 : V * 16 ≤ M256 * 16 := Nat.mul_le_mul_right _ (Nat.le_of_lt h1)
          have h4 : M256 * 16 + 16 < 4294967296 ^ 9 := by decide
          omega
        have h8 : dg (V * 16 + d) 8 = (V * 16 + d) / M256 := by
          unfold dg
          have h1 : (4294967296 : Nat) ^ 8 = M256 := by decide
          rw [h1]
          refine Nat.mod_eq_of_lt ?_
          rw [Nat.div_lt_iff_lt_mul M256_pos]
          exact Nat.lt_of_lt_of_le hNb (by decide)
        rw [h8] at c8
        have HG3 := hideP g3
        clear hS l1 g3 hNb h8 HI
        (try simp only [put_none])
        by_cases hM : V * 16 + d < M256
        · rw [Nat.div_eq_of_lt hM] at c8
          have HV' := hideP (HOK.out HD.out hM)
          have HI5 := hideP (HI3.out.setT HZ.out)
          have lr := range17 HG3.out
          clear hM
          have c8' : w3.cell? ⟨b1, 8, none⟩ = some (.int .u64 0) := c8
          clear c8
          go_wp2_with (refine wpList_load_mid rfl 76 _ rfl b1 0 rfl (c17 (dg (V * 16 + d))).toList _ lr under76 rfl size76 ?_)
          refine (CW.out _).mono ?_
          rintro e w4 ⟨rfl, hb4⟩
          have HI4 := hideP (HI3.out.moveT hb4)
          obtain ⟨cx0, cx1, cx2, cx3⟩ := cells4 (show w4.heap[w.heap.size + 1]? = some (.cells #[.int .u64 (limb V 0), .int .u64 (limb V 1), .int .u64 (limb V 2), .int .u64 (limb V 3)] 23 (0, 0)) from HI4.out.x)
          have xf : ∀ o, w4.frozen? ⟨w.heap.size + 1, o, none⟩ = false := fun o => blk_free HI4.out.x
          replace HI5 := hideP (HI4.out.setT HZ.out)
          clear hb4 c8' lr HI3 HI4
          go_wp2_with fail
          exact ⟨⟨k + 1, V * 16 + d, HN.out, by go_num, HV'.out, HI5.out⟩, by have := HN.out; simp [intOf]; omega⟩
        · have hpos : 0 < (V * 16 + d) / M256 := Nat.div_pos (by omega) M256_pos
          have HR := hideP (HRES.out.trans (congrArg pres (HOV.out hM)))
          generalize (V * 16 + d) / M256 = q8 at c8 hpos
          have g5 : ¬ ((q8 : Nat) : Int) = 0 := by omega
          have g6 : (((q8 : Nat) : Int) == 0) = false := by simp; omega
          obtain ⟨j0, j1, j2, j3⟩ := cells4 (show w3.heap[w.heap.size]? = some (.cells #[.int .u64 (0 : Nat), .int .u64 (0 : Nat), .int .u64 (0 : Nat), .int .u64 (0 : Nat)] 23 (0, 0)) from HI3.out.r)
          have jf : ∀ o, w3.frozen? ⟨w.heap.size, o, none⟩ = false := fun o => blk_free (HI3.out.r)
          have HL := hideP HI3.out.b
          clear hM hpos HI3
          go_wp2_with fail
          refine bodyPost_ret (v := .tuple #[.agg #[.int .u64 0, .int .u64 0, .int .u64 0, .int .u64 0], .int .i64 20]) (by simp [results, Try.results75, go_sem, j0, j1, j2, j3, World.cell?_setCell_same]) rfl ⟨?_, ?_⟩
          · rw [HR.out]; rfl
          · exact below_stored4 HL.out (by omega)
    · have hk6 : k = n := by omega
      subst hk6
      have g1 : ¬ ((k : Nat) : Int) < (k : Int) := by omega
      obtain ⟨j0, j1, j2, j3⟩ := cells4 (show wr.heap[w.heap.size]? = some (.cells #[.int .u64 (0 : Nat), .int .u64 (0 : Nat), .int .u64 (0 : Nat), .int .u64 (0 : Nat)] 23 (0, 0)) from HI.out.r)
      have jf : ∀ o, wr.frozen? ⟨w.heap.size, o, none⟩ = false := fun o => blk_free (HI.out.r)
      have HL := hideP HI.out.b
      have HR := hideP (HRES.out.trans (congrArg pres HPK.out))
      have hxx := HI.out.x
      obtain ⟨v0, v1, v2, v3, hv⟩ := wv_form V
      rw [c4_form hv] at hxx
      obtain ⟨cx0, cx1, cx2, cx3⟩ := cells4 hxx
      have HV := hideP hv
      clear hlt hk hn48 hv hxx
      go_wp2_with fail
      refine bodyPost_ret (v := .tuple #[.agg #[.int .u64 v0, .int .u64 v1, .int .u64 v2, .int .u64 v3], .int .i64 0]) (by simp [results, Try.results75, go_sem, j0, j1, j2, j3, World.cell?_setCell_same]) rfl ⟨?_, ?_⟩
      · rw [HR.out]; show _ = Ending.returned (.tuple #[wv V, .int .i64 0]); rw [HV.out]
      · exact below_stored4 HL.out (by omega)

set_option maxHeartbeats 16000000 in
set_option maxRecDepth 100000 in
theorem refParse_dec0a (s : ByteArray) (hs : s.size = 0) (w : World) : Calls Try.prog 75 #[.string s] w fun e w' => e = .returned (pres none) ∧ Below w.heap.size w w' := by
  have g : ¬ (s.size : Int) > 80 := by omega
  have g' : ¬ (80 : Int) < (s.size : Int) := by omega
  have g1 : ¬ (s.size : Int) > 1 := by omega
  have g1' : ¬ (1 : Int) < (s.size : Int) := by omega
  have g2 : ¬ (2 : Int) ≤ (s.size : Int) := by omega
  have e0 : (s.size : Int) = 0 := by omega
  clear hs
  go_enter Try.func75, Try.ntmps75
  go_wp2_with fail
  refine bodyPost_ret (v := .tuple #[.agg #[.int .u64 0, .int .u64 0, .int .u64 0, .int .u64 0], .int .i64 20]) (by simp [results, Try.results75, go_sem]) rfl ⟨rfl, ?_⟩
  repeat first | exact Below.refl _ _ | (refine Below.alloc ?_ (by simp <;> omega) _) | (refine Below.setCell ?_ (by simp <;> omega) _)

set_option maxHeartbeats 16000000 in
set_option maxRecDepth 100000 in
theorem refParse_dec0b (s : ByteArray) (h80 : ¬ 80 < s.size) (h1 : 1 < s.size) (hc : sb s 0 ≠ 48) (hr : 78 < s.size) (w : World) : Calls Try.prog 75 #[.string s] w fun e w' => e = .returned (pres none) ∧ Below w.heap.size w w' := by
  have g : ¬ (s.size : Int) > 80 := by omega
  have g' : ¬ (80 : Int) < (s.size : Int) := by omega
  have g1 : (s.size : Int) > 1 := by omega
  have g1' : (1 : Int) < (s.size : Int) := by omega
  have g2 : (2 : Int) ≤ (s.size : Int) := by omega
  have hix0 : ∀ W : World, (Instr.index 9 (.string s) (.int .i64 0)).run Try.prog W = .ok (.int .u8 (sb s 0)) W := fun W => index_sb s 0 (by omega) W
  have g3 : ¬ ((sb s 0 : Nat) : Int) = 48 := by omega
  have g4 : (((sb s 0 : Nat) : Int) == 48) = false := by simp; omega
  generalize hc0 : sb s 0 = c0 at *
  clear hc0
  have e0 : ¬ (s.size : Int) = 0 := by omega
  have e1 : (s.size : Int) > 78 := by omega
  have e1' : (78 : Int) < (s.size : Int) := by omega
  have e2 : ((s.size : Int) == 0) = false := beq_eq_false_iff_ne.2 e0
  clear h80 h1 hc hr
  go_enter Try.func75, Try.ntmps75
  go_wp2_with fail
  refine bodyPost_ret (v := .tuple #[.agg #[.int .u64 0, .int .u64 0, .int .u64 0, .int .u64 0], .int .i64 20]) (by simp [results, Try.results75, go_sem]) rfl ⟨rfl, ?_⟩
  repeat first | exact Below.refl _ _ | (refine Below.alloc ?_ (by simp <;> omega) _) | (refine Below.setCell ?_ (by simp <;> omega) _)

set_option maxHeartbeats 16000000 in
set_option maxRecDepth 100000 in
theorem refParse_dec1a (s : ByteArray) (hs : s.size = 1) (w : World) : Calls Try.prog 75 #[.string s] w fun e w' => e = .returned (pres (pre 10 (sb s) s.size)) ∧ Below w.heap.size w w' := by
  have g : ¬ (s.size : Int) > 80 := by omega
  have g' : ¬ (80 : Int) < (s.size : Int) := by omega
  have g1 : ¬ (s.size : Int) > 1 := by omega
  have g1' : ¬ (1 : Int) < (s.size : Int) := by omega
  have g2 : ¬ (2 : Int) ≤ (s.size : Int) := by omega
  have e0 : ¬ (s.size : Int) = 0 := by omega
  have e2 : ((s.size : Int) == 0) = false := beq_eq_false_iff_ne.2 e0
  have e1 : ¬ (s.size : Int) > 78 := by omega
  have e1' : ¬ (78 : Int) < (s.size : Int) := by omega
  have HRES : Hid (∃ R, R = pres (pre 10 (sb s) s.size)) := ⟨_, rfl⟩
  obtain ⟨R, hR⟩ := HRES.out
  rw [← hR]
  clear HRES
  generalize hn : s.size = n at *
  have HRES : Hid (R = pres (pre 10 (sb s) n)) := hR
  have HNS : Hid (n ≤ 80) := (by omega : n ≤ 80)
  have HNN := hideP hn
  clear hs hR
  have HE : Hid (RI 23 w ((w.alloc (.cells #[.int .u64 0, .int .u64 0, .int .u64 0, .int .u64 0] 23 (0, 0))).alloc (.cells #[.int .u64 0, .int .u64 0, .int .u64 0, .int .u64 0] 23 (0, 0))) 0) :=
    ⟨(heap_old _ _ (by simp)).trans (heap_new _ _), by rw [show limb 0 = fun _ => 0 from limb_nought]; exact heap_new1 _ _ _, ((Below.refl _ w).alloc (Nat.le_refl _) _).alloc (by simp) _⟩
  go_enter Try.func75, Try.ntmps75
  go_wp2_with fail
  generalize (w.alloc (.cells #[.int .u64 0, .int .u64 0, .int .u64 0, .int .u64 0] 23 (0, 0))).alloc (.cells #[.int .u64 0, .int .u64 0, .int .u64 0, .int .u64 0] 23 (0, 0)) = W2 at HE ⊢
  go_loopw [7] (fun i wr => ∃ (k V : Nat), k ≤ n ∧ i = .int .i64 k ∧ pre 10 (sb s) k = some V ∧ RI 23 w wr V) (fun i _ => n - (intOf i).toNat)
  case atStart => exact ⟨0, 0, Nat.zero_le _, rfl, rfl, HE.out⟩
  case round =>
    obtain ⟨k, V, hk, rfl, hpre, I⟩ := hrel
    have HI := hideP I
    have HPK := hideP hpre
    clear I HE hpre
    have hn48 := HNS.out
    have hsz := HNN.out
    by_cases hlt : k < n
    · have HN : Hid (k < n) := hlt
      have hix := fun W => index_sb s k (by omega) W
      have cd := fun W => refValue_any (sb s k) (sb_lt s k) W
      have hge := fun h : 10 ≤ digV (sb s k) => pre_none (pre_bad HPK.out (fun h' => absurd h'.1 (by omega))) n hlt
      have hov := fun h : ¬ V * 10 + digV (sb s k) < M256 => pre_none (pre_bad HPK.out (fun h' => h h'.2)) n hlt
      have hok := fun (h : digV (sb s k) < 10) (h' : V * 10 + digV (sb s k) < M256) => pre_good HPK.out ⟨h, h'⟩
      have HGE := hideP hge
      have HOV := hideP hov
      have HOK := hideP hok
      have HVM := hideP (pre_lt HPK.out)
      generalize digV (sb s k) = d at *
      generalize sb s k = c at *
      have g1 : (k : Int) < (n : Int) := by omega
      have e4 : IntKind.i64.wrap ((k : Int) + 1) = (k : Int) + 1 := by rw [IntKind.wrap_i64]; omega
      have CD := hideP cd
      clear cd hge hov hok hlt hk hn48
      go_wp2_with fail
      refine (CD.out _).mono ?_
      rintro e w' ⟨rfl, rfl⟩
      by_cases hd : 10 ≤ d
      · have g2 : (10 : Int) ≤ ((d : Nat) : Int) := by omega
        have HR := hideP (HRES.out.trans (congrArg pres (HGE.out hd)))
        obtain ⟨j0, j1, j2, j3⟩ := cells4 (show wr.heap[w.heap.size]? = some (.cells #[.int .u64 (0 : Nat), .int .u64 (0 : Nat), .int .u64 (0 : Nat), .int .u64 (0 : Nat)] 23 (0, 0)) from HI.out.r)
        have jf : ∀ o, wr.frozen? ⟨w.heap.size, o, none⟩ = false := fun o => blk_free (HI.out.r)
        have HL := hideP HI.out.b
        clear hd
        go_wp2_with fail
        refine bodyPost_ret (v := .tuple #[.agg #[.int .u64 0, .int .u64 0, .int .u64 0, .int .u64 0], .int .i64 20]) (by simp [results, Try.results75, go_sem, j0, j1, j2, j3, World.cell?_setCell_same]) rfl ⟨?_, ?_⟩
        · rw [HR.out]; rfl
        · exact below_stored4 HL.out (by omega)
      · have g2 : ¬ (10 : Int) ≤ ((d : Nat) : Int) := by omega
        have hdb : d < 10 := by omega
        have HD := hideP hdb
        have co := fun W => refOf_any 10 (by decide) W
        have ct := fun W => times_any V 10 W
        have cu := fun W => refOf_any d (by omega) W
        have cf := fun W => fromWord_any d W
        have cp := fun W => plus_any (V * 10) d W
        have cw := fun W => toWord_any (V * 10 + d) W
        rw [Nat.mod_eq_of_lt HVM.out, show 10 % M256 = 10 from Nat.mod_eq_of_lt (by decide)] at ct
        rw [Nat.mod_eq_of_lt (show d < M256 from Nat.lt_trans hdb (by decide))] at cf
        obtain ⟨y0, y1, y2, y3, hy⟩ := wv_form 10
        obtain ⟨u0, u1, u2, u3, hu⟩ := wv_form d
        obtain ⟨v0, v1, v2, v3, hv⟩ := wv_form V
        obtain ⟨z0, z1, z2, z3, hz⟩ := wv_form (V * 10 + d)
        simp only [hy, hu, hv, hz] at co ct cu cf cw
        have HCV := hideP (c4_form hv)
        have HZ := hideP hz
        have hxx := HI.out.x
        rw [HCV.out] at hxx
        obtain ⟨cx0, cx1, cx2, cx3⟩ := cells4 hxx
        have hlx := lt_of_block hxx
        have CO := hideP co
        have CT := hideP ct
        have CU := hideP cu
        have CF := hideP cf
        have CP := hideP cp
        have CW := hideP cw
        clear co ct cu cf cp cw hy hu hv hz hxx hd hdb
        go_wp2_with fail
        refine wp_region_heldS (S := fun V => Below wr.heap.size wr V) (by kernel_rfl) (Below.refl _ _).drew (fun hS => ?_)
        refine wpAnyH_takeL (i := 0) (v := ?_) rfl (by kernel_rfl) (by kernel_rfl) (by kernel_rfl) (fun _ _ _ h => h) (Or.inl ⟨by kernel_rfl, ?_⟩) hS ?_
        rotate_left
        · intro V hV
          have k0 := (hV.cell (p := ⟨w.heap.size + 1, 0, none⟩) hlx).trans cx0
          have k1 := (hV.cell (p := ⟨w.heap.size + 1, 1, none⟩) hlx).trans cx1
          have k2 := (hV.cell (p := ⟨w.heap.size + 1, 2, none⟩) hlx).trans cx2
          have k3 := (hV.cell (p := ⟨w.heap.size + 1, 3, none⟩) hlx).trans cx3
          go_simp
          (try with_reducible rfl)
        simp only [put_list, List.set_cons_succ, List.set_cons_zero]
        refine wpAnyH_takeL (i := 1) (v := ?_) rfl (by kernel_rfl) (by kernel_rfl) (by kernel_rfl) (fun _ _ _ h => h) (Or.inl ⟨by kernel_rfl, ?_⟩) hS ?_
        rotate_left
        · intro V hV
          go_simp
          (try with_reducible rfl)
        simp only [put_list, List.set_cons_succ, List.set_cons_zero]
        refine wpAnyH_takeL (i := 4) (v := ?_) rfl (by kernel_rfl) (by kernel_rfl) (by kernel_rfl) (fun _ _ _ h => h) (Or.inl ⟨by kernel_rfl, ?_⟩) hS ?_
        rotate_left
        · intro V hV
          go_simp
          (try with_reducible rfl)
        simp only [put_list, List.set_cons_succ, List.set_cons_zero]
        clear cx0 cx1 cx2 cx3 hlx
        refine regionO (r := 1) 5 (fun k => match k with | 0 => 2 | 1 => 3 | 2 => 5 | 3 => 6 | _ => 7) (fun k => match k with | 0 => 64 | 1 => 65 | 2 => 67 | 3 => 68 | _ => 69) (fun k => match k with | 0 => .agg #[.int .u64 y0, .int .u64 y1, .int .u64 y2, .int .u64 y3] | 1 => lv (V * 10) | 2 => .agg #[.int .u64 u0, .int .u64 u1, .int .u64 u2, .int .u64 u3] | 3 => lv d | _ => lv (V * 10 + d)) (fun i p => #[true, true, decide (1 ≤ i), decide (2 ≤ i), true, decide (3 ≤ i), decide (4 ≤ i), decide (5 ≤ i), p, false] : Nat → Bool → Array Bool) #[.int .u64 0, .int .u64 0, .int .u64 0, .int .u64 0, .int .u64 0, .int .u64 0, .int .u64 0, .int .u64 0, .int .u64 0, .int .u64 0, .int .u64 0, .int .u64 0, .int .u64 0, .int .u64 0, .int .u64 0, .int .u64 0, .int .u64 0] 76 8 9 (by kernel_rfl) (by decide) (by kernel_rfl) hS ?_ ?_ ?_
        · intro i hi T w2 K hT hK
          match i, hi with
          | 0, _ =>
            have t0 : T[63]? = some (.int .u64 10) := hT 63 (by decide)
            refine wpOp_stepT (i := 2) rfl (fun K' hK' => ?_)
            have HK' := hideP hK'
            have HK9 := hideP hK
            clear hK hK' hT
            go_simp
            refine (CO.out _).mono ?_
            rintro e w3 ⟨rfl, hb⟩
            exact HK'.out _ _ (HK9.out w3 hb)
          | 1, _ =>
            have t0 : T[62]? = some (.agg #[.int .u64 v0, .int .u64 v1, .int .u64 v2, .int .u64 v3]) := hT 62 (by decide)
            have t1 : T[64]? = some (.agg #[.int .u64 y0, .int .u64 y1, .int .u64 y2, .int .u64 y3]) := hT 64 (by decide)
            refine wpOp_stepT (i := 3) rfl (fun K' hK' => ?_)
            have HK' := hideP hK'
            have HK9 := hideP hK
            clear hK hK' hT
            go_simp
            refine (CT.out _).mono ?_
            rintro e w3 ⟨rfl, hb⟩
            exact HK'.out _ _ (HK9.out w3 hb)
          | 2, _ =>
            have t0 : T[66]? = some (.int .u64 d) := hT 66 (by decide)
            refine wpOp_stepT (i := 5) rfl (fun K' hK' => ?_)
            have HK' := hideP hK'
            have HK9 := hideP hK
            clear hK hK' hT
            go_simp
            refine (CU.out _).mono ?_
            rintro e w3 ⟨rfl, hb⟩
            exact HK'.out _ _ (HK9.out w3 hb)
          | 3, _ =>
            have t0 : T[67]? = some (.agg #[.int .u64 u0, .int .u64 u1, .int .u64 u2, .int .u64 u3]) := hT 67 (by decide)
            refine wpOp_stepT (i := 6) rfl (fun K' hK' => ?_)
            have HK' := hideP hK'
            have HK9 := hideP hK
            clear hK hK' hT
            go_simp
            refine (CF.out _).mono ?_
            rintro e w3 ⟨rfl, hb⟩
            exact HK'.out _ _ (HK9.out w3 hb)
          | 4, _ =>
            have t0 : T[65]? = some (lv (V * 10)) := hT 65 (by decide)
            have t1 : T[68]? = some (lv d) := hT 68 (by decide)
            refine wpOp_stepT (i := 7) rfl (fun K' hK' => ?_)
            have HK' := hideP hK'
            have HK9 := hideP hK
            clear hK hK' hT
            go_simp
            refine (CP.out _).mono ?_
            rintro e w3 ⟨rfl, hb⟩
            exact HK'.out _ _ (HK9.out w3 hb)
          | k' + 5, h => exact absurd h (by omega)
        · intro T w2 K hK
          refine wpOp_stepT rfl (fun K' hK' => ?_)
          have HK' := hideP hK'
          have HK9 := hideP hK
          clear hK hK'
          go_simp
          exact HK'.out _ _ HK9.out
        intro w2 b1 hS l1 h1
        simp only [TC, List.set_cons_succ, List.set_cons_zero]
        rw [zero17] at h1
        refine wpAnyH_ready (rs := [9]) (by kernel_rfl) (by simp) (AllReadyH.cons rfl (fun K hK => ?_) AllReadyH.nil)
        rw [if_pos (by kernel_rfl)]
        refine wp_store_mid 76 (.tmp 9) (.tmp 69) rfl b1 0 (c17 (dg (V * 10 + d))) rfl rfl (there17 h1) size76 (oneCell17 _) ?_
        have g3 := blk_sets (c17 (dg (V * 10 + d))).toList 0 h1
        rw [putAll17] at g3
        have hB1 := But.sets (c17 (dg (V * 10 + d))).toList 0 (But.refl b1 w2)
        have hSB := hS.trans (hB1.below.mono l1)
        clear h1 hB1
        generalize w2.setCells b1 0 (c17 (dg (V * 10 + d))).toList = w3 at g3 hSB ⊢
        refine hK.out _ _ hSB (fun hS => ?_)
        clear hK K hSB
        refine wpAnyH_done (by kernel_rfl) ?_ _
        have HI3 := hideP (HI.out.moveT hS)
        have c8 := blk_cell g3 (get17 (dg (V * 10 + d)) (show 8 < 17 by decide))
        have hNb : V * 10 + d < 4294967296 ^ 9 := by
          have h1 := HVM.out
          have h2 := HD.out
          have h3 : V * 10 ≤ M256 * 10 := Nat.mul_le_mul_right _ (Nat.le_of_lt h1)
          have h4 : M256 * 10 + 10 < 4294967296 ^ 9 := by decide
          omega
        have h8 : dg (V * 10 + d) 8 = (V * 10 + d) / M256 := by
          unfold dg
          have h1 : (4294967296 : Nat) ^ 8 = M256 := by decide
          rw [h1]
          refine Nat.mod_eq_of_lt ?_
          rw [Nat.div_lt_iff_lt_mul M256_pos]
          exact Nat.lt_of_lt_of_le hNb (by decide)
        rw [h8] at c8
        have HG3 := hideP g3
        clear hS l1 g3 hNb h8 HI
        (try simp only [put_none])
        by_cases hM : V * 10 + d < M256
        · rw [Nat.div_eq_of_lt hM] at c8
          have HV' := hideP (HOK.out HD.out hM)
          have HI5 := hideP (HI3.out.setT HZ.out)
          have lr := range17 HG3.out
          clear hM
          have c8' : w3.cell? ⟨b1, 8, none⟩ = some (.int .u64 0) := c8
          clear c8
          go_wp2_with (refine wpList_load_mid rfl 76 _ rfl b1 0 rfl (c17 (dg (V * 10 + d))).toList _ lr under76 rfl size76 ?_)
          refine (CW.out _).mono ?_
          rintro e w4 ⟨rfl, hb4⟩
          have HI4 := hideP (HI3.out.moveT hb4)
          obtain ⟨cx0, cx1, cx2, cx3⟩ := cells4 (show w4.heap[w.heap.size + 1]? = some (.cells #[.int .u64 (limb V 0), .int .u64 (limb V 1), .int .u64 (limb V 2), .int .u64 (limb V 3)] 23 (0, 0)) from HI4.out.x)
          have xf : ∀ o, w4.frozen? ⟨w.heap.size + 1, o, none⟩ = false := fun o => blk_free HI4.out.x
          replace HI5 := hideP (HI4.out.setT HZ.out)
          clear hb4 c8' lr HI3 HI4
          go_wp2_with fail
          exact ⟨⟨k + 1, V * 10 + d, HN.out, by go_num, HV'.out, HI5.out⟩, by have := HN.out; simp [intOf]; omega⟩
        · have hpos : 0 < (V * 10 + d) / M256 := Nat.div_pos (by omega) M256_pos
          have HR := hideP (HRES.out.trans (congrArg pres (HOV.out hM)))
          generalize (V * 10 + d) / M256 = q8 at c8 hpos
          have g5 : ¬ ((q8 : Nat) : Int) = 0 := by omega
          have g6 : (((q8 : Nat) : Int) == 0) = false := by simp; omega
          obtain ⟨j0, j1, j2, j3⟩ := cells4 (show w3.heap[w.heap.size]? = some (.cells #[.int .u64 (0 : Nat), .int .u64 (0 : Nat), .int .u64 (0 : Nat), .int .u64 (0 : Nat)] 23 (0, 0)) from HI3.out.r)
          have jf : ∀ o, w3.frozen? ⟨w.heap.size, o, none⟩ = false := fun o => blk_free (HI3.out.r)
          have HL := hideP HI3.out.b
          clear hM hpos HI3
          go_wp2_with fail
          refine bodyPost_ret (v := .tuple #[.agg #[.int .u64 0, .int .u64 0, .int .u64 0, .int .u64 0], .int .i64 20]) (by simp [results, Try.results75, go_sem, j0, j1, j2, j3, World.cell?_setCell_same]) rfl ⟨?_, ?_⟩
          · rw [HR.out]; rfl
          · exact below_stored4 HL.out (by omega)
    · have hk6 : k = n := by omega
      subst hk6
      have g1 : ¬ ((k : Nat) : Int) < (k : Int) := by omega
      obtain ⟨j0, j1, j2, j3⟩ := cells4 (show wr.heap[w.heap.size]? = some (.cells #[.int .u64 (0 : Nat), .int .u64 (0 : Nat), .int .u64 (0 : Nat), .int .u64 (0 : Nat)] 23 (0, 0)) from HI.out.r)
      have jf : ∀ o, wr.frozen? ⟨w.heap.size, o, none⟩ = false := fun o => blk_free (HI.out.r)
      have HL := hideP HI.out.b
      have HR := hideP (HRES.out.trans (congrArg pres HPK.out))
      have hxx := HI.out.x
      obtain ⟨v0, v1, v2, v3, hv⟩ := wv_form V
      rw [c4_form hv] at hxx
      obtain ⟨cx0, cx1, cx2, cx3⟩ := cells4 hxx
      have HV := hideP hv
      clear hlt hk hn48 hv hxx
      go_wp2_with fail
      refine bodyPost_ret (v := .tuple #[.agg #[.int .u64 v0, .int .u64 v1, .int .u64 v2, .int .u64 v3], .int .i64 0]) (by simp [results, Try.results75, go_sem, j0, j1, j2, j3, World.cell?_setCell_same]) rfl ⟨?_, ?_⟩
      · rw [HR.out]; show _ = Ending.returned (.tuple #[wv V, .int .i64 0]); rw [HV.out]
      · exact below_stored4 HL.out (by omega)

set_option maxHeartbeats 16000000 in
set_option maxRecDepth 100000 in
theorem refParse_dec1b (s : ByteArray) (h80 : ¬ 80 < s.size) (h1 : 1 < s.size) (hc : sb s 0 ≠ 48) (hr : ¬ 78 < s.size) (w : World) : Calls Try.prog 75 #[.string s] w fun e w' => e = .returned (pres (pre 10 (sb s) s.size)) ∧ Below w.heap.size w w' := by
  have g : ¬ (s.size : Int) > 80 := by omega
  have g' : ¬ (80 : Int) < (s.size : Int) := by omega
  have e0 : ¬ (s.size : Int) = 0 := by omega
  have e2 : ((s.size : Int) == 0) = false := beq_eq_false_iff_ne.2 e0
  have e1 : ¬ (s.size : Int) > 78 := by omega
  have e1' : ¬ (78 : Int) < (s.size : Int) := by omega
  have HRES : Hid (∃ R, R = pres (pre 10 (sb s) s.size)) := ⟨_, rfl⟩
  obtain ⟨R, hR⟩ := HRES.out
  rw [← hR]
  clear HRES
  have g1 : (s.size : Int) > 1 := by omega
  have g1' : (1 : Int) < (s.size : Int) := by omega
  have g2 : (2 : Int) ≤ (s.size : Int) := by omega
  have hix0 : ∀ W : World, (Instr.index 9 (.string s) (.int .i64 0)).run Try.prog W = .ok (.int .u8 (sb s 0)) W := fun W => index_sb s 0 (by omega) W
  have g3 : ¬ ((sb s 0 : Nat) : Int) = 48 := by omega
  have g4 : (((sb s 0 : Nat) : Int) == 48) = false := by simp; omega
  generalize hc0 : sb s 0 = c0 at *
  clear hc0
  generalize hn : s.size = n at *
  have HRES : Hid (R = pres (pre 10 (sb s) n)) := hR
  have HNS : Hid (n ≤ 80) := (by omega : n ≤ 80)
  have HNN := hideP hn
  clear h80 h1 hc hr hR
  have HE : Hid (RI 23 w ((w.alloc (.cells #[.int .u64 0, .int .u64 0, .int .u64 0, .int .u64 0] 23 (0, 0))).alloc (.cells #[.int .u64 0, .int .u64 0, .int .u64 0, .int .u64 0] 23 (0, 0))) 0) :=
    ⟨(heap_old _ _ (by simp)).trans (heap_new _ _), by rw [show limb 0 = fun _ => 0 from limb_nought]; exact heap_new1 _ _ _, ((Below.refl _ w).alloc (Nat.le_refl _) _).alloc (by simp) _⟩
  go_enter Try.func75, Try.ntmps75
  go_wp2_with fail
  generalize (w.alloc (.cells #[.int .u64 0, .int .u64 0, .int .u64 0, .int .u64 0] 23 (0, 0))).alloc (.cells #[.int .u64 0, .int .u64 0, .int .u64 0, .int .u64 0] 23 (0, 0)) = W2 at HE ⊢
  go_loopw [7] (fun i wr => ∃ (k V : Nat), k ≤ n ∧ i = .int .i64 k ∧ pre 10 (sb s) k = some V ∧ RI 23 w wr V) (fun i _ => n - (intOf i).toNat)
  case atStart => exact ⟨0, 0, Nat.zero_le _, rfl, rfl, HE.out⟩
  case round =>
    obtain ⟨k, V, hk, rfl, hpre, I⟩ := hrel
    have HI := hideP I
    have HPK := hideP hpre
    clear I HE hpre
    have hn48 := HNS.out
    have hsz := HNN.out
    by_cases hlt : k < n
    · have HN : Hid (k < n) := hlt
      have hix := fun W => index_sb s k (by omega) W
      have cd := fun W => refValue_any (sb s k) (sb_lt s k) W
      have hge := fun h : 10 ≤ digV (sb s k) => pre_none (pre_bad HPK.out (fun h' => absurd h'.1 (by omega))) n hlt
      have hov := fun h : ¬ V * 10 + digV (sb s k) < M256 => pre_none (pre_bad HPK.out (fun h' => h h'.2)) n hlt
      have hok := fun (h : digV (sb s k) < 10) (h' : V * 10 + digV (sb s k) < M256) => pre_good HPK.out ⟨h, h'⟩
      have HGE := hideP hge
      have HOV := hideP hov
      have HOK := hideP hok
      have HVM := hideP (pre_lt HPK.out)
      generalize digV (sb s k) = d at *
      generalize sb s k = c at *
      have g1 : (k : Int) < (n : Int) := by omega
      have e4 : IntKind.i64.wrap ((k : Int) + 1) = (k : Int) + 1 := by rw [IntKind.wrap_i64]; omega
      have CD := hideP cd
      clear cd hge hov hok hlt hk hn48
      go_wp2_with fail
      refine (CD.out _).mono ?_
      rintro e w' ⟨rfl, rfl⟩
      by_cases hd : 10 ≤ d
      · have g2 : (10 : Int) ≤ ((d : Nat) : Int) := by omega
        have HR := hideP (HRES.out.trans (congrArg pres (HGE.out hd)))
        obtain ⟨j0, j1, j2, j3⟩ := cells4 (show wr.heap[w.heap.size]? = some (.cells #[.int .u64 (0 : Nat), .int .u64 (0 : Nat), .int .u64 (0 : Nat), .int .u64 (0 : Nat)] 23 (0, 0)) from HI.out.r)
        have jf : ∀ o, wr.frozen? ⟨w.heap.size, o, none⟩ = false := fun o => blk_free (HI.out.r)
        have HL := hideP HI.out.b
        clear hd
        go_wp2_with fail
        refine bodyPost_ret (v := .tuple #[.agg #[.int .u64 0, .int .u64 0, .int .u64 0, .int .u64 0], .int .i64 20]) (by simp [results, Try.results75, go_sem, j0, j1, j2, j3, World.cell?_setCell_same]) rfl ⟨?_, ?_⟩
        · rw [HR.out]; rfl
        · exact below_stored4 HL.out (by omega)
      · have g2 : ¬ (10 : Int) ≤ ((d : Nat) : Int) := by omega
        have hdb : d < 10 := by omega
        have HD := hideP hdb
        have co := fun W => refOf_any 10 (by decide) W
        have ct := fun W => times_any V 10 W
        have cu := fun W => refOf_any d (by omega) W
        have cf := fun W => fromWord_any d W
        have cp := fun W => plus_any (V * 10) d W
        have cw := fun W => toWord_any (V * 10 + d) W
        rw [Nat.mod_eq_of_lt HVM.out, show 10 % M256 = 10 from Nat.mod_eq_of_lt (by decide)] at ct
        rw [Nat.mod_eq_of_lt (show d < M256 from Nat.lt_trans hdb (by decide))] at cf
        obtain ⟨y0, y1, y2, y3, hy⟩ := wv_form 10
        obtain ⟨u0, u1, u2, u3, hu⟩ := wv_form d
        obtain ⟨v0, v1, v2, v3, hv⟩ := wv_form V
        obtain ⟨z0, z1, z2, z3, hz⟩ := wv_form (V * 10 + d)
        simp only [hy, hu, hv, hz] at co ct cu cf cw
        have HCV := hideP (c4_form hv)
        have HZ := hideP hz
        have hxx := HI.out.x
        rw [HCV.out] at hxx
        obtain ⟨cx0, cx1, cx2, cx3⟩ := cells4 hxx
        have hlx := lt_of_block hxx
        have CO := hideP co
        have CT := hideP ct
        have CU := hideP cu
        have CF := hideP cf
        have CP := hideP cp
        have CW := hideP cw
        clear co ct cu cf cp cw hy hu hv hz hxx hd hdb
        go_wp2_with fail
        refine wp_region_heldS (S := fun V => Below wr.heap.size wr V) (by kernel_rfl) (Below.refl _ _).drew (fun hS => ?_)
        refine wpAnyH_takeL (i := 0) (v := ?_) rfl (by kernel_rfl) (by kernel_rfl) (by kernel_rfl) (fun _ _ _ h => h) (Or.inl ⟨by kernel_rfl, ?_⟩) hS ?_
        rotate_left
        · intro V hV
          have k0 := (hV.cell (p := ⟨w.heap.size + 1, 0, none⟩) hlx).trans cx0
          have k1 := (hV.cell (p := ⟨w.heap.size + 1, 1, none⟩) hlx).trans cx1
          have k2 := (hV.cell (p := ⟨w.heap.size + 1, 2, none⟩) hlx).trans cx2
          have k3 := (hV.cell (p := ⟨w.heap.size + 1, 3, none⟩) hlx).trans cx3
          go_simp
          (try with_reducible rfl)
        simp only [put_list, List.set_cons_succ, List.set_cons_zero]
        refine wpAnyH_takeL (i := 1) (v := ?_) rfl (by kernel_rfl) (by kernel_rfl) (by kernel_rfl) (fun _ _ _ h => h) (Or.inl ⟨by kernel_rfl, ?_⟩) hS ?_
        rotate_left
        · intro V hV
          go_simp
          (try with_reducible rfl)
        simp only [put_list, List.set_cons_succ, List.set_cons_zero]
        refine wpAnyH_takeL (i := 4) (v := ?_) rfl (by kernel_rfl) (by kernel_rfl) (by kernel_rfl) (fun _ _ _ h => h) (Or.inl ⟨by kernel_rfl, ?_⟩) hS ?_
        rotate_left
        · intro V hV
          go_simp
          (try with_reducible rfl)
        simp only [put_list, List.set_cons_succ, List.set_cons_zero]
        clear cx0 cx1 cx2 cx3 hlx
        refine regionO (r := 1) 5 (fun k => match k with | 0 => 2 | 1 => 3 | 2 => 5 | 3 => 6 | _ => 7) (fun k => match k with | 0 => 64 | 1 => 65 | 2 => 67 | 3 => 68 | _ => 69) (fun k => match k with | 0 => .agg #[.int .u64 y0, .int .u64 y1, .int .u64 y2, .int .u64 y3] | 1 => lv (V * 10) | 2 => .agg #[.int .u64 u0, .int .u64 u1, .int .u64 u2, .int .u64 u3] | 3 => lv d | _ => lv (V * 10 + d)) (fun i p => #[true, true, decide (1 ≤ i), decide (2 ≤ i), true, decide (3 ≤ i), decide (4 ≤ i), decide (5 ≤ i), p, false] : Nat → Bool → Array Bool) #[.int .u64 0, .int .u64 0, .int .u64 0, .int .u64 0, .int .u64 0, .int .u64 0, .int .u64 0, .int .u64 0, .int .u64 0, .int .u64 0, .int .u64 0, .int .u64 0, .int .u64 0, .int .u64 0, .int .u64 0, .int .u64 0, .int .u64 0] 76 8 9 (by kernel_rfl) (by decide) (by kernel_rfl) hS ?_ ?_ ?_
        · intro i hi T w2 K hT hK
          match i, hi with
          | 0, _ =>
            have t0 : T[63]? = some (.int .u64 10) := hT 63 (by decide)
            refine wpOp_stepT (i := 2) rfl (fun K' hK' => ?_)
            have HK' := hideP hK'
            have HK9 := hideP hK
            clear hK hK' hT
            go_simp
            refine (CO.out _).mono ?_
            rintro e w3 ⟨rfl, hb⟩
            exact HK'.out _ _ (HK9.out w3 hb)
          | 1, _ =>
            have t0 : T[62]? = some (.agg #[.int .u64 v0, .int .u64 v1, .int .u64 v2, .int .u64 v3]) := hT 62 (by decide)
            have t1 : T[64]? = some (.agg #[.int .u64 y0, .int .u64 y1, .int .u64 y2, .int .u64 y3]) := hT 64 (by decide)
            refine wpOp_stepT (i := 3) rfl (fun K' hK' => ?_)
            have HK' := hideP hK'
            have HK9 := hideP hK
            clear hK hK' hT
            go_simp
            refine (CT.out _).mono ?_
            rintro e w3 ⟨rfl, hb⟩
            exact HK'.out _ _ (HK9.out w3 hb)
          | 2, _ =>
            have t0 : T[66]? = some (.int .u64 d) := hT 66 (by decide)
            refine wpOp_stepT (i := 5) rfl (fun K' hK' => ?_)
            have HK' := hideP hK'
            have HK9 := hideP hK
            clear hK hK' hT
            go_simp
            refine (CU.out _).mono ?_
            rintro e w3 ⟨rfl, hb⟩
            exact HK'.out _ _ (HK9.out w3 hb)
          | 3, _ =>
            have t0 : T[67]? = some (.agg #[.int .u64 u0, .int .u64 u1, .int .u64 u2, .int .u64 u3]) := hT 67 (by decide)
            refine wpOp_stepT (i := 6) rfl (fun K' hK' => ?_)
            have HK' := hideP hK'
            have HK9 := hideP hK
            clear hK hK' hT
            go_simp
            refine (CF.out _).mono ?_
            rintro e w3 ⟨rfl, hb⟩
            exact HK'.out _ _ (HK9.out w3 hb)
          | 4, _ =>
            have t0 : T[65]? = some (lv (V * 10)) := hT 65 (by decide)
            have t1 : T[68]? = some (lv d) := hT 68 (by decide)
            refine wpOp_stepT (i := 7) rfl (fun K' hK' => ?_)
            have HK' := hideP hK'
            have HK9 := hideP hK
            clear hK hK' hT
            go_simp
            refine (CP.out _).mono ?_
            rintro e w3 ⟨rfl, hb⟩
            exact HK'.out _ _ (HK9.out w3 hb)
          | k' + 5, h => exact absurd h (by omega)
        · intro T w2 K hK
          refine wpOp_stepT rfl (fun K' hK' => ?_)
          have HK' := hideP hK'
          have HK9 := hideP hK
          clear hK hK'
          go_simp
          exact HK'.out _ _ HK9.out
        intro w2 b1 hS l1 h1
        simp only [TC, List.set_cons_succ, List.set_cons_zero]
        rw [zero17] at h1
        refine wpAnyH_ready (rs := [9]) (by kernel_rfl) (by simp) (AllReadyH.cons rfl (fun K hK => ?_) AllReadyH.nil)
        rw [if_pos (by kernel_rfl)]
        refine wp_store_mid 76 (.tmp 9) (.tmp 69) rfl b1 0 (c17 (dg (V * 10 + d))) rfl rfl (there17 h1) size76 (oneCell17 _) ?_
        have g3 := blk_sets (c17 (dg (V * 10 + d))).toList 0 h1
        rw [putAll17] at g3
        have hB1 := But.sets (c17 (dg (V * 10 + d))).toList 0 (But.refl b1 w2)
        have hSB := hS.trans (hB1.below.mono l1)
        clear h1 hB1
        generalize w2.setCells b1 0 (c17 (dg (V * 10 + d))).toList = w3 at g3 hSB ⊢
        refine hK.out _ _ hSB (fun hS => ?_)
        clear hK K hSB
        refine wpAnyH_done (by kernel_rfl) ?_ _
        have HI3 := hideP (HI.out.moveT hS)
        have c8 := blk_cell g3 (get17 (dg (V * 10 + d)) (show 8 < 17 by decide))
        have hNb : V * 10 + d < 4294967296 ^ 9 := by
          have h1 := HVM.out
          have h2 := HD.out
          have h3 : V * 10 ≤ M256 * 10 := Nat.mul_le_mul_right _ (Nat.le_of_lt h1)
          have h4 : M256 * 10 + 10 < 4294967296 ^ 9 := by decide
          omega
        have h8 : dg (V * 10 + d) 8 = (V * 10 + d) / M256 := by
          unfold dg
          have h1 : (4294967296 : Nat) ^ 8 = M256 := by decide
          rw [h1]
          refine Nat.mod_eq_of_lt ?_
          rw [Nat.div_lt_iff_lt_mul M256_pos]
          exact Nat.lt_of_lt_of_le hNb (by decide)
        rw [h8] at c8
        have HG3 := hideP g3
        clear hS l1 g3 hNb h8 HI
        (try simp only [put_none])
        by_cases hM : V * 10 + d < M256
        · rw [Nat.div_eq_of_lt hM] at c8
          have HV' := hideP (HOK.out HD.out hM)
          have HI5 := hideP (HI3.out.setT HZ.out)
          have lr := range17 HG3.out
          clear hM
          have c8' : w3.cell? ⟨b1, 8, none⟩ = some (.int .u64 0) := c8
          clear c8
          go_wp2_with (refine wpList_load_mid rfl 76 _ rfl b1 0 rfl (c17 (dg (V * 10 + d))).toList _ lr under76 rfl size76 ?_)
          refine (CW.out _).mono ?_
          rintro e w4 ⟨rfl, hb4⟩
          have HI4 := hideP (HI3.out.moveT hb4)
          obtain ⟨cx0, cx1, cx2, cx3⟩ := cells4 (show w4.heap[w.heap.size + 1]? = some (.cells #[.int .u64 (limb V 0), .int .u64 (limb V 1), .int .u64 (limb V 2), .int .u64 (limb V 3)] 23 (0, 0)) from HI4.out.x)
          have xf : ∀ o, w4.frozen? ⟨w.heap.size + 1, o, none⟩ = false := fun o => blk_free HI4.out.x
          replace HI5 := hideP (HI4.out.setT HZ.out)
          clear hb4 c8' lr HI3 HI4
          go_wp2_with fail
          exact ⟨⟨k + 1, V * 10 + d, HN.out, by go_num, HV'.out, HI5.out⟩, by have := HN.out; simp [intOf]; omega⟩
        · have hpos : 0 < (V * 10 + d) / M256 := Nat.div_pos (by omega) M256_pos
          have HR := hideP (HRES.out.trans (congrArg pres (HOV.out hM)))
          generalize (V * 10 + d) / M256 = q8 at c8 hpos
          have g5 : ¬ ((q8 : Nat) : Int) = 0 := by omega
          have g6 : (((q8 : Nat) : Int) == 0) = false := by simp; omega
          obtain ⟨j0, j1, j2, j3⟩ := cells4 (show w3.heap[w.heap.size]? = some (.cells #[.int .u64 (0 : Nat), .int .u64 (0 : Nat), .int .u64 (0 : Nat), .int .u64 (0 : Nat)] 23 (0, 0)) from HI3.out.r)
          have jf : ∀ o, w3.frozen? ⟨w.heap.size, o, none⟩ = false := fun o => blk_free (HI3.out.r)
          have HL := hideP HI3.out.b
          clear hM hpos HI3
          go_wp2_with fail
          refine bodyPost_ret (v := .tuple #[.agg #[.int .u64 0, .int .u64 0, .int .u64 0, .int .u64 0], .int .i64 20]) (by simp [results, Try.results75, go_sem, j0, j1, j2, j3, World.cell?_setCell_same]) rfl ⟨?_, ?_⟩
          · rw [HR.out]; rfl
          · exact below_stored4 HL.out (by omega)
    · have hk6 : k = n := by omega
      subst hk6
      have g1 : ¬ ((k : Nat) : Int) < (k : Int) := by omega
      obtain ⟨j0, j1, j2, j3⟩ := cells4 (show wr.heap[w.heap.size]? = some (.cells #[.int .u64 (0 : Nat), .int .u64 (0 : Nat), .int .u64 (0 : Nat), .int .u64 (0 : Nat)] 23 (0, 0)) from HI.out.r)
      have jf : ∀ o, wr.frozen? ⟨w.heap.size, o, none⟩ = false := fun o => blk_free (HI.out.r)
      have HL := hideP HI.out.b
      have HR := hideP (HRES.out.trans (congrArg pres HPK.out))
      have hxx := HI.out.x
      obtain ⟨v0, v1, v2, v3, hv⟩ := wv_form V
      rw [c4_form hv] at hxx
      obtain ⟨cx0, cx1, cx2, cx3⟩ := cells4 hxx
      have HV := hideP hv
      clear hlt hk hn48 hv hxx
      go_wp2_with fail
      refine bodyPost_ret (v := .tuple #[.agg #[.int .u64 v0, .int .u64 v1, .int .u64 v2, .int .u64 v3], .int .i64 0]) (by simp [results, Try.results75, go_sem, j0, j1, j2, j3, World.cell?_setCell_same]) rfl ⟨?_, ?_⟩
      · rw [HR.out]; show _ = Ending.returned (.tuple #[wv V, .int .i64 0]); rw [HV.out]
      · exact below_stored4 HL.out (by omega)

end Go.Proofs.Ytpnijncoldihfaa
