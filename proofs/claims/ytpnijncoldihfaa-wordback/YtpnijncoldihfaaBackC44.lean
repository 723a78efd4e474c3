/-
  Words come back from their bytes and their texts: the walk of the law.
-/
import Derived.Test.YtpnijncoldihfaaBackC23
import Derived.Test.YtpnijncoldihfaaBackC43
import Derived.Test.YtpnijncoldihfaaBackC41
import Derived.Test.YtpnijncoldihfaaBackC16
namespace Go.Proofs.Ytpnijncoldihfaa
open Go.RowKit Go.Shelf

theorem rdv_low (X n : Nat) : ∀ k, k ≤ n → rdv (lowB X n) n k = X % 2 ^ (8 * k)
  | 0, _ => by simp [rdv, Nat.mod_one]
  | k + 1, h => by
    show rdv (lowB X n) n k + lowB X n (n - 1 - k) * 2 ^ (8 * k) = _
    rw [rdv_low X n k (by omega), byt_split]
    unfold lowB
    rw [show n - 1 - (n - 1 - k) = k by omega, Nat.mul_comm (byt X k)]

theorem rdv_least {X n : Nat} (hX : X < M256) (h : LB X n) : rdv (lowB X n) n n = X := by
  have h1 := h.lt
  rw [Nat.mod_eq_of_lt hX] at h1
  rw [rdv_low X n n (Nat.le_refl _), Nat.mod_eq_of_lt h1]

theorem rdv_all {X : Nat} (hX : X < M256) : rdv (fun j => byt X (31 - j)) 32 32 = X := by
  have h := rdv_low X 32 32 (Nat.le_refl _)
  rw [← M256_pow, Nat.mod_eq_of_lt hX] at h
  exact h

theorem slice_all32 (B : Nat) (W : World) : (Instr.sliceAt 52 (.pointer (some ⟨B, 0, none⟩)) none none none).run Try.prog W = .ok (.slice (some ⟨B, 0, none⟩) 32 32) W := by
  have hl : Try.prog.arrayLen 52 = 32 := by kernel_rfl
  have hs : (sizeOf (Try.prog.elem 52)).run Try.prog W = .ok 1 W := by kernel_rfl
  rw [run_sliceAt_array_all (P := Try.prog) W 52 ⟨B, 0, none⟩ (by kernel_rfl), hs, hl]
  simp [Result.andThen, slicedAt, Addr.add]

set_option maxHeartbeats 16000000 in
set_option maxRecDepth 100000 in
theorem wback_calls (X : Nat) (hX : X < M256) (w : World) : Calls Try.prog 14 #[wv X] w fun e w' => e = .returned (.bool true) ∧ Below w.heap.size w w' := by
    have HXM := hideP hX
    have c2 := fun W => bytes_any X W
    have cl := fun W => least_any X W
    have ch := fun W => hex_any X hX W
    have cd := fun W => dec_any X hX W
    have r1 := fun B (W : World) (hB : W.heap[B]? = some (.cells (c32 (fun j => byt X (31 - j))) 52 (0, 0))) => read_any (fun j => byt X (31 - j)) (fun j => byt_lt _ _) 32 32 B 0 (Nat.le_refl _) W (lt_of_block hB) (fun j hj => by rw [Nat.zero_add]; exact blk_cell hB (get32 _ hj))
    rw [rdv_all hX] at r1
    have r2 := fun n cap g o (W : World) (hn : LB X n) (hg : g < W.heap.size) hc => read_any (lowB X n) (lowB_lt X n) n cap g o hn.le W hg hc
    have r2' : ∀ n cap g o (W : World) (_ : LB X n) (_ : g < W.heap.size) (_ : ∀ j, j < n → W.cell? ⟨g, o + j, none⟩ = some (.int .u8 (lowB X n j))), Calls Try.prog 72 #[.slice (some ⟨g, o, none⟩) n cap] W fun e w' => e = .returned (.tuple #[wv X, .int .i64 0]) ∧ Below W.heap.size W w' := by
      intro n cap g o W hn hg hc
      have h := r2 n cap g o W hn hg hc
      rw [rdv_least hX hn] at h
      exact h
    have p1 : ∀ n (W : World), ND 16 X n → Calls Try.prog 74 #[.string (hexT X n)] W fun e w' => e = .returned (.tuple #[wv X, .int .i64 0]) ∧ Below W.heap.size W w' := by
      intro n W hn
      have h := parse_any (hexT X n) (by rw [hexT_size]; have := hex_count hX hn; omega) W
      rw [hexT_tells hX hn] at h
      exact h
    have p2 : ∀ n (W : World), n ≤ 78 → ND 10 X n → Calls Try.prog 74 #[.string (strD 10 X n)] W fun e w' => e = .returned (.tuple #[wv X, .int .i64 0]) ∧ Below W.heap.size W w' := by
      intro n W h78 hn
      have h := parse_any (strD 10 X n) (by rw [strD_size]; omega) W
      rw [decT_tells hX h78 hn] at h
      exact h
    obtain ⟨x0, x1, x2, x3, hx⟩ := wv_form X
    simp only [hx] at c2 cl ch cd r1 r2' p1 p2 ⊢
    unfold b32 at c2
    have heq : ∀ W : World, (Op.equalIn 10000 24 (.agg #[.int .u64 x0, .int .u64 x1, .int .u64 x2, .int .u64 x3]) (.agg #[.int .u64 x0, .int .u64 x1, .int .u64 x2, .int .u64 x3])).run Try.prog W = .ok true W := fun W => by rw [eq_words]; simp
    have C2 := hideP c2
    have CL := hideP cl
    have CH := hideP ch
    have CDD := hideP cd
    have R1 := hideP r1
    have R2 := hideP r2'
    have P1 := hideP p1
    have P2 := hideP p2
    have CAW := hideP (fun W => awake_any W)
    clear c2 cl ch cd r1 r2 r2' p1 p2 hx hX
    go_enter Try.func14, Try.ntmps14
    go_wp2_with fail
    refine at_world_q (fun W0 hW0 => ?_)
    have HBx : W0.heap[w.heap.size]? = some (.cells #[.int .u64 x0, .int .u64 x1, .int .u64 x2, .int .u64 x3] 24 (0, 0)) := by
      rw [hW0]; simp only [World.alloc, Array.getElem?_push]; simp
    have HBW : Hid (Below w.heap.size w W0) := by
      show Below _ _ _
      rw [hW0]
      repeat first | exact Below.refl _ _ | (refine Below.alloc ?_ (by simp <;> omega) _)
    clear hW0
    refine (C2.out _).mono ?_
    rintro e W2 ⟨rfl, hb⟩
    replace HBx := (hb.block _ (lt_of_block HBx)).trans HBx
    replace HBW := hideP (HBW.out.trans (hb.mono HBW.out.size))
    have HBW0 := hideP HBW.out.size
    clear hb C2
    have HN := hideP (heap_new W2 (.cells (c32 (fun _ => 0)) 52 (0, 0)))
    rw [← zero32] at HN
    go_wp2_with (refine wpList_store_mid rfl 52 _ _ rfl W2.heap.size 0 (c32 (fun j => byt X (31 - j))) rfl rfl (there32 (g := fun _ => 0) HN.out) size52 (oneCell32 _) ?_; refine Hid.out ?_)
    refine hideP ?_
    have h1 := But.sets (c32 (fun j => byt X (31 - j))).toList 0 (But.refl W2.heap.size (W2.alloc (.cells #[.int .u8 0, .int .u8 0, .int .u8 0, .int .u8 0, .int .u8 0, .int .u8 0, .int .u8 0, .int .u8 0, .int .u8 0, .int .u8 0, .int .u8 0, .int .u8 0, .int .u8 0, .int .u8 0, .int .u8 0, .int .u8 0, .int .u8 0, .int .u8 0, .int .u8 0, .int .u8 0, .int .u8 0, .int .u8 0, .int .u8 0, .int .u8 0, .int .u8 0, .int .u8 0, .int .u8 0, .int .u8 0, .int .u8 0, .int .u8 0, .int .u8 0, .int .u8 0] 52 (0, 0))))
    have h2 := blk_sets (c32 (fun j => byt X (31 - j))).toList 0 (show (W2.alloc (.cells #[.int .u8 0, .int .u8 0, .int .u8 0, .int .u8 0, .int .u8 0, .int .u8 0, .int .u8 0, .int .u8 0, .int .u8 0, .int .u8 0, .int .u8 0, .int .u8 0, .int .u8 0, .int .u8 0, .int .u8 0, .int .u8 0, .int .u8 0, .int .u8 0, .int .u8 0, .int .u8 0, .int .u8 0, .int .u8 0, .int .u8 0, .int .u8 0, .int .u8 0, .int .u8 0, .int .u8 0, .int .u8 0, .int .u8 0, .int .u8 0, .int .u8 0, .int .u8 0] 52 (0, 0))).heap[W2.heap.size]? = some (.cells (c32 (fun _ => 0)) 52 (0, 0)) from HN.out)
    rw [putAll32] at h2
    have hlr := lt_of_block HBx
    have hlt4 : W2.heap.size < (((W2.alloc (.cells #[.int .u8 0, .int .u8 0, .int .u8 0, .int .u8 0, .int .u8 0, .int .u8 0, .int .u8 0, .int .u8 0, .int .u8 0, .int .u8 0, .int .u8 0, .int .u8 0, .int .u8 0, .int .u8 0, .int .u8 0, .int .u8 0, .int .u8 0, .int .u8 0, .int .u8 0, .int .u8 0, .int .u8 0, .int .u8 0, .int .u8 0, .int .u8 0, .int .u8 0, .int .u8 0, .int .u8 0, .int .u8 0, .int .u8 0, .int .u8 0, .int .u8 0, .int .u8 0] 52 (0, 0))).setCells W2.heap.size 0 (c32 (fun j => byt X (31 - j))).toList)).heap.size := lt_of_block h2
    replace HBx := (h1.same _ (by omega)).trans ((heap_old W2 (.cells #[.int .u8 0, .int .u8 0, .int .u8 0, .int .u8 0, .int .u8 0, .int .u8 0, .int .u8 0, .int .u8 0, .int .u8 0, .int .u8 0, .int .u8 0, .int .u8 0, .int .u8 0, .int .u8 0, .int .u8 0, .int .u8 0, .int .u8 0, .int .u8 0, .int .u8 0, .int .u8 0, .int .u8 0, .int .u8 0, .int .u8 0, .int .u8 0, .int .u8 0, .int .u8 0, .int .u8 0, .int .u8 0, .int .u8 0, .int .u8 0, .int .u8 0, .int .u8 0] 52 (0, 0)) hlr).trans HBx)
    replace HBW := hideP ((HBW.out.alloc HBW.out.size (.cells #[.int .u8 0, .int .u8 0, .int .u8 0, .int .u8 0, .int .u8 0, .int .u8 0, .int .u8 0, .int .u8 0, .int .u8 0, .int .u8 0, .int .u8 0, .int .u8 0, .int .u8 0, .int .u8 0, .int .u8 0, .int .u8 0, .int .u8 0, .int .u8 0, .int .u8 0, .int .u8 0, .int .u8 0, .int .u8 0, .int .u8 0, .int .u8 0, .int .u8 0, .int .u8 0, .int .u8 0, .int .u8 0, .int .u8 0, .int .u8 0, .int .u8 0, .int .u8 0] 52 (0, 0))).trans (h1.below.mono HBW.out.size))
    have HB := hideP h2
    have HS2 := hideP (HBW0.out)
    clear h1 h2 hlr HN HBW0
    (try simp only [put_none])
    generalize (W2.alloc (.cells #[.int .u8 0, .int .u8 0, .int .u8 0, .int .u8 0, .int .u8 0, .int .u8 0, .int .u8 0, .int .u8 0, .int .u8 0, .int .u8 0, .int .u8 0, .int .u8 0, .int .u8 0, .int .u8 0, .int .u8 0, .int .u8 0, .int .u8 0, .int .u8 0, .int .u8 0, .int .u8 0, .int .u8 0, .int .u8 0, .int .u8 0, .int .u8 0, .int .u8 0, .int .u8 0, .int .u8 0, .int .u8 0, .int .u8 0, .int .u8 0, .int .u8 0, .int .u8 0] 52 (0, 0))).setCells W2.heap.size 0 (c32 (fun j => byt X (31 - j))).toList = W4 at HBx HBW HB hlt4 ⊢
    generalize W2.heap.size = B at HB HS2 hlt4 ⊢
    have hsl := fun W => slice_all32 B W
    go_wp2_with fail
    refine (R1.out B _ HB.out).mono ?_
    rintro e V1 ⟨rfl, hb⟩
    replace HBx := (hb.block _ (lt_of_block HBx)).trans HBx
    replace HBW := hideP (HBW.out.trans (hb.mono HBW.out.size))
    clear hb HB HS2 hlt4 hsl R1
    obtain ⟨cx0, cx1, cx2, cx3⟩ := cells4 HBx
    have hlx := lt_of_block HBx
    go_wp2_with fail
    clear hlx
    clear cx0 cx1 cx2 cx3
    refine at_world_q (fun V2 hV => ?_)
    have HBr : V2.heap[V1.heap.size]? = some (.cells #[.int .u64 x0, .int .u64 x1, .int .u64 x2, .int .u64 x3] 24 (0, 0)) := by
      rw [hV]; exact heap_new _ _
    have hb : Below V1.heap.size V1 V2 := by
      rw [hV]; exact (Below.refl _ _).alloc (Nat.le_refl _) _
    clear hV
    replace HBx := (hb.block _ (lt_of_block HBx)).trans HBx
    replace HBW := hideP (HBW.out.trans (hb.mono HBW.out.size))
    clear hb
    refine (CL.out _).mono ?_
    rintro e V3 ⟨⟨v, rfl, hv⟩, hb⟩
    obtain ⟨n, cap, g, o, rfl, hn, hg, hc⟩ := hv.ex
    replace HBx := (hb.block _ (lt_of_block HBx)).trans HBx
    replace HBr := (hb.block _ (lt_of_block HBr)).trans HBr
    replace HBW := hideP (HBW.out.trans (hb.mono HBW.out.size))
    have H3 := hideP hn
    have H4 := hideP hg
    have H5 := hideP hc
    clear hb hv hn hg hc CL
    go_wp2_with fail
    refine (R2.out n cap g o _ H3.out H4.out H5.out).mono ?_
    rintro e V4 ⟨rfl, hb⟩
    replace HBx := (hb.block _ (lt_of_block HBx)).trans HBx
    replace HBr := (hb.block _ (lt_of_block HBr)).trans HBr
    replace HBW := hideP (HBW.out.trans (hb.mono HBW.out.size))
    clear hb H3 H4 H5 R2
    obtain ⟨cx0, cx1, cx2, cx3⟩ := cells4 HBx
    have hlx := lt_of_block HBx
    go_wp2_with fail
    clear hlx
    clear cx0 cx1 cx2 cx3
    refine at_world_q (fun V5 hV => ?_)
    have HBl : V5.heap[V4.heap.size]? = some (.cells #[.int .u64 x0, .int .u64 x1, .int .u64 x2, .int .u64 x3] 24 (0, 0)) := by
      rw [hV]; exact heap_new _ _
    have hb : Below V4.heap.size V4 V5 := by
      rw [hV]; exact (Below.refl _ _).alloc (Nat.le_refl _) _
    clear hV
    replace HBx := (hb.block _ (lt_of_block HBx)).trans HBx
    replace HBr := (hb.block _ (lt_of_block HBr)).trans HBr
    replace HBW := hideP (HBW.out.trans (hb.mono HBW.out.size))
    clear hb
    refine (CH.out _).mono ?_
    rintro e V6 ⟨⟨n1, hn, rfl⟩, hb⟩
    replace HBx := (hb.block _ (lt_of_block HBx)).trans HBx
    replace HBr := (hb.block _ (lt_of_block HBr)).trans HBr
    replace HBl := (hb.block _ (lt_of_block HBl)).trans HBl
    replace HBW := hideP (HBW.out.trans (hb.mono HBW.out.size))
    have H3 := hideP hn
    clear hb hn CH
    go_wp2_with fail
    refine (P1.out n1 _ H3.out).mono ?_
    rintro e V7 ⟨rfl, hb⟩
    replace HBx := (hb.block _ (lt_of_block HBx)).trans HBx
    replace HBr := (hb.block _ (lt_of_block HBr)).trans HBr
    replace HBl := (hb.block _ (lt_of_block HBl)).trans HBl
    replace HBW := hideP (HBW.out.trans (hb.mono HBW.out.size))
    clear hb H3 P1
    obtain ⟨cx0, cx1, cx2, cx3⟩ := cells4 HBx
    have hlx := lt_of_block HBx
    go_wp2_with fail
    clear hlx
    clear cx0 cx1 cx2 cx3
    refine at_world_q (fun V8 hV => ?_)
    have HBh : V8.heap[V7.heap.size]? = some (.cells #[.int .u64 x0, .int .u64 x1, .int .u64 x2, .int .u64 x3] 24 (0, 0)) := by
      rw [hV]; exact heap_new _ _
    have hb : Below V7.heap.size V7 V8 := by
      rw [hV]; exact (Below.refl _ _).alloc (Nat.le_refl _) _
    clear hV
    replace HBx := (hb.block _ (lt_of_block HBx)).trans HBx
    replace HBr := (hb.block _ (lt_of_block HBr)).trans HBr
    replace HBl := (hb.block _ (lt_of_block HBl)).trans HBl
    replace HBW := hideP (HBW.out.trans (hb.mono HBW.out.size))
    clear hb
    refine (CDD.out _).mono ?_
    rintro e V9 ⟨⟨n2, h78, hn, rfl⟩, hb⟩
    replace HBx := (hb.block _ (lt_of_block HBx)).trans HBx
    replace HBr := (hb.block _ (lt_of_block HBr)).trans HBr
    replace HBl := (hb.block _ (lt_of_block HBl)).trans HBl
    replace HBh := (hb.block _ (lt_of_block HBh)).trans HBh
    replace HBW := hideP (HBW.out.trans (hb.mono HBW.out.size))
    have H3 := hideP hn
    have H4 := hideP h78
    clear hb hn h78 CDD
    go_wp2_with fail
    refine (P2.out n2 _ H4.out H3.out).mono ?_
    rintro e V10 ⟨rfl, hb⟩
    replace HBx := (hb.block _ (lt_of_block HBx)).trans HBx
    replace HBr := (hb.block _ (lt_of_block HBr)).trans HBr
    replace HBl := (hb.block _ (lt_of_block HBl)).trans HBl
    replace HBh := (hb.block _ (lt_of_block HBh)).trans HBh
    replace HBW := hideP (HBW.out.trans (hb.mono HBW.out.size))
    clear hb H3 H4 P2
    obtain ⟨cx0, cx1, cx2, cx3⟩ := cells4 HBx
    obtain ⟨cr0, cr1, cr2, cr3⟩ := cells4 HBr
    obtain ⟨cl0, cl1, cl2, cl3⟩ := cells4 HBl
    obtain ⟨ch0, ch1, ch2, ch3⟩ := cells4 HBh
    have hlx := lt_of_block HBx
    have hlr := lt_of_block HBr
    have hll := lt_of_block HBl
    have hlh := lt_of_block HBh
    go_wp2_with fail
    refine (CAW.out _).mono ?_
    rintro e V11 ⟨rfl, hb⟩
    have HL : Hid (Below w.heap.size w V11) := (HBW.out.alloc HBW.out.size _).trans (hb.mono (by have := HBW.out.size; simp; omega))
    clear hb
    go_wp2_with fail
    go_ret
    exact ⟨rfl, HL.out⟩

theorem wback_law (X : Nat) (w : World) : Calls Try.prog 14 #[wv X] w fun e w' => e = .returned (.bool true) ∧ Below w.heap.size w w' := by
  have h := wback_calls (X % M256) (Nat.mod_lt _ M256_pos) w
  rw [wv_mod] at h
  exact h

end Go.Proofs.Ytpnijncoldihfaa
