/-
  The document's products of words.
-/
import Derived.Test.YtpnijncoldihfaaTextsC19
namespace Go.Proofs.Ytpnijncoldihfaa
open Go.RowKit Go.Shelf

theorem wpOp_stepT {P : Program} {l : List Oper} {Q : Exit → Act → World → Prop} {i : Nat} {o : Oper} {K : Act → World → Prop} {a : Act} {w : World} (ho : l[i]? = some o)
    (h : ∀ K' : Act → World → Prop, (∀ a w, K a w → K' a w) → if Region.wanted o (yielded l.toArray a.tmps) = true then Oper.wp P o a w K' Q else K' (a.put o.dst undef) w) : wpOp P l.toArray Q i K a w :=
  wpOp_step (by simpa using ho) h

theorem at_world_t {P : Program} {c : Code} {Q : Exit → Act → World → Prop} {a : Act} {w : World} (h : ∀ W0, W0 = w → c.wp P Q a W0) : c.wp P Q a w := h w rfl

theorem vl_put (g : Nat → Nat) (v : Nat) {j : Nat} : ∀ n, j < n → vl (fun i => if i = j then v else g i) n + g j * 4294967296 ^ j = vl g n + v * 4294967296 ^ j
  | 0, h => absurd h (by omega)
  | n + 1, h => by
    by_cases e : n = j
    · subst e
      have h1 : vl (fun i => if i = n then v else g i) n = vl g n := vl_congr n (fun i hi => by show (if i = n then v else g i) = g i; rw [if_neg (by omega)])
      show vl (fun i => if i = n then v else g i) n + (if n = n then v else g n) * 4294967296 ^ n + _ = vl g n + g n * 4294967296 ^ n + _
      rw [h1, if_pos rfl]
      omega
    · have h1 := vl_put g v (j := j) n (by omega)
      show vl (fun i => if i = j then v else g i) n + (if n = j then v else g n) * 4294967296 ^ n + _ = vl g n + g n * 4294967296 ^ n + _
      rw [if_neg e]
      omega

/-- Where a product has come to: the cells. -/
structure TW (w wr : World) (b1 b2 r o X Y : Nat) (g : Nat → Nat) : Prop where
  ca : wr.heap[b1]? = some (.cells (c17 (dg X)) 76 (0, 0))
  cb : wr.heap[b2]? = some (.cells (c17 (dg Y)) 76 (0, 0))
  cr : wr.heap[r]? = some (.cells (c17 (fun _ => 0)) 76 (0, 0))
  co : wr.heap[o]? = some (.cells (c17 g) 76 (0, 0))
  o1 : o ≠ b1
  o2 : o ≠ b2
  o3 : o ≠ r
  hr : w.heap.size ≤ r
  ho : w.heap.size ≤ o
  l : Below w.heap.size w wr

theorem TW.drew {w wr : World} {b1 b2 r o X Y : Nat} {g : Nat → Nat} (I : TW w wr b1 b2 r o X Y g) : TW w wr.drew b1 b2 r o X Y g :=
  ⟨I.ca, I.cb, I.cr, I.co, I.o1, I.o2, I.o3, I.hr, I.ho, I.l.drew⟩

theorem TW.put {w wr : World} {b1 b2 r o X Y : Nat} {g : Nat → Nat} (I : TW w wr b1 b2 r o X Y g) {j : Nat} (hj : j < 17) (s : Nat) :
    TW w (wr.setCell ⟨o, j, none⟩ (.int .u64 s)) b1 b2 r o X Y (fun i => if i = j then s else g i) := by
  have o1 : ∀ b, b ≠ o → (wr.setCell ⟨o, j, none⟩ (.int .u64 s)).heap[b]? = wr.heap[b]? := fun b h => Below.heap_setCell wr _ _ b h
  refine ⟨(o1 _ (Ne.symm I.o1)).trans I.ca, (o1 _ (Ne.symm I.o2)).trans I.cb, (o1 _ (Ne.symm I.o3)).trans I.cr, ?_, I.o1, I.o2, I.o3, I.hr, I.ho, I.l.setCell (p := ⟨o, j, none⟩) I.ho _⟩
  have := blk_set (o := j) I.co (.int .u64 s)
  rw [set17 g s hj] at this
  exact this

/-- Where a product has come to: the numbers, behind a whole digit. -/
structure TN (X Y i : Nat) (g : Nat → Nat) : Prop where
  lt : ∀ j, g j < 4294967296
  z : ∀ j, i + 8 ≤ j → g j = 0
  s : vl g 17 = vl (dg X) i * Y

/-- The same within a digit. -/
structure TK (X Y i k c : Nat) (g : Nat → Nat) : Prop where
  lt : ∀ j, g j < 4294967296
  z : ∀ j, i + 8 ≤ j → g j = 0
  hc : c < 4294967296
  s : vl g 17 + c * 4294967296 ^ (i + k) = vl (dg X) i * Y + dg X i * vl (dg Y) k * 4294967296 ^ i

theorem TN.enter {X Y i : Nat} {g : Nat → Nat} (I : TN X Y i g) : TK X Y i 0 0 g := ⟨I.lt, I.z, by omega, by rw [I.s]; simp [vl]⟩

theorem TK.step {X Y i k c : Nat} {g : Nat → Nat} (I : TK X Y i k c g) (hi : i < 8) (hk : k < 8) {s : Nat} (hs : s = g (i + k) + dg X i * dg Y k + c) (h64 : s < 18446744073709551616) :
    TK X Y i (k + 1) (s / 4294967296) (fun j => if j = i + k then s % 4294967296 else g j) := by
  refine ⟨fun j => ?_, fun j hj => ?_, by omega, ?_⟩
  · show (if j = i + k then s % 4294967296 else g j) < _
    split
    · omega
    · exact I.lt j
  · show (if j = i + k then s % 4294967296 else g j) = 0
    rw [if_neg (by omega)]
    exact I.z j hj
  · have h1 := vl_put g (s % 4294967296) (j := i + k) 17 (by omega)
    have h2 := I.s
    have h3 : s / 4294967296 * 4294967296 ^ (i + (k + 1)) + s % 4294967296 * 4294967296 ^ (i + k) = s * 4294967296 ^ (i + k) := by
      rw [show i + (k + 1) = i + k + 1 by omega, Nat.pow_succ, Nat.mul_comm (4294967296 ^ (i + k)) 4294967296, ← Nat.mul_assoc, ← Nat.add_mul]
      congr 1
      omega
    have h4 : s * 4294967296 ^ (i + k) = g (i + k) * 4294967296 ^ (i + k) + dg X i * dg Y k * 4294967296 ^ (i + k) + c * 4294967296 ^ (i + k) := by
      rw [hs, Nat.add_mul, Nat.add_mul]
    have h5 : dg X i * vl (dg Y) (k + 1) * 4294967296 ^ i = dg X i * vl (dg Y) k * 4294967296 ^ i + dg X i * dg Y k * 4294967296 ^ (i + k) := by
      show dg X i * (vl (dg Y) k + dg Y k * 4294967296 ^ k) * 4294967296 ^ i = _
      rw [Nat.mul_add, Nat.add_mul, Nat.pow_add, ← Nat.mul_assoc (dg X i), Nat.mul_assoc (dg X i * dg Y k), Nat.mul_comm (4294967296 ^ k)]
    rw [h5]
    omega

theorem TK.leave {X Y i c : Nat} {g : Nat → Nat} (I : TK X Y i 8 c g) (hi : i < 8) (hY : Y < 4294967296 ^ 8) : TN X Y (i + 1) (fun j => if j = i + 8 then c else g j) := by
  refine ⟨fun j => ?_, fun j hj => ?_, ?_⟩
  · show (if j = i + 8 then c else g j) < _
    split
    · exact I.hc
    · exact I.lt j
  · show (if j = i + 8 then c else g j) = 0
    rw [if_neg (by omega)]
    exact I.z j (by omega)
  · have h1 := vl_put g c (j := i + 8) 17 (by omega)
    rw [I.z (i + 8) (Nat.le_refl _), Nat.zero_mul, Nat.add_zero] at h1
    rw [h1, I.s, vl_dg Y 8, Nat.mod_eq_of_lt hY]
    show _ = (vl (dg X) i + dg X i * 4294967296 ^ i) * Y
    rw [Nat.add_mul, Nat.mul_assoc (dg X i), Nat.mul_assoc (dg X i), Nat.mul_comm Y]

theorem TN.done {X Y : Nat} {g : Nat → Nat} (I : TN X Y 8 g) (hX : X < 4294967296 ^ 8) : ∀ j, j < 17 → g j = dg (X * Y) j := fun j hj => by
  have h := I.s
  rw [vl_dg X 8, Nat.mod_eq_of_lt hX] at h
  rw [← h, dg_vl 17 (fun j _ => I.lt j) hj]

set_option maxHeartbeats 4000000 in
set_option maxRecDepth 100000 in
theorem times_any (X Y : Nat) (w : World) : Calls Try.prog 92 #[wv X, wv Y] w fun e w' => e = .returned (lv (X % M256 * (Y % M256))) ∧ Below w.heap.size w w' := by
  obtain ⟨x0, x1, x2, x3, hx⟩ := wv_form X
  obtain ⟨y0, y1, y2, y3, hy⟩ := wv_form Y
  have k1 := fun W => fromWord_any X W
  rw [hx] at k1
  have Ck1 := hideP k1
  have k2 := fun W => fromWord_any Y W
  rw [hy] at k2
  have Ck2 := hideP k2
  rw [hx, hy]
  clear hx hy k1 k2
  have hXl : X % M256 < 4294967296 ^ 8 := Nat.lt_of_lt_of_le (Nat.mod_lt _ M256_pos) (by decide)
  have hYl : Y % M256 < 4294967296 ^ 8 := Nat.lt_of_lt_of_le (Nat.mod_lt _ M256_pos) (by decide)
  have HXl := hideP hXl
  have HYl := hideP hYl
  clear hXl hYl
  generalize X % M256 = A at *
  generalize Y % M256 = B at *
  go_enter Try.func92, Try.ntmps92
  go_wp2_with fail
  refine at_world_t (fun W0 hW0 => ?_)
  have HBx : Hid (W0.heap[w.heap.size]? = some (.cells #[.int .u64 x0, .int .u64 x1, .int .u64 x2, .int .u64 x3] 23 (0, 0))) := by
    rw [hW0]; show _ = _; simp only [World.alloc, Array.getElem?_push, Array.size_push]; simp [Nat.add_assoc]
  have HBy : Hid (W0.heap[w.heap.size + 1]? = some (.cells #[.int .u64 y0, .int .u64 y1, .int .u64 y2, .int .u64 y3] 23 (0, 0))) := by
    rw [hW0]; show _ = _; simp only [World.alloc, Array.getElem?_push, Array.size_push]; simp
  have HBr : Hid (W0.heap[w.heap.size + 1 + 1]? = some (.cells (c17 (fun _ => 0)) 76 (0, 0))) := by
    rw [hW0, ← zero17]; show _ = _; simp only [World.alloc, Array.getElem?_push, Array.size_push]; simp
  have HBW : Hid (Below w.heap.size w W0) := by
    rw [hW0]
    show Below _ _ _
    repeat first | exact Below.refl _ _ | apply Below.drew | (refine Below.alloc ?_ (by simp <;> omega) _) | (refine Below.setCell ?_ (by simp <;> omega) _)
  clear hW0
  obtain ⟨cx0, cx1, cx2, cx3⟩ := cells4 HBx.out
  have hlx := (Array.getElem?_eq_some_iff.1 HBx.out).1
  obtain ⟨cy0, cy1, cy2, cy3⟩ := cells4 HBy.out
  have hly := (Array.getElem?_eq_some_iff.1 HBy.out).1
  refine wp_region_heldS (S := fun V => Below W0.heap.size W0 V) (by kernel_rfl) (Below.refl _ _).drew (fun hS => ?_)
  refine wpAnyH_takeL (i := 0) (v := ?_) rfl (by kernel_rfl) (by kernel_rfl) (by kernel_rfl) (fun _ _ _ h => h) (Or.inl ⟨by kernel_rfl, ?_⟩) hS ?_
  rotate_left
  · intro V hV
    have k0 := (hV.cell (p := ⟨w.heap.size, 0, none⟩) hlx).trans cx0
    have k1 := (hV.cell (p := ⟨w.heap.size, 1, none⟩) hlx).trans cx1
    have k2 := (hV.cell (p := ⟨w.heap.size, 2, none⟩) hlx).trans cx2
    have k3 := (hV.cell (p := ⟨w.heap.size, 3, none⟩) hlx).trans cx3
    go_simp
    (try with_reducible rfl)
  simp only [put_list, List.set_cons_succ, List.set_cons_zero]
  refine wpAnyH_takeL (i := 2) (v := ?_) rfl (by kernel_rfl) (by kernel_rfl) (by kernel_rfl) (fun _ _ _ h => h) (Or.inl ⟨by kernel_rfl, ?_⟩) hS ?_
  rotate_left
  · intro V hV
    have k0 := (hV.cell (p := ⟨w.heap.size + 1, 0, none⟩) hly).trans cy0
    have k1 := (hV.cell (p := ⟨w.heap.size + 1, 1, none⟩) hly).trans cy1
    have k2 := (hV.cell (p := ⟨w.heap.size + 1, 2, none⟩) hly).trans cy2
    have k3 := (hV.cell (p := ⟨w.heap.size + 1, 3, none⟩) hly).trans cy3
    go_simp
    (try with_reducible rfl)
  simp only [put_list, List.set_cons_succ, List.set_cons_zero]
  refine region22 (r := 2) #[.int .u64 0, .int .u64 0, .int .u64 0, .int .u64 0, .int .u64 0, .int .u64 0, .int .u64 0, .int .u64 0, .int .u64 0, .int .u64 0, .int .u64 0, .int .u64 0, .int .u64 0, .int .u64 0, .int .u64 0, .int .u64 0, .int .u64 0] 76 13 15 5 6 (lv A) (lv B) (by kernel_rfl) (by decide) (by kernel_rfl) hS ?_ ?_ ?_ ?_ ?_
  · intro T w2 K hT hK
    have t1 := hT 12 (by decide)
    simp only [List.getElem?_cons_succ, List.getElem?_cons_zero] at t1
    refine wpOp_stepT rfl (fun K' hK' => ?_)
    have HK' := hideP hK'
    have HK := hideP hK
    clear hK hK' hT
    go_simp
    refine (Ck1.out _).mono ?_
    rintro e w3 ⟨rfl, hb⟩
    exact HK'.out _ _ (HK.out w3 hb)
  · intro T w2 K hT hK
    have t1 := hT 14 (by decide)
    simp only [List.getElem?_cons_succ, List.getElem?_cons_zero] at t1
    refine wpOp_stepT rfl (fun K' hK' => ?_)
    have HK' := hideP hK'
    have HK := hideP hK
    clear hK hK' hT
    go_simp
    refine (Ck2.out _).mono ?_
    rintro e w3 ⟨rfl, hb⟩
    exact HK'.out _ _ (HK.out w3 hb)
  · intro T w2 K hK
    refine wpOp_stepT rfl (fun K' hK' => ?_)
    have HK' := hideP hK'
    have HK := hideP hK
    clear hK hK'
    go_simp
    exact HK'.out _ _ HK.out
  · intro T w2 K hK
    refine wpOp_stepT rfl (fun K' hK' => ?_)
    have HK' := hideP hK'
    have HK := hideP hK
    clear hK hK'
    go_simp
    exact HK'.out _ _ HK.out
  intro w2 b1 b2 hS l1 l2 h1 h2 n12
  simp only [List.set_cons_succ, List.set_cons_zero]
  clear cx0 cx1 cx2 cx3 cy0 cy1 cy2 cy3 hlx hly
  rw [zero17] at h1 h2
  refine wpAnyH_ready (rs := [6]) (by kernel_rfl) (by simp) (AllReadyH.cons rfl (fun K hK => ?_) AllReadyH.nil)
  rw [if_pos (by kernel_rfl)]
  refine wp_store_mid 76 (.tmp 5) (.tmp 13) rfl b1 0 (c17 (dg A)) rfl rfl (there17 h1) size76 (by simp [c17, Value.oneCell']) ?_
  have g1 := blk_sets (c17 (dg A)).toList 0 h1
  rw [putAll17] at g1
  have hB1 := But.sets (c17 (dg A)).toList 0 (But.refl b1 w2)
  replace h2 := (hB1.same _ (Ne.symm n12)).trans h2
  have hSB := hS.trans (hB1.below.mono l1)
  clear h1 hB1
  generalize w2.setCells b1 0 (c17 (dg A)).toList = w3 at g1 h2 hSB ⊢
  refine hK.out _ _ hSB (fun hS => ?_)
  clear hK K hSB
  refine wpAnyH_ready (rs := [7]) (by kernel_rfl) (by simp) (AllReadyH.cons rfl (fun K hK => ?_) AllReadyH.nil)
  rw [if_pos (by kernel_rfl)]
  refine wp_store_mid 76 (.tmp 6) (.tmp 15) rfl b2 0 (c17 (dg B)) rfl rfl (there17 h2) size76 (by simp [c17, Value.oneCell']) ?_
  have g2 := blk_sets (c17 (dg B)).toList 0 h2
  rw [putAll17] at g2
  have hB2 := But.sets (c17 (dg B)).toList 0 (But.refl b2 w3)
  replace g1 := (hB2.same _ n12).trans g1
  have hSB := hS.trans (hB2.below.mono l2)
  clear h2 hB2
  generalize w3.setCells b2 0 (c17 (dg B)).toList = w4 at g1 g2 hSB ⊢
  refine hK.out _ _ hSB (fun hS => ?_)
  clear hK K hSB
  refine wpAnyH_done (by kernel_rfl) ?_ _
  have HBr4 := hideP ((hS.block _ (lt_of_block HBr.out)).trans HBr.out)
  have HBW4 := hideP (HBW.out.trans (hS.mono HBW.out.size))
  have HA := hideP g1
  have HB := hideP g2
  have L1 := hideP l1
  have L2 := hideP l2
  have HLt : Hid (w.heap.size + 1 + 1 < W0.heap.size) := lt_of_block HBr.out
  clear g1 g2 l1 l2 hS n12 HBr HBW HBx HBy Ck1 Ck2
  go_wp2_with fail
  have HT0 : Hid (TW w (w4.alloc (.cells (c17 fun _ => 0) 76 (0, 0))) b1 b2 (w.heap.size + 1 + 1) w4.heap.size A B (fun _ => 0)) := by
    have p1 := lt_of_block HA.out
    have p2 := lt_of_block HB.out
    have p3 := lt_of_block HBr4.out
    have p4 := HBW4.out.size
    exact ⟨(heap_old _ _ p1).trans HA.out, (heap_old _ _ p2).trans HB.out, (heap_old _ _ p3).trans HBr4.out, heap_new _ _, by omega, by omega, by omega, by omega, p4, HBW4.out.alloc p4 _⟩
  rw [zero17]
  generalize hO : w4.heap.size = O at HT0 ⊢
  generalize hR : w.heap.size + 1 + 1 = R at HT0 ⊢
  clear hO hR HA HB HBr4 HBW4 L1 L2 HLt
  generalize w4.alloc (.cells (c17 fun _ => 0) 76 (0, 0)) = w5 at HT0 ⊢
  generalize lv A = la
  generalize lv B = lb
  go_loopw [8] (fun i wr => ∃ (n : Nat) (g : Nat → Nat), n ≤ 8 ∧ i = .int .i64 n ∧ TN A B n g ∧ TW w wr b1 b2 R O A B g) (fun i _ => 8 - (intOf i).toNat)
  case atStart => exact ⟨0, fun _ => 0, Nat.zero_le _, rfl, ⟨fun _ => by show 0 < 4294967296; omega, fun _ _ => rfl, by simp [vl]⟩, HT0.out⟩
  case round =>
    obtain ⟨n, g, hn, rfl, I, J⟩ := hrel
    have HI := hideP I
    have HJ := hideP J
    clear I J
    by_cases hlt : n < 8
    · have hlt' : (n : Int) < 8 := by omega
      have HNL := hideP hlt
      clear hn hlt
      go_wp2_with fail
      go_loopw [9, 10] (fun c k wr => ∃ (m cv : Nat) (gk : Nat → Nat), m ≤ 8 ∧ k = .int .i64 m ∧ c = .int .u64 cv ∧ TK A B n m cv gk ∧ TW w wr b1 b2 R O A B gk) (fun _ k _ => 8 - (intOf k).toNat)
      case atStart => exact ⟨0, 0, g, Nat.zero_le _, rfl, rfl, HI.out.enter, HJ.out⟩
      case round =>
        obtain ⟨m, cv, gk, hm, rfl, rfl, I2, J2⟩ := hrel
        have HI2 := hideP I2
        have HJ2 := hideP J2
        clear I2 J2
        by_cases hml : m < 8
        · have hn8 := HNL.out
          have hml' : (m : Int) < 8 := by omega
          have cA := blk_cell HJ2.out.ca (get17 _ (show n < 17 by omega))
          have cB := blk_cell HJ2.out.cb (get17 _ (show m < 17 by omega))
          have cO := blk_cell HJ2.out.co (get17 _ (show n + m < 17 by omega))
          have fr : ∀ o, wr.frozen? ⟨O, o, none⟩ = false := fun o => blk_free HJ2.out.co
          have d1 := dg_lt A n
          have d2 := dg_lt B m
          have d3 := HI2.out.lt (n + m)
          have d4 := HI2.out.hc
          have d5 : dg A n * dg B m ≤ 4294967295 * 4294967295 := Nat.mul_le_mul (by omega) (by omega)
          have HN1 := hideP (HI2.out.step hn8 hml rfl (by omega))
          have HN2 := hideP (HJ2.out.drew.put (show n + m < 17 by omega) ((gk (n + m) + dg A n * dg B m + cv) % 4294967296))
          have w0 : IntKind.i64.wrap ((n : Int) + (m : Int)) = ((n + m : Nat) : Int) := by rw [IntKind.wrap_i64]; omega
          have h17 : ((n + m : Nat) : Int) < 17 := by omega
          have hn17 : (n : Int) < 17 := by omega
          have hm17 : (m : Int) < 17 := by omega
          have wA : IntKind.u64.wrap ((dg A n : Int) * (dg B m : Int)) = ((dg A n * dg B m : Nat) : Int) := M64.wrapN _ (by omega)
          have wB : IntKind.u64.wrap ((gk (n + m) : Int) + ((dg A n * dg B m : Nat) : Int)) = ((gk (n + m) + dg A n * dg B m : Nat) : Int) := M64.wrapN _ (by omega)
          have wC : IntKind.u64.wrap (((gk (n + m) + dg A n * dg B m : Nat) : Int) + (cv : Int)) = ((gk (n + m) + dg A n * dg B m + cv : Nat) : Int) := M64.wrapN _ (by omega)
          have hS64 : gk (n + m) + dg A n * dg B m + cv < 18446744073709551616 := by omega
          have e4 : IntKind.i64.wrap ((m : Int) + 1) = (m : Int) + 1 := by rw [IntKind.wrap_i64]; omega
          have HKS : Hid (m + 1 ≤ 8) := hml
          clear hm hml hn8 d1 d2 d3 d4 d5
          generalize gk (n + m) + dg A n * dg B m + cv = s at *
          generalize gk (n + m) + dg A n * dg B m = q at *
          generalize dg A n * dg B m = p at *
          generalize dg A n = da at *
          generalize dg B m = db at *
          generalize gk (n + m) = go at *
          generalize n + m = nm at *
          have wD : (s : Int) % 4294967296 = ((s % 4294967296 : Nat) : Int) := by omega
          have wE : (s : Int) / 4294967296 = ((s / 4294967296 : Nat) : Int) := by omega
          have wF : IntKind.u64.wrap ((s : Int).tdiv 4294967296) = ((s / 4294967296 : Nat) : Int) := by rw [Int.tdiv_eq_ediv_of_nonneg (by omega), wE]; exact M64.wrapN _ (by omega)
          have wG : IntKind.u64.wrap ((s / 4294967296 : Nat) : Int) = ((s / 4294967296 : Nat) : Int) := M64.wrapN _ (by omega)
          clear hS64
          generalize s % 4294967296 = lo at *
          generalize s / 4294967296 = hi at *
          go_wp2_with fail
          go_region
          go_wp2_with fail
          refine ⟨⟨m + 1, hi, _, HKS.out, by go_num, rfl, HN1.out, HN2.out⟩, by have := HKS.out; simp [intOf]; omega⟩
        · have hm8 : m = 8 := by omega
          subst hm8
          have hml' : ¬ ((8 : Nat) : Int) < 8 := by omega
          have hn8 := HNL.out
          have cO := blk_cell HJ2.out.co (get17 _ (show n + 8 < 17 by omega))
          rw [HI2.out.z (n + 8) (Nat.le_refl _)] at cO
          have fr : ∀ o, wr.frozen? ⟨O, o, none⟩ = false := fun o => blk_free HJ2.out.co
          have HN1 := hideP (HI2.out.leave hn8 HYl.out)
          have HN2 := hideP (HJ2.out.put (show n + 8 < 17 by omega) cv)
          have w0 : IntKind.i64.wrap ((n : Int) + 8) = ((n + 8 : Nat) : Int) := by rw [IntKind.wrap_i64]; omega
          have h17 : ((n + 8 : Nat) : Int) < 17 := by omega
          have d4 := HI2.out.hc
          have wA : IntKind.u64.wrap (((0 : Nat) : Int) + (cv : Int)) = (cv : Int) := by rw [IntKind.wrap_u64]; omega
          have wA' : IntKind.u64.wrap (cv : Int) = (cv : Int) := by rw [IntKind.wrap_u64]; omega
          have e4 : IntKind.i64.wrap ((n : Int) + 1) = (n : Int) + 1 := by rw [IntKind.wrap_i64]; omega
          clear hm hml hn8 d4
          generalize n + 8 = nm at *
          go_wp2_with fail
          refine ⟨⟨n + 1, _, HNL.out, by go_num, HN1.out, HN2.out⟩, by have := HNL.out; simp [intOf]; omega⟩
    · have hkn : n = 8 := by omega
      subst hkn
      have hg := HJ.out.co
      rw [c17_congr (HI.out.done HXl.out)] at hg
      have HG := hideP hg
      have hlt' : ¬ ((8 : Nat) : Int) < 8 := by omega
      rename_i Q' K hK
      have HK := hideP hK
      clear hn hlt hK hg
      go_wp2_with fail
      refine HK.out _ _ ?_
      refine end17 rfl rfl rfl (by decide) (by show 56 < 57; decide) rfl (range17 HG.out) HJ.out.cr ?_
      intro wS h1 h2
      exact ⟨rfl, HJ.out.l.trans (h2.below.mono HJ.out.hr)⟩

end Go.Proofs.Ytpnijncoldihfaa
