import Derived.Test.YtcceaokldphfgaaDo0
namespace Go.Proofs.Ytcceaokldphfgaa
open Go.RowKit Go.Shelf

theorem callIn {f n : Nat} {args : Array Value} {w : World} {R : Ending → World → Prop} (h : Calls Try.prog f args w R) :
    Fence.wide.fn f ∧ (Fence.wide.depth.isSome = true → 1 ≤ n) ∧ CallsIn Fence.wide (n - 1) Try.prog f args w R :=
  ⟨trivial, (fun h => by cases h), callsIn_wide.2 h⟩

theorem each_stops2 (n : Nat) (b1 b2 : Nat) (w : World) (hBn : w.cell? ⟨b1, 0, none⟩ = some (.slice none 0 0)) :
    SeqStopsK Fence.wide n Try.prog 53 #[.pointer (some ⟨b1, 0, none⟩), .pointer (some ⟨b2, 0, none⟩)] (fun x : Of [] => #[ptrV x.1, ptrV x.1]) (KpR (.slice none 0 0) []) (fun ys => ys = []) (fun pre => pre <+: []) 0 w := by
  intro l J Jx W hW _ _ hY h0
  have hBn' := (hW.cell (p := ⟨b1, 0, none⟩) (World.block_lt_of_cell? w _ hBn)).trans hBn
  refine (each1_nil n l b1 b2 W hBn').mono ?_
  rintro e W' ⟨hv, rfl⟩
  exact ⟨hv, .inl ⟨[], rfl, h0⟩⟩

theorem putObj_heap_other (W : World) (l k : Nat) (o : Obj) (h : k ≠ l) : (W.putObj l o).heap[k]? = W.heap[k]? := by
  simp [World.putObj, Ne.symm h]

theorem below_own (V : World) {α : Type} : OwnFrom V.heap.size (fun (_ : List α) W => Below V.heap.size V W) := by
  intro s W W' row h hg hr
  exact h.grown hg h.size (fun k e => (hr k e).1)

set_option maxHeartbeats 4000000 in
set_option maxRecDepth 100000 in
theorem none_any (w : World) (k at_ long : Int) (nm to : ByteArray) (a : Option Addr) (c : Nat) (l : List UInt8)
   (cr ro : Int) (a1 a2 a3 : Option Addr) (c1 c2 c3 : Nat) (x1 x2 x3 : List Value) (hs : a = none → l = [] ∧ c = 0) (ha : ∀ b, a = some b → l ≠ [] → b.block < w.heap.size) (hx : ∀ b, a = some b → ∀ j u, l[j]? = some u → w.cell? (b.add j) = some (byteV u)) (hl : l.length ≤ 140737488355328) 
   (h1 : RdS w a1 c1 x1 8) (h2 : RdS w a2 c2 x2 8) (h3 : RdS w a3 c3 x3 8) (n : Nat) (hn8 : 8 ≤ n) :
    CallsIn Fence.wide n Try.prog 4 #[.agg #[.int .i64 k, .string nm, .string to, .int .i64 at_, .int .i64 long, .slice a l.length c, .int .i64 cr, .slice a1 x1.length c1, .slice a2 x2.length c2, .slice a3 x3.length c3, .int .i64 ro]] w fun e w' => e = .returned (.bool true) ∧ Below w.heap.size w w' := by
  have hdo := fun (W : World) (p : Option Addr) (hN : Nob W p) (hb : Below w.heap.size w W) => do_nob W p hN k at_ long nm to a c l cr ro a1 a2 a3 c1 c2 c3 x1 x2 x3 hs (fun b e hne => Nat.lt_of_lt_of_le (ha b e hne) hb.size) (fun b e j u hu => (hb.cell (p := b.add j) (by rw [add_block]; exact ha b e (by rintro rfl; simp at hu))).trans (hx b e j u hu)) hl (h1.later hb) (h2.later hb) (h3.later hb)
  clear hs ha hx hl h1 h2 h3
  generalize l.length = m at hdo ⊢
  generalize x1.length = m1 at hdo ⊢
  generalize x2.length = m2 at hdo ⊢
  generalize x3.length = m3 at hdo ⊢
  have HDO := hideP hdo
  clear hdo
  have hW0 : ∃ W0, W0 = (w.alloc (.cells #[.int .i64 k, .string nm, .string to, .int .i64 at_, .int .i64 long, .slice a m c, .int .i64 cr, .slice a1 m1 c1, .slice a2 m2 c2, .slice a3 m3 c3, .int .i64 ro] 35)).alloc (.cells #[.bool false] 4) := ⟨_, rfl⟩
  obtain ⟨W0, hW0⟩ := hW0
  have hb0 : Below w.heap.size w W0 := by rw [hW0]; exact ((Below.refl _ w).alloc (Nat.le_refl _) _).alloc (by simp) _
  have hsz0 : W0.heap.size = w.heap.size + 2 := by rw [hW0]; simp
  have hB0 : W0.heap[w.heap.size]? = some (.cells #[.int .i64 k, .string nm, .string to, .int .i64 at_, .int .i64 long, .slice a m c, .int .i64 cr, .slice a1 m1 c1, .slice a2 m2 c2, .slice a3 m3 c3, .int .i64 ro] 35 (0, 0)) := by
    rw [hW0]; exact (Below.heap_alloc _ _ _ (by simp)).trans (World.alloc_heap_new w _)
  have hR0 : W0.heap[w.heap.size + 1]? = some (.cells #[.bool false] 4 (0, 0)) := by
    rw [hW0]
    have := World.alloc_heap_new (w.alloc (.cells #[.int .i64 k, .string nm, .string to, .int .i64 at_, .int .i64 long, .slice a m c, .int .i64 cr, .slice a1 m1 c1, .slice a2 m2 c2, .slice a3 m3 c3, .int .i64 ro] 35)) (.cells #[.bool false] 4)
    rwa [World.size_alloc] at this
  have HW0 := hideP hW0
  clear hW0
  have kn : ∀ (W : World) (b1 b2 : Nat), (binOp .eql 59 (.func (.func 53) #[] #[.pointer (some ⟨b1, 0, none⟩), .pointer (some ⟨b2, 0, none⟩)]) .nilFunc).run Try.prog W = .ok (.bool false) W := fun W b1 b2 => rfl
  refine callsIn_of_wp_marks Try.func4 rfl trivial ?_ rfl
  simp only [Try.ntmps4, List.size_toArray, List.length_cons, List.length_nil, Nat.reduceAdd, Nat.reduceSub, Array.replicate_succ, Array.replicate_zero, List.push_toArray, List.append_toArray, List.nil_append, List.cons_append]
  gi_wp2_with fail
  rw [← HW0.out]
  refine callIn ((awake_any W0).mono ?_)
  rintro e W1 ⟨rfl, hb1⟩
  have hW2 : ∃ W2, W2 = (W1.alloc (.cells #[.bool false, .bool false, .int .i64 0, .slice none 0 0, .slice none 0 0, .slice none 0 0, .int .i64 0, .int .i64 0, .slice none 0 0] 51)).alloc (.cells #[.pointer none, .pointer (some ⟨W1.heap.size, 0, none⟩)] 29) := ⟨_, rfl⟩
  obtain ⟨W2, hW2⟩ := hW2
  have hb2 : Below W1.heap.size W1 W2 := by rw [hW2]; exact ((Below.refl _ W1).alloc (Nat.le_refl _) _).alloc (by simp) _
  have hsz2 : W2.heap.size = W1.heap.size + 2 := by rw [hW2]; simp
  have hs1 := hb1.size
  have hD2 : W2.heap[W1.heap.size]? = some (.cells #[.bool false, .bool false, .int .i64 0, .slice none 0 0, .slice none 0 0, .slice none 0 0, .int .i64 0, .int .i64 0, .slice none 0 0] 51 (0, 0)) := by
    rw [hW2]; exact (Below.heap_alloc _ _ _ (by simp)).trans (World.alloc_heap_new W1 _)
  have hP2 : W2.heap[W1.heap.size + 1]? = some (.cells #[.pointer none, .pointer (some ⟨W1.heap.size, 0, none⟩)] 29 (0, 0)) := by
    rw [hW2]
    have := World.alloc_heap_new (W1.alloc (.cells #[.bool false, .bool false, .int .i64 0, .slice none 0 0, .slice none 0 0, .slice none 0 0, .int .i64 0, .int .i64 0, .slice none 0 0] 51)) (.cells #[.pointer none, .pointer (some ⟨W1.heap.size, 0, none⟩)] 29)
    rwa [World.size_alloc] at this
  have hB2 := (hb2.block w.heap.size (by omega)).trans ((hb1.block w.heap.size (by omega)).trans hB0)
  have hR2 := (hb2.block (w.heap.size + 1) (by omega)).trans ((hb1.block (w.heap.size + 1) (by omega)).trans hR0)
  have hbw : Below w.heap.size w W2 := (hb0.trans (hb1.mono (by omega))).trans (hb2.mono (by omega))
  have HW2 := hideP hW2
  clear hW2 hb0 hb1 hb2 hB0 hR0
  have HB2 := hideP hB2
  have HR2 := hideP hR2
  have HD2 := hideP hD2
  have HP2 := hideP hP2
  have HBW := hideP hbw
  have HSZ : Hid (w.heap.size + 2 ≤ W1.heap.size ∧ W2.heap.size = W1.heap.size + 2) := ⟨by omega, hsz2⟩
  clear hB2 hR2 hD2 hP2 hbw hsz0 hsz2 hs1
  gi_wp2_with fail
  rw [← HW2.out]
  obtain ⟨wr0, HWR⟩ : ∃ wr0, Hid (W2 = wr0) := ⟨_, rfl⟩
  have HBr0 : Hid (Below W2.heap.size W2 wr0) := by rw [← HWR.out]; exact Below.refl _ _
  rw [HWR.out]
  refine wpIn_loop_rounds 3 ?_
  rw [roundsIn_succ]
  have hsz := HSZ.out
  have hbwr : Below w.heap.size w wr0 := HBW.out.trans (HBr0.out.mono HBW.out.size)
  have hBr := (HBr0.out.block w.heap.size (by omega)).trans HB2.out
  have hDr := (HBr0.out.block W1.heap.size (by omega)).trans HD2.out
  have hPr := (HBr0.out.block (W1.heap.size + 1) (by omega)).trans HP2.out
  have hp0 : wr0.cell? ⟨W1.heap.size + 1, 0, none⟩ = some (.pointer none) := blk_cell (o := 0) hPr rfl
  have hN : Nob wr0 none := .inl rfl
  have q0 : wr0.cell? ⟨w.heap.size, 0, none⟩ = some (.int .i64 k) := blk_cell (o := 0) hBr rfl
  have q1 : wr0.cell? ⟨w.heap.size, 1, none⟩ = some (.string nm) := blk_cell (o := 1) hBr rfl
  have q2 : wr0.cell? ⟨w.heap.size, 2, none⟩ = some (.string to) := blk_cell (o := 2) hBr rfl
  have q3 : wr0.cell? ⟨w.heap.size, 3, none⟩ = some (.int .i64 at_) := blk_cell (o := 3) hBr rfl
  have q4 : wr0.cell? ⟨w.heap.size, 4, none⟩ = some (.int .i64 long) := blk_cell (o := 4) hBr rfl
  have q5 : wr0.cell? ⟨w.heap.size, 5, none⟩ = some (.slice a m c) := blk_cell (o := 5) hBr rfl
  have q6 : wr0.cell? ⟨w.heap.size, 6, none⟩ = some (.int .i64 cr) := blk_cell (o := 6) hBr rfl
  have q7 : wr0.cell? ⟨w.heap.size, 7, none⟩ = some (.slice a1 m1 c1) := blk_cell (o := 7) hBr rfl
  have q8 : wr0.cell? ⟨w.heap.size, 8, none⟩ = some (.slice a2 m2 c2) := blk_cell (o := 8) hBr rfl
  have q9 : wr0.cell? ⟨w.heap.size, 9, none⟩ = some (.slice a3 m3 c3) := blk_cell (o := 9) hBr rfl
  have q10 : wr0.cell? ⟨w.heap.size, 10, none⟩ = some (.int .i64 ro) := blk_cell (o := 10) hBr rfl
  have HN := hideP hN
  have HBR0 := hideP hBr
  have HBWR := hideP hbwr
  clear hN hbwr hBr hDr hPr hsz
  gi_wp2_with fail
  refine callIn ((HDO.out wr0 none HN.out HBWR.out).mono ?_)
  rintro e V1 ⟨rfl, hv1⟩
  have hN1 := nob_still HN.out hv1
  have kd := nob_dead hN1
  have ko := nob_ops hN1
  have kf := nob_files hN1
  have ks := nob_safe hN1
  have HV1 := hideP hv1
  have HN1 := hideP hN1
  clear hv1 hN1 q0 q1 q2 q3 q4 q5 q6 q7 q8 q9 q10 hp0
  gi_wp2_with fail
  refine callIn (kd.mono ?_)
  rintro e V ⟨rfl, rfl⟩
  gi_wp2_with fail
  refine callIn (ko.mono ?_)
  rintro e V ⟨rfl, rfl⟩
  gi_wp2_with fail
  refine callIn (kf.mono ?_)
  rintro e V ⟨rfl, rfl⟩
  gi_wp2_with fail
  refine callIn (ks.mono ?_)
  rintro e V2 ⟨⟨sa, sc, rfl⟩, hv2⟩
  have hN2 := nob_still HN1.out hv2
  have kc := nob_clone hN2
  have HV2 := hideP hv2
  have HN2 := hideP hN2
  clear hv2 hN2 kd ko kf ks
  gi_wp2_with fail
  refine callIn (kc.mono ?_)
  rintro e V3 ⟨rfl, hv3⟩
  have hN3 := nob_still HN2.out hv3
  have kz := nob_size hN3 nm
  have ke := nob_each hN3
  have hbx : Below wr0.heap.size wr0 V3 := (HV1.out.trans (HV2.out.mono HV1.out.size)).trans (hv3.mono (Nat.le_trans HV1.out.size HV2.out.size))
  have hq1 : V3.cell? ⟨w.heap.size, 1, none⟩ = some (.string nm) := blk_cell (o := 1) ((hbx.block w.heap.size (Nat.lt_of_lt_of_le (by have := HSZ.out; omega) HBr0.out.size)).trans HBR0.out) rfl
  have HBX := hideP hbx
  clear hv3 hN3 hbx kc HN HN1 HN2 HBWR
  gi_wp2_with fail
  refine callIn (kz.mono ?_)
  rintro e V ⟨rfl, rfl⟩
  gi_wp2_with fail
  refine callIn (ke.mono ?_)
  rintro e V4 ⟨b1, b2, rfl, hv4, hb1, hcb⟩
  have HBY0 := hideP (HBX.out.trans (hv4.mono HBX.out.size))
  have HCB := hideP hcb
  clear hv4 hb1 hcb ke kz hq1 HBX HV1 HV2
  gi_wp2_with fail
  refine wpIn_rangeFunc_ownG rfl (by omega) (gf := 53) (lb := #[.pointer (some ⟨b1, 0, none⟩), .pointer (some ⟨b2, 0, none⟩)]) rfl trivial (enters_of Try.func53 (by kernel_rfl) rfl)
    (each_stops2 (n - 1) b1 b2 V4 HCB.out) KpR.trans (KpR.putObj (fun g e => by simp [Value.ownBlock] at e)) (Below.refl _ _) (fun _ => rfl)
    (fun pre W => Below V4.heap.size V4 W)
    (fun _ _ _ => False)
    (below_own V4)
    (fun _ _ _ _ _ hs _ _ => hs)
    (Below.refl _ _)
    (fun x => absurd x.2 (by simp)) ?assign0 ?body0 ?done0 ?stop0
  case assign0 => exact fun l x => absurd x.2 (by simp)
  case body0 => exact fun l pre x => absurd x.2 (by simp)
  case stop0 =>
    rintro D c pre W _ _ h _
    exact h.elim
  rintro D0 ys wr1 hD rfl hI hK
  have HBr1 := hideP (HBr0.out.trans ((HBY0.out.trans (hI.mono HBY0.out.size)).mono HBr0.out.size))
  have HK0 := hideP hK
  have HD0 : Hid (W2.heap.size ≤ D0) := Nat.le_trans (Nat.le_trans HBr0.out.size HBY0.out.size) hD
  clear hD hI hK
  gi_wp2_with fail
  rw [roundsIn_succ]
  have hsz := HSZ.out
  have hbwr : Below w.heap.size w wr1 := HBW.out.trans (HBr1.out.mono HBW.out.size)
  have hBr := (HBr1.out.block w.heap.size (by omega)).trans HB2.out
  have hDr := (HBr1.out.block W1.heap.size (by omega)).trans HD2.out
  have hPr := (HBr1.out.block (W1.heap.size + 1) (by omega)).trans HP2.out
  have hp1 : wr1.cell? ⟨W1.heap.size + 1, 1, none⟩ = some (.pointer (some ⟨W1.heap.size, 0, none⟩)) := blk_cell (o := 1) hPr rfl
  have hN : Nob wr1 (some ⟨W1.heap.size, 0, none⟩) := .inr ⟨_, rfl, hDr⟩
  have q0 : wr1.cell? ⟨w.heap.size, 0, none⟩ = some (.int .i64 k) := blk_cell (o := 0) hBr rfl
  have q1 : wr1.cell? ⟨w.heap.size, 1, none⟩ = some (.string nm) := blk_cell (o := 1) hBr rfl
  have q2 : wr1.cell? ⟨w.heap.size, 2, none⟩ = some (.string to) := blk_cell (o := 2) hBr rfl
  have q3 : wr1.cell? ⟨w.heap.size, 3, none⟩ = some (.int .i64 at_) := blk_cell (o := 3) hBr rfl
  have q4 : wr1.cell? ⟨w.heap.size, 4, none⟩ = some (.int .i64 long) := blk_cell (o := 4) hBr rfl
  have q5 : wr1.cell? ⟨w.heap.size, 5, none⟩ = some (.slice a m c) := blk_cell (o := 5) hBr rfl
  have q6 : wr1.cell? ⟨w.heap.size, 6, none⟩ = some (.int .i64 cr) := blk_cell (o := 6) hBr rfl
  have q7 : wr1.cell? ⟨w.heap.size, 7, none⟩ = some (.slice a1 m1 c1) := blk_cell (o := 7) hBr rfl
  have q8 : wr1.cell? ⟨w.heap.size, 8, none⟩ = some (.slice a2 m2 c2) := blk_cell (o := 8) hBr rfl
  have q9 : wr1.cell? ⟨w.heap.size, 9, none⟩ = some (.slice a3 m3 c3) := blk_cell (o := 9) hBr rfl
  have q10 : wr1.cell? ⟨w.heap.size, 10, none⟩ = some (.int .i64 ro) := blk_cell (o := 10) hBr rfl
  have HN := hideP hN
  have HBR1 := hideP hBr
  have HBWR := hideP hbwr
  clear hN hbwr hBr hDr hPr hsz
  gi_wp2_with fail
  refine callIn ((HDO.out wr1 (some ⟨W1.heap.size, 0, none⟩) HN.out HBWR.out).mono ?_)
  rintro e V1 ⟨rfl, hv1⟩
  have hN1 := nob_still HN.out hv1
  have kd := nob_dead hN1
  have ko := nob_ops hN1
  have kf := nob_files hN1
  have ks := nob_safe hN1
  have HV1 := hideP hv1
  have HN1 := hideP hN1
  clear hv1 hN1 q0 q1 q2 q3 q4 q5 q6 q7 q8 q9 q10 hp1
  gi_wp2_with fail
  refine callIn (kd.mono ?_)
  rintro e V ⟨rfl, rfl⟩
  gi_wp2_with fail
  refine callIn (ko.mono ?_)
  rintro e V ⟨rfl, rfl⟩
  gi_wp2_with fail
  refine callIn (kf.mono ?_)
  rintro e V ⟨rfl, rfl⟩
  gi_wp2_with fail
  refine callIn (ks.mono ?_)
  rintro e V2 ⟨⟨sa, sc, rfl⟩, hv2⟩
  have hN2 := nob_still HN1.out hv2
  have kc := nob_clone hN2
  have HV2 := hideP hv2
  have HN2 := hideP hN2
  clear hv2 hN2 kd ko kf ks
  gi_wp2_with fail
  refine callIn (kc.mono ?_)
  rintro e V3 ⟨rfl, hv3⟩
  have hN3 := nob_still HN2.out hv3
  have kz := nob_size hN3 nm
  have ke := nob_each hN3
  have hbx : Below wr1.heap.size wr1 V3 := (HV1.out.trans (HV2.out.mono HV1.out.size)).trans (hv3.mono (Nat.le_trans HV1.out.size HV2.out.size))
  have hq1 : V3.cell? ⟨w.heap.size, 1, none⟩ = some (.string nm) := blk_cell (o := 1) ((hbx.block w.heap.size (Nat.lt_of_lt_of_le (by have := HSZ.out; omega) HBr1.out.size)).trans HBR1.out) rfl
  have HBX := hideP hbx
  clear hv3 hN3 hbx kc HN HN1 HN2 HBWR
  gi_wp2_with fail
  refine callIn (kz.mono ?_)
  rintro e V ⟨rfl, rfl⟩
  gi_wp2_with fail
  refine callIn (ke.mono ?_)
  rintro e V4 ⟨b1, b2, rfl, hv4, hb1, hcb⟩
  have HBY1 := hideP (HBX.out.trans (hv4.mono HBX.out.size))
  have HCB := hideP hcb
  clear hv4 hb1 hcb ke kz hq1 HBX HV1 HV2
  gi_wp2_with fail
  refine wpIn_rangeFunc_ownG rfl (by omega) (gf := 53) (lb := #[.pointer (some ⟨b1, 0, none⟩), .pointer (some ⟨b2, 0, none⟩)]) rfl trivial (enters_of Try.func53 (by kernel_rfl) rfl)
    (each_stops2 (n - 1) b1 b2 V4 HCB.out) KpR.trans (KpR.putObj (fun g e => by simp [Value.ownBlock] at e)) (Below.refl _ _) (fun _ => rfl)
    (fun pre W => Below V4.heap.size V4 W)
    (fun _ _ _ => False)
    (below_own V4)
    (fun _ _ _ _ _ hs _ _ => hs)
    (Below.refl _ _)
    (fun x => absurd x.2 (by simp)) ?assign1 ?body1 ?done1 ?stop1
  case assign1 => exact fun l x => absurd x.2 (by simp)
  case body1 => exact fun l pre x => absurd x.2 (by simp)
  case stop1 =>
    rintro D c pre W _ _ h _
    exact h.elim
  rintro D1 ys wr2 hD rfl hI hK
  have HBr2 := hideP (HBr1.out.trans ((HBY1.out.trans (hI.mono HBY1.out.size)).mono HBr1.out.size))
  have HK1 := hideP hK
  have HD1 : Hid (W2.heap.size ≤ D1) := Nat.le_trans (Nat.le_trans HBr1.out.size HBY1.out.size) hD
  have HNE : Hid (D0 ≠ D1) := by
    have h1 := (Array.getElem?_eq_some_iff.1 HK0.out).1
    have h2 := HBY1.out.size
    exact fun e => by omega
  have HK0' := hideP (((HBY1.out.trans (hI.mono HBY1.out.size)).block D0 (Array.getElem?_eq_some_iff.1 HK0.out).1).trans HK0.out)
  clear hD hI hK
  gi_wp2_with fail
  rw [roundsIn_succ]
  have hRr : wr2.heap[w.heap.size + 1]? = some (.cells #[.bool false] 4 (0, 0)) := (HBr2.out.block (w.heap.size + 1) (by have := HSZ.out; omega)).trans HR2.out
  have hrc : wr2.cell? ⟨w.heap.size + 1, 0, none⟩ = some (.bool false) := blk_cell hRr rfl
  have hrf : wr2.frozen? ⟨w.heap.size + 1, 0, none⟩ = false := blk_free hRr
  have hbe : Below w.heap.size w (wr2.setCell ⟨w.heap.size + 1, 0, none⟩ (.bool true)) := (HBW.out.trans (HBr2.out.mono HBW.out.size)).setCell (p := ⟨w.heap.size + 1, 0, none⟩) (by simp) _
  have hre := blk_set (o := 0) hRr (.bool true)
  have HBE := hideP hbe
  have HRE := hideP hre
  clear hbe hre hRr
  gi_wp2
  clear hrc hrf
  have hsz := HSZ.out
  have hd0 := HD0.out
  have hd1 := HD1.out
  have hbe := HBE.out
  have hre := HRE.out
  have k1 : (wr2.setCell ⟨w.heap.size + 1, 0, none⟩ (.bool true)).heap[D1]? = some (.deferred (some [])) :=
    (Below.heap_setCell wr2 _ _ _ (fun e => by have : D1 = w.heap.size + 1 := e; omega)).trans HK1.out
  have k0 : (wr2.setCell ⟨w.heap.size + 1, 0, none⟩ (.bool true)).heap[D0]? = some (.deferred (some [])) :=
    (Below.heap_setCell wr2 _ _ _ (fun e => by have : D0 = w.heap.size + 1 := e; omega)).trans HK0'.out
  generalize wr2.setCell ⟨w.heap.size + 1, 0, none⟩ (.bool true) = X at hbe hre k1 k0 ⊢
  have k0' : (X.putObj D1 (.deferred none)).heap[D0]? = some (.deferred (some [])) := by
    rw [putObj_heap_other X D1 D0 _ HNE.out]; exact k0
  have e1 : ((X.putObj D1 (.deferred none)).putObj D0 (.deferred none)).heap[w.heap.size + 1]? = some (.cells #[.bool true] 4 (0, 0)) := by
    rw [putObj_heap_other _ _ _ _ (by omega), putObj_heap_other _ _ _ _ (by omega)]; exact hre
  have ec : ((X.putObj D1 (.deferred none)).putObj D0 (.deferred none)).cell? ⟨w.heap.size + 1, 0, none⟩ = some (.bool true) := blk_cell e1 rfl
  have hbf : Below w.heap.size w ((X.putObj D1 (.deferred none)).putObj D0 (.deferred none)) :=
    ((hbe.grown (grownBy_putObj' X D1 _) hbe.size (fun k e => by cases e; omega)).grown (grownBy_putObj' _ D0 _) (Nat.le_trans hbe.size (by simp [World.putObj])) (fun k e => by cases e; omega))
  refine ⟨by simp, .inl ⟨_, _, rfl, run_takeDeferred k1, ⟨by simp, .inl ⟨_, _, rfl, run_takeDeferred k0', ?_⟩⟩⟩⟩
  refine ⟨.bool true, by simp [results, Try.results4, go_sem, ec], rfl, hbf⟩

theorem none_calls (w : World) (k at_ long : Int) (nm to : ByteArray) (a : Option Addr) (c : Nat) (l : List UInt8)
   (cr ro : Int) (a1 a2 a3 : Option Addr) (c1 c2 c3 : Nat) (x1 x2 x3 : List Value) (hs : a = none → l = [] ∧ c = 0) (ha : ∀ b, a = some b → l ≠ [] → b.block < w.heap.size) (hx : ∀ b, a = some b → ∀ j u, l[j]? = some u → w.cell? (b.add j) = some (byteV u)) (hl : l.length ≤ 140737488355328)
   (h1 : RdS w a1 c1 x1 8) (h2 : RdS w a2 c2 x2 8) (h3 : RdS w a3 c3 x3 8) :
    Calls Try.prog 4 #[.agg #[.int .i64 k, .string nm, .string to, .int .i64 at_, .int .i64 long, .slice a l.length c, .int .i64 cr, .slice a1 x1.length c1, .slice a2 x2.length c2, .slice a3 x3.length c3, .int .i64 ro]] w fun e w' => e = .returned (.bool true) ∧ Below w.heap.size w w' :=
  callsIn_wide.1 (none_any w k at_ long nm to a c l cr ro a1 a2 a3 c1 c2 c3 x1 x2 x3 hs ha hx hl h1 h2 h3 10 (by omega))

end Go.Proofs.Ytcceaokldphfgaa
