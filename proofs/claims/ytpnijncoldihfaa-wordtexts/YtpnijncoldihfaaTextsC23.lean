/-
  The document's long division.
-/
import Derived.Test.YtpnijncoldihfaaTextsC22
import Derived.Test.YtpnijncoldihfaaTextsC20
namespace Go.Proofs.Ytpnijncoldihfaa
open Go.RowKit Go.Shelf

theorem dg_zero : dg 0 = fun _ => 0 := by funext j; simp [dg]

/-- Where a long division has come to: the cells. -/
structure SI (w wr : World) (A B : Nat) (gq gr : Nat → Nat) : Prop where
  a : wr.heap[w.heap.size]? = some (.cells (c17 (dg A)) 76 (0, 0))
  b : wr.heap[w.heap.size + 1]? = some (.cells (c17 (dg B)) 76 (0, 0))
  r4 : wr.heap[w.heap.size + 1 + 1]? = some (.cells (c17 (fun _ => 0)) 76 (0, 0))
  r5 : wr.heap[w.heap.size + 1 + 1 + 1]? = some (.cells (c17 (fun _ => 0)) 76 (0, 0))
  q : wr.heap[w.heap.size + 1 + 1 + 1 + 1]? = some (.cells (c17 gq) 76 (0, 0))
  r : wr.heap[w.heap.size + 1 + 1 + 1 + 1 + 1]? = some (.cells (c17 gr) 76 (0, 0))
  l : Below w.heap.size w wr

theorem SI.start (w : World) (A B : Nat) : SI w ((((((w.alloc (.cells (c17 (dg A)) 76 (0, 0))).alloc (.cells (c17 (dg B)) 76 (0, 0))).alloc (.cells (c17 (fun _ => 0)) 76 (0, 0))).alloc (.cells (c17 (fun _ => 0)) 76 (0, 0))).alloc (.cells (c17 (fun _ => 0)) 76 (0, 0))).alloc (.cells (c17 (fun _ => 0)) 76 (0, 0))) A B (fun _ => 0) (fun _ => 0) := by
  refine ⟨?_, ?_, ?_, ?_, ?_, ?_, ?_⟩
  · simp only [World.alloc, Array.getElem?_push, Array.size_push]; simp [Nat.add_assoc]
  · simp only [World.alloc, Array.getElem?_push, Array.size_push]; simp [Nat.add_assoc]
  · simp only [World.alloc, Array.getElem?_push, Array.size_push]; simp [Nat.add_assoc]
  · simp only [World.alloc, Array.getElem?_push, Array.size_push]; simp [Nat.add_assoc]
  · simp only [World.alloc, Array.getElem?_push, Array.size_push]; simp [Nat.add_assoc]
  · simp only [World.alloc, Array.getElem?_push, Array.size_push]; simp
  · repeat first | exact Below.refl _ _ | (refine Below.alloc ?_ (by simp <;> omega) _)

theorem SI.drew {w wr : World} {A B : Nat} {gq gr : Nat → Nat} (I : SI w wr A B gq gr) : SI w wr.drew A B gq gr := ⟨I.a, I.b, I.r4, I.r5, I.q, I.r, I.l.drew⟩

theorem SI.call {w wr w' : World} {A B : Nat} {gq gr : Nat → Nat} (I : SI w wr A B gq gr) (h : Below wr.heap.size wr w') : SI w w' A B gq gr :=
  ⟨(h.block _ (lt_of_block I.a)).trans I.a, (h.block _ (lt_of_block I.b)).trans I.b, (h.block _ (lt_of_block I.r4)).trans I.r4, (h.block _ (lt_of_block I.r5)).trans I.r5, (h.block _ (lt_of_block I.q)).trans I.q, (h.block _ (lt_of_block I.r)).trans I.r, I.l.trans (h.mono I.l.size)⟩

theorem SI.but {w wr w' : World} {A B : Nat} {gq gr g' : Nat → Nat} (I : SI w wr A B gq gr) (h : But (w.heap.size + 1 + 1 + 1 + 1 + 1) wr w') (hr : w'.heap[w.heap.size + 1 + 1 + 1 + 1 + 1]? = some (.cells (c17 g') 76 (0, 0))) : SI w w' A B gq g' :=
  ⟨(h.same _ (by omega)).trans I.a, (h.same _ (by omega)).trans I.b, (h.same _ (by omega)).trans I.r4, (h.same _ (by omega)).trans I.r5, (h.same _ (by omega)).trans I.q, hr, I.l.trans (h.below.mono (by omega))⟩

theorem SI.whole {w wr : World} {A B : Nat} {gq gr : Nat → Nat} (I : SI w wr A B gq gr) (g : Nat → Nat) : SI w (wr.setCells (w.heap.size + 1 + 1 + 1 + 1 + 1) 0 (c17 g).toList) A B gq g := by
  refine I.but (But.sets _ _ (But.refl _ _)) ?_
  have h := blk_sets (c17 g).toList 0 I.r
  rwa [putAll17] at h

theorem SI.cell {w wr : World} {A B : Nat} {gq gr : Nat → Nat} (I : SI w wr A B gq gr) {j : Nat} (hj : j < 17) (v : Nat) : SI w (wr.setCell ⟨w.heap.size + 1 + 1 + 1 + 1 + 1, j, none⟩ (.int .u64 v)) A B gq (fun i => if i = j then v else gr i) := by
  refine I.but ((But.refl _ _).set _ _) ?_
  have h := blk_set (o := j) I.r (.int .u64 v)
  rwa [set17 gr v hj] at h

theorem SI.cellQ {w wr : World} {A B : Nat} {gq gr : Nat → Nat} (I : SI w wr A B gq gr) {j : Nat} (hj : j < 17) (v : Nat) : SI w (wr.setCell ⟨w.heap.size + 1 + 1 + 1 + 1, j, none⟩ (.int .u64 v)) A B (fun i => if i = j then v else gq i) gr := by
  have h := (But.refl (w.heap.size + 1 + 1 + 1 + 1) wr).set j (.int .u64 v)
  have hq := blk_set (o := j) I.q (.int .u64 v)
  rw [set17 gq v hj] at hq
  exact ⟨(h.same _ (by omega)).trans I.a, (h.same _ (by omega)).trans I.b, (h.same _ (by omega)).trans I.r4, (h.same _ (by omega)).trans I.r5, hq, (h.same _ (by omega)).trans I.r, I.l.trans (h.below.mono (by omega))⟩

/-- An operation that looks at the world and a call, in either order. -/
theorem wpAnyH_pair {P : Program} {md : Region.Mode} {ops : Array Oper} {Q : Exit → Act → World → Prop} {S : World → Prop} {i j r : Nat} {listed : Array Bool} {l : List Value} {ds : List Deferred} {w : World} (di dj : Nat) (vi vj : Value)
    (hr : Region.ready md ops listed = [i, j]) (hri : Region.ready md ops (listed.setIfInBounds i true) = [j]) (hrj : Region.ready md ops (listed.setIfInBounds j true) = [i]) (hij : i ≠ j) (hd : di ≠ dj)
    (hS : ∀ w', Below w.heap.size w w' → S w')
    (hi : ∀ (T : List Value) (w' : World) (K : Act → World → Prop), (T = l ∨ T = l.set dj vj) → Below w.heap.size w w' → K { tmps := (T.set di vi).toArray, defers := ds } w' → wpOp P ops Q i K { tmps := T.toArray, defers := ds } w')
    (hj : ∀ (T : List Value) (w' : World) (K : Act → World → Prop), (T = l ∨ T = l.set di vi) → Below w.heap.size w w' → (∀ w'', Below w'.heap.size w' w'' → K { tmps := (T.set dj vj).toArray, defers := ds } w'') → wpOp P ops Q j K { tmps := T.toArray, defers := ds } w')
    (h : ∀ w', Below w.heap.size w w' → wpAnyH P md ops Q S r ((listed.setIfInBounds i true).setIfInBounds j true) { tmps := ((l.set di vi).set dj vj).toArray, defers := ds } w') :
    wpAnyH P md ops Q S (r + 2) listed { tmps := l.toArray, defers := ds } w := by
  refine wpAnyH_all hr (by simp) (fun k hk => ?_)
  rcases List.mem_cons.1 hk with rfl | hk
  · refine hi l w _ (Or.inl rfl) (Below.refl _ _) ⟨hS _ (Below.refl _ _), ?_⟩
    refine wpAnyH_all hri (by simp) (fun m hm => ?_)
    rw [List.mem_singleton] at hm
    subst hm
    refine hj _ w _ (Or.inr rfl) (Below.refl _ _) (fun w'' hb => ⟨hS _ hb, h w'' hb⟩)
  · rw [List.mem_singleton] at hk
    subst hk
    refine hj l w _ (Or.inl rfl) (Below.refl _ _) (fun w'' hb => ⟨hS _ hb, ?_⟩)
    refine wpAnyH_all hrj (by simp) (fun m hm => ?_)
    rw [List.mem_singleton] at hm
    subst hm
    refine hi _ w'' _ (Or.inr rfl) hb ⟨hS _ hb, ?_⟩
    rw [List.set_comm _ _ (Ne.symm hd), Array.setIfInBounds_comm _ _ (Ne.symm hij)]
    exact h w'' hb

theorem put_none (a : Act) (v : Value) : a.put none v = a := rfl

/-- The end of a long division. -/
structure SE (w wr : World) (x y : Nat) : Prop where
  q : wr.heap[w.heap.size + 1 + 1 + 1 + 1]? = some (.cells (c17 (dg x)) 76 (0, 0))
  r : wr.heap[w.heap.size + 1 + 1 + 1 + 1 + 1]? = some (.cells (c17 (dg y)) 76 (0, 0))
  r4 : ∃ g, wr.heap[w.heap.size + 1 + 1]? = some (.cells (c17 g) 76 (0, 0))
  r5 : ∃ g, wr.heap[w.heap.size + 1 + 1 + 1]? = some (.cells (c17 g) 76 (0, 0))
  l : Below w.heap.size w wr

theorem SI.toEnd {w wr : World} {A B x y : Nat} (I : SI w wr A B (dg x) (dg y)) : SE w wr x y := ⟨I.q, I.r, ⟨_, I.r4⟩, ⟨_, I.r5⟩, I.l⟩

theorem SE.drew {w wr : World} {x y : Nat} (I : SE w wr x y) : SE w wr.drew x y := ⟨I.q, I.r, I.r4, I.r5, I.l.drew⟩

theorem SE.put4 {w wr : World} {x y : Nat} (I : SE w wr x y) (g : Nat → Nat) : SE w (wr.setCells (w.heap.size + 1 + 1) 0 (c17 g).toList) x y ∧ (wr.setCells (w.heap.size + 1 + 1) 0 (c17 g).toList).heap[w.heap.size + 1 + 1]? = some (.cells (c17 g) 76 (0, 0)) := by
  obtain ⟨g4, h4⟩ := I.r4
  have h := But.sets (c17 g).toList 0 (But.refl (w.heap.size + 1 + 1) wr)
  have hb := blk_sets (c17 g).toList 0 h4
  rw [putAll17] at hb
  obtain ⟨g5, h5⟩ := I.r5
  exact ⟨⟨(h.same _ (by omega)).trans I.q, (h.same _ (by omega)).trans I.r, ⟨_, hb⟩, ⟨g5, (h.same _ (by omega)).trans h5⟩, I.l.trans (h.below.mono (by omega))⟩, hb⟩

theorem SE.put5 {w wr : World} {x y : Nat} (I : SE w wr x y) (g : Nat → Nat) : SE w (wr.setCells (w.heap.size + 1 + 1 + 1) 0 (c17 g).toList) x y ∧ (wr.setCells (w.heap.size + 1 + 1 + 1) 0 (c17 g).toList).heap[w.heap.size + 1 + 1 + 1]? = some (.cells (c17 g) 76 (0, 0)) ∧ (wr.setCells (w.heap.size + 1 + 1 + 1) 0 (c17 g).toList).heap[w.heap.size + 1 + 1]? = wr.heap[w.heap.size + 1 + 1]? := by
  obtain ⟨g5, h5⟩ := I.r5
  have h := But.sets (c17 g).toList 0 (But.refl (w.heap.size + 1 + 1 + 1) wr)
  have hb := blk_sets (c17 g).toList 0 h5
  rw [putAll17] at hb
  obtain ⟨g4, h4⟩ := I.r4
  exact ⟨⟨(h.same _ (by omega)).trans I.q, (h.same _ (by omega)).trans I.r, ⟨g4, (h.same _ (by omega)).trans h4⟩, ⟨_, hb⟩, I.l.trans (h.below.mono (by omega))⟩, hb, h.same _ (by omega)⟩

theorem results_cells {P : Program} {fn : Func} {ts : Array Value} {w : World} {j k ty : Nat} {p q : Addr} {u v : Value} (hf : fn.results = #[.cell j ty, .cell k ty]) (hj : ts.getD j undef = .pointer (some p)) (hk : ts.getD k undef = .pointer (some q)) (h1 : (loadVar ty p).run P w = .ok u w) (h2 : (loadVar ty q).run P w = .ok v w) :
    (results fn ts).run P w = .ok (.tuple #[u, v]) w := by
  unfold results
  rw [hf]
  rw [Array.getD_eq_getD_getElem?] at hj hk
  simp [hj, hk, asAddr, h1, h2]

theorem oneCell17 (g : Nat → Nat) : (c17 g).all (·.oneCell') = true := by simp [c17, Value.oneCell']

set_option maxHeartbeats 4000000 in
set_option maxRecDepth 100000 in
theorem split_any (A B : Nat) (hA : A < 4294967296 ^ 17) (hB0 : 0 < B) (hB : B < 4294967296 ^ 16) (w : World) : Calls Try.prog 95 #[lv A, lv B] w fun e w' => e = .returned (.tuple #[lv (A / B), lv (A % B)]) ∧ Below w.heap.size w w' := by
  have HI0 := hideP (SI.start w A B)
  have HA := hideP hA
  have HB0 := hideP hB0
  have HB := hideP hB
  clear hA hB hB0
  generalize hres : Value.tuple #[lv (A / B), lv (A % B)] = res
  have HRES := hideP hres
  clear hres
  unfold lv
  generalize hca : c17 (dg A) = ca
  generalize hcb : c17 (dg B) = cb
  have HCA := hideP hca
  have HCB := hideP hcb
  clear hca hcb
  go_enter Try.func95, Try.ntmps95
  go_wp2_with fail
  go_loopw [8] (fun i wr => ∃ (k : Nat), k ≤ 16 ∧ i = .int .i64 k ∧ A < 4294967296 ^ (k + 1) ∧ SI w wr A B (fun _ => 0) (fun _ => 0)) (fun i _ => (intOf i).toNat)
  case atStart =>
    refine ⟨16, Nat.le_refl _, rfl, HA.out, ?_⟩
    rw [← HCA.out, ← HCB.out]
    exact HI0.out
  case round =>
    rename_i Q' K hK
    have HK := hideP hK
    clear hK
    obtain ⟨k, hk, rfl, hAk, I⟩ := hrel
    have HI := hideP I
    have HAk := hideP hAk
    clear I hAk
    have hmain : Hid (∀ (j10 j11 j12 j13 j14 j15 j16 j17 j18 j19 : Value), K { tmps := #[.agg ca, .agg cb, .pointer (some ⟨w.heap.size, 0, none⟩), .pointer (some ⟨w.heap.size + 1, 0, none⟩), .pointer (some ⟨w.heap.size + 1 + 1, 0, none⟩), .pointer (some ⟨w.heap.size + 1 + 1 + 1, 0, none⟩), .pointer (some ⟨w.heap.size + 1 + 1 + 1 + 1, 0, none⟩), .pointer (some ⟨w.heap.size + 1 + 1 + 1 + 1 + 1, 0, none⟩), .int .i64 k, undef, j10, j11, j12, j13, j14, j15, j16, j17, j18, j19, undef, undef, undef, undef, undef, undef, undef, undef, undef, undef, undef, undef, undef, undef, undef, undef, undef, undef, undef, undef, undef, undef, undef, undef, undef, undef, undef, undef, undef, undef, undef, undef, undef, undef, undef, undef, undef, undef], defers := [] } wr) := by
      intro j10 j11 j12 j13 j14 j15 j16 j17 j18 j19
      refine HK.out _ _ ?_
      clear HK
      have e5 : IntKind.i64.wrap (32 * (k : Int)) = 32 * (k : Int) := by rw [IntKind.wrap_i64]; omega
      have e6 : IntKind.i64.wrap (32 * (k : Int) + 31) = 32 * (k : Int) + 31 := by rw [IntKind.wrap_i64]; omega
      go_wp2_with fail
      clear e5 e6
      go_loopw [9] (fun i wr => ∃ (n : Nat), n ≤ 32 * k + 32 ∧ i = .int .i64 ((n : Int) - 1) ∧ SI w wr A B (dg (A / 2 ^ n / B * 2 ^ n)) (dg (A / 2 ^ n % B))) (fun i _ => (intOf i + 1).toNat)
      case atStart =>
        refine ⟨32 * k + 32, Nat.le_refl _, by congr 1; omega, ?_⟩
        rw [topZero A k HAk.out, Nat.zero_div, Nat.zero_mul, Nat.zero_mod, dg_zero]
        exact HI.out
      case round =>
        clear HI HI0
        obtain ⟨n, hn, rfl, I⟩ := hrel
        have HI := hideP I
        clear I
        rename_i Q2 K2 hK2
        have HK2 := hideP hK2
        clear hK2
        cases n with
        | zero =>
          have e0 : ((0 : Nat) : Int) - 1 = -1 := rfl
          have g0 : ¬ (-1 : Int) ≥ 0 := by decide
          have g1 : ¬ (0 : Int) ≤ -1 := by decide
          rw [e0]
          have h0 := HI.out
          rw [Nat.pow_zero, Nat.div_one, Nat.mul_one] at h0
          have HE := hideP h0.toEnd
          clear hn h0 e0 HI
          go_wp2_with fail
          refine HK2.out _ _ ?_
          refine wp_seq ?_
          refine wp_region_heldS (S := fun V => SE w V (A / B) (A % B)) (by kernel_rfl) HE.out.drew (fun hS => ?_)
          clear HE HK2
          refine wpAnyH_takeL (i := 0) rfl (by kernel_rfl) (by kernel_rfl) (by kernel_rfl) (fun _ _ _ h => h) (yieldsIf_load_mid (by kernel_rfl) 76 _ rfl (w.heap.size + 1 + 1 + 1 + 1) 0 rfl (c17 (dg (A / B))).toList _ (fun V hV => range17 hV.q) under76 rfl size76) hS ?_
          simp only [put_list, List.set_cons_succ, List.set_cons_zero, Array.toArray_toList]
          refine wpAnyH_takeL (i := 1) rfl (by kernel_rfl) (by kernel_rfl) (by kernel_rfl) (fun _ _ _ h => h) (yieldsIf_load_mid (by kernel_rfl) 76 _ rfl (w.heap.size + 1 + 1 + 1 + 1 + 1) 0 rfl (c17 (dg (A % B))).toList _ (fun V hV => range17 hV.r) under76 rfl size76) hS ?_
          simp only [put_list, List.set_cons_succ, List.set_cons_zero, Array.toArray_toList]
          refine wpAnyH_ready (rs := [2]) (by kernel_rfl) (by simp) (AllReadyH.cons rfl (fun K hK => ?_) AllReadyH.nil)
          rw [if_pos (by kernel_rfl)]
          refine wp_store_mid 76 (.tmp 4) (.tmp 56) rfl (w.heap.size + 1 + 1) 0 (c17 (dg (A / B))) rfl rfl (there17 hS.r4.choose_spec) size76 (oneCell17 _) ?_
          have p4 := hS.put4 (dg (A / B))
          generalize wr.drew.setCells (w.heap.size + 1 + 1) 0 (c17 (dg (A / B))).toList = w2 at p4 ⊢
          refine hK.out _ _ p4.1 (fun hS => ?_)
          clear hK K
          refine wpAnyH_ready (rs := [3]) (by kernel_rfl) (by simp) (AllReadyH.cons rfl (fun K hK => ?_) AllReadyH.nil)
          rw [if_pos (by kernel_rfl)]
          refine wp_store_mid 76 (.tmp 5) (.tmp 57) rfl (w.heap.size + 1 + 1 + 1) 0 (c17 (dg (A % B))) rfl rfl (there17 hS.r5.choose_spec) size76 (oneCell17 _) ?_
          have p5 := hS.put5 (dg (A % B))
          generalize w2.setCells (w.heap.size + 1 + 1 + 1) 0 (c17 (dg (A % B))).toList = w3 at p5 ⊢
          refine hK.out _ _ p5.1 (fun hS => ?_)
          clear hK K
          refine wpAnyH_done (by kernel_rfl) ?_ _
          (try simp only [put_none])
          refine wp_ret ?_
          have f4 := p5.2.2.trans p4.2
          exact bodyPost_ret_by (results_cells rfl rfl rfl (loadVar17 (range17 f4)) (loadVar17 (range17 p5.2.1))) rfl ⟨by rw [← HRES.out]; rfl, hS.l⟩
        | succ n =>
          have e0 : ((n + 1 : Nat) : Int) - 1 = (n : Int) := by omega
          rw [e0]
          have g0 : (n : Int) ≥ 0 := by omega
          have HN := hideP hn
          clear hn e0
          have hR2 : 2 * (A / 2 ^ (n + 1) % B) = A / 2 ^ (n + 1) % B + A / 2 ^ (n + 1) % B := by omega
          have c1 := fun W => plus_any (A / 2 ^ (n + 1) % B) (A / 2 ^ (n + 1) % B) W
          rw [← hR2] at c1
          clear hR2
          have c2 := fun W => bit_any A n (by have := HN.out; omega) W
          have hst := split_step A B n HB0.out
          have hRlt : A / 2 ^ (n + 1) % B < B := Nat.mod_lt _ HB0.out
          have hdd : (fun i => if i = 0 then dg (2 * (A / 2 ^ (n + 1) % B)) 0 + bt A n else dg (2 * (A / 2 ^ (n + 1) % B)) i) = dg (2 * (A / 2 ^ (n + 1) % B) + bt A n) := by
            funext j
            rw [dg_double_add _ _ _ (bt_le A n)]
          have hd0 := dg_lt (2 * (A / 2 ^ (n + 1) % B)) 0
          have hb1 := bt_le A n
          have wadd : IntKind.u64.wrap ((dg (2 * (A / 2 ^ (n + 1) % B)) 0 : Int) + (bt A n : Int)) = ((dg (2 * (A / 2 ^ (n + 1) % B)) 0 + bt A n : Nat) : Int) := by rw [IntKind.wrap_u64]; omega
          have hB16 := HB.out
          have hp17 : 4294967296 ^ 16 * 4294967296 = 4294967296 ^ 17 := (Nat.pow_succ ..).symm
          have c3 := fun W => order_any (2 * (A / 2 ^ (n + 1) % B) + bt A n) B (by omega) (by omega) W
          have hdq : ∀ j, dg (A / 2 ^ (n + 1) / B * 2 ^ (n + 1) + 2 ^ n) j = _ := fun j => dg_add_bit (A / 2 ^ (n + 1) / B) n j
          change _ ∧ (2 * (A / 2 ^ (n + 1) % B) + bt A n < B → _) ∧ (B ≤ 2 * (A / 2 ^ (n + 1) % B) + bt A n → _) at hst
          have HST := hideP hst
          have HDQ := hideP hdq
          have HDD := hideP hdd
          have HRL := hideP hRlt
          clear hst hRlt hdd hd0 hb1 hB16 hp17 hdq
          have C1 := hideP c1
          have C2 := hideP c2
          have C3 := hideP c3
          clear c1 c2 c3
          unfold lv at C1 C2 C3
          have lr := range17 HI.out.r
          go_wp2_with (refine wpList_load_mid rfl 76 _ rfl (w.heap.size + 1 + 1 + 1 + 1 + 1) 0 rfl (c17 (dg (A / 2 ^ (n + 1) % B))).toList _ lr under76 rfl size76 ?_)
          refine (C1.out _).mono ?_
          rintro e w1 ⟨rfl, hb⟩
          have HI1 := hideP (HI.out.call hb)
          clear hb HI lr C1
          go_wp2_with (refine wpList_store_mid rfl 76 _ _ rfl (w.heap.size + 1 + 1 + 1 + 1 + 1) 0 (c17 (dg (2 * (A / 2 ^ (n + 1) % B)))) rfl rfl (there17 HI1.out.r) size76 (oneCell17 _) ?_)
          have HI2 := hideP (HI1.out.whole (dg (2 * (A / 2 ^ (n + 1) % B))))
          clear HI1
          simp only [put_none]
          generalize w1.setCells (w.heap.size + 1 + 1 + 1 + 1 + 1) 0 (c17 (dg (2 * (A / 2 ^ (n + 1) % B)))).toList = w2 at HI2 ⊢
          refine at_world_t (fun W0 hW0 => ?_)
          subst hW0
          refine wp_region_heldS (S := fun V => ∃ g, SI w V A B (dg (A / 2 ^ (n + 1) / B * 2 ^ (n + 1))) g) (by kernel_rfl) ⟨_, HI2.out.drew⟩ (fun hS => ?_)
          refine wpAnyH_takeL (i := 0) (v := ?_) rfl (by kernel_rfl) (by kernel_rfl) (by kernel_rfl) (fun _ _ _ h => h) (Or.inl ⟨by kernel_rfl, ?_⟩) hS ?_
          rotate_left
          · intro V hV
            go_simp
            (try with_reducible rfl)
          simp only [put_list, List.set_cons_succ, List.set_cons_zero]
          refine wpAnyH_takeL (i := 2) rfl (by kernel_rfl) (by kernel_rfl) (by kernel_rfl) (fun _ _ _ h => h) (yieldsIf_load_mid (by kernel_rfl) 76 _ rfl (w.heap.size) 0 rfl (c17 (dg A)).toList _ (fun V hV => range17 hV.choose_spec.a) under76 rfl size76) hS ?_
          simp only [put_list, List.set_cons_succ, List.set_cons_zero, Array.toArray_toList]
          refine wpAnyH_takeL (i := 3) (v := ?_) rfl (by kernel_rfl) (by kernel_rfl) (by kernel_rfl) (fun _ _ _ h => h) (Or.inl ⟨by kernel_rfl, ?_⟩) hS ?_
          rotate_left
          · intro V hV
            go_simp
            (try with_reducible rfl)
          simp only [put_list, List.set_cons_succ, List.set_cons_zero]
          refine wpAnyH_pair (i := 1) (j := 4) (r := 3) 31 34 (.int .u64 (dg (2 * (A / 2 ^ (n + 1) % B)) 0)) (.int .u64 (bt A n)) (by kernel_rfl) (by kernel_rfl) (by kernel_rfl) (by decide) (by decide) (fun w' hb => ⟨_, HI2.out.drew.call hb⟩) ?_ ?_ ?_
          · intro T w' K hT hb hK
            have cr := blk_cell (HI2.out.drew.call hb).r (get17 _ (show 0 < 17 by decide))
            have HK' := hideP hK
            clear hK
            rcases hT with rfl | rfl
            · simp only [List.set_cons_succ, List.set_cons_zero] at HK' ⊢
              refine wpOp_stepT rfl (fun K' hK' => ?_)
              have HKK := hideP hK'
              clear hK'
              go_simp
              exact HKK.out _ _ HK'.out
            · simp only [List.set_cons_succ, List.set_cons_zero] at HK' ⊢
              refine wpOp_stepT rfl (fun K' hK' => ?_)
              have HKK := hideP hK'
              clear hK'
              go_simp
              exact HKK.out _ _ HK'.out
          · intro T w' K hT hb hK
            have HK' := hideP hK
            clear hK
            rcases hT with rfl | rfl
            · simp only [List.set_cons_succ, List.set_cons_zero] at HK' ⊢
              refine wpOp_stepT rfl (fun K' hK' => ?_)
              have HKK := hideP hK'
              clear hK'
              go_simp
              refine (C2.out _).mono ?_
              rintro e w3 ⟨rfl, hb'⟩
              exact HKK.out _ _ (HK'.out w3 hb')
            · simp only [List.set_cons_succ, List.set_cons_zero] at HK' ⊢
              refine wpOp_stepT rfl (fun K' hK' => ?_)
              have HKK := hideP hK'
              clear hK'
              go_simp
              refine (C2.out _).mono ?_
              rintro e w3 ⟨rfl, hb'⟩
              exact HKK.out _ _ (HK'.out w3 hb')
          intro w3 hb3
          have HI3 := hideP (HI2.out.drew.call hb3)
          clear hb3 HI2 hS C2
          have hS : ∃ g, SI w w3 A B (dg (A / 2 ^ (n + 1) / B * 2 ^ (n + 1))) g := ⟨_, HI3.out⟩
          simp only [List.set_cons_succ, List.set_cons_zero]
          refine wpAnyH_takeL (i := 5) (v := ?_) rfl (by kernel_rfl) (by kernel_rfl) (by kernel_rfl) (fun _ _ _ h => h) (Or.inl ⟨by kernel_rfl, ?_⟩) hS ?_
          rotate_left
          · intro V hV
            go_simp
            (try with_reducible rfl)
          simp only [put_list, List.set_cons_succ, List.set_cons_zero]
          refine wpAnyH_takeL (i := 6) (v := ?_) rfl (by kernel_rfl) (by kernel_rfl) (by kernel_rfl) (fun _ _ _ h => h) (Or.inl ⟨by kernel_rfl, ?_⟩) hS ?_
          rotate_left
          · intro V hV
            go_simp
            (try with_reducible rfl)
          simp only [put_list, List.set_cons_succ, List.set_cons_zero]
          refine wpAnyH_ready (rs := [7]) (by kernel_rfl) (by simp) (AllReadyH.cons rfl (fun K hK => ?_) AllReadyH.nil)
          rw [if_pos (by kernel_rfl)]
          have cr := blk_cell HI3.out.r (get17 _ (show 0 < 17 by decide))
          have fr : ∀ o, w3.frozen? ⟨w.heap.size + 1 + 1 + 1 + 1 + 1, o, none⟩ = false := fun o => blk_free HI3.out.r
          go_simp
          have HI4 := hideP (HI3.out.cell (show 0 < 17 by decide) (dg (2 * (A / 2 ^ (n + 1) % B)) 0 + bt A n))
          rw [HDD.out] at HI4
          rw [Int.natCast_add] at HI4
          refine hK.out _ _ ⟨_, HI4.out⟩ (fun hS => ?_)
          clear hK K hS cr fr wadd HI3 HDD
          generalize w3.setCell ⟨w.heap.size + 1 + 1 + 1 + 1 + 1, 0, none⟩ _ = w4 at HI4 ⊢
          refine wpAnyH_done (by kernel_rfl) ?_ _
          have lr := range17 HI4.out.r
          have lb := range17 HI4.out.b
          generalize ((dg (2 * (A / 2 ^ (n + 1) % B)) 0 : Nat) : Int) + ((bt A n : Nat) : Int) = junk
          go_wp2_with (first | refine wpList_load_mid rfl 76 _ rfl (w.heap.size + 1 + 1 + 1 + 1 + 1) 0 rfl (c17 (dg (2 * (A / 2 ^ (n + 1) % B) + bt A n))).toList _ lr under76 rfl size76 ?_ | refine wpList_load_mid rfl 76 _ rfl (w.heap.size + 1) 0 rfl (c17 (dg B)).toList _ lb under76 rfl size76 ?_)
          refine (C3.out _).mono ?_
          rintro e w5 ⟨rfl, hb5⟩
          have HI5 := hideP (HI4.out.call hb5)
          clear hb5 HI4 lr lb C3
          by_cases hlt : 2 * (A / 2 ^ (n + 1) % B) + bt A n < B
          · rw [cmpI_lt hlt]
            have hst := HST.out.2.1 hlt
            have g1 : ¬ (-1 : Int) ≥ 0 := by decide
            have g2 : ¬ (0 : Int) ≤ -1 := by decide
            have HIF : Hid (SI w w5 A B (dg (A / 2 ^ n / B * 2 ^ n)) (dg (A / 2 ^ n % B))) := by
              rw [hst.1, hst.2]; exact HI5.out
            clear hst HST hlt HI5 HDQ HRL
            have e4 : IntKind.i64.wrap ((n : Int) - 1) = (n : Int) - 1 := by rw [IntKind.wrap_i64]; have := HN.out; omega
            go_wp2_with fail
            refine ⟨⟨n, by have := HN.out; omega, rfl, HIF.out⟩, by simp [intOf]⟩
          · have hge : B ≤ 2 * (A / 2 ^ (n + 1) % B) + bt A n := by omega
            have c4 := fun W => minus_any (2 * (A / 2 ^ (n + 1) % B) + bt A n) B hge W
            have hst := HST.out.2.2 hge
            have g1 : cmpI (2 * (A / 2 ^ (n + 1) % B) + bt A n) B ≥ 0 := by
              unfold cmpI
              rw [if_neg hlt]
              split <;> decide
            have g2 : 0 ≤ cmpI (2 * (A / 2 ^ (n + 1) % B) + bt A n) B := g1
            generalize cmpI (2 * (A / 2 ^ (n + 1) % B) + bt A n) B = cc at *
            have C4 := hideP c4
            have hs1 : A / 2 ^ n % B = 2 * (A / 2 ^ (n + 1) % B) + bt A n - B := hst.1
            have hs2 := hst.2
            unfold lv at C4
            generalize 2 * (A / 2 ^ (n + 1) % B) + bt A n - B = D at C4 hs1
            have HS1 := hideP hs1
            have HS2 := hideP hs2
            clear hs1 hs2
            have lr := range17 HI5.out.r
            have lb := range17 HI5.out.b
            clear c4 hst HST hlt hge HRL
            go_wp2_with (first | refine wpList_load_mid rfl 76 _ rfl (w.heap.size + 1 + 1 + 1 + 1 + 1) 0 rfl (c17 (dg (2 * (A / 2 ^ (n + 1) % B) + bt A n))).toList _ lr under76 rfl size76 ?_ | refine wpList_load_mid rfl 76 _ rfl (w.heap.size + 1) 0 rfl (c17 (dg B)).toList _ lb under76 rfl size76 ?_)
            refine (C4.out _).mono ?_
            rintro e w6 ⟨rfl, hb6⟩
            have HI6 := hideP (HI5.out.call hb6)
            clear hb6 HI5 lr lb C4
            go_wp2_with (refine wpList_store_mid rfl 76 _ _ rfl (w.heap.size + 1 + 1 + 1 + 1 + 1) 0 (c17 (dg D)) rfl rfl (there17 HI6.out.r) size76 (oneCell17 _) ?_; refine Hid.out ?_)
            have HI7 := hideP (HI6.out.whole (dg D))
            clear HI6
            refine hideP ?_
            (try simp only [put_none])
            generalize w6.setCells (w.heap.size + 1 + 1 + 1 + 1 + 1) 0 (c17 (dg D)).toList = w7 at HI7 ⊢
            have hn544 : n < 544 := by have := HN.out; omega
            have hj17 : n / 32 < 17 := by omega
            have cQ := blk_cell HI7.out.q (get17 _ hj17)
            have fr : ∀ o, w7.frozen? ⟨w.heap.size + 1 + 1 + 1 + 1, o, none⟩ = false := fun o => blk_free HI7.out.q
            have bq := dg_lt (A / 2 ^ (n + 1) / B * 2 ^ (n + 1)) (n / 32)
            have bp : 2 ^ (n % 32) ≤ 2147483648 := Nat.le_trans (Nat.pow_le_pow_right (by decide) (show n % 32 ≤ 31 by omega)) (by decide)
            have HIF : Hid (SI w (w7.setCell ⟨w.heap.size + 1 + 1 + 1 + 1, n / 32, none⟩ (.int .u64 ((dg (A / 2 ^ (n + 1) / B * 2 ^ (n + 1)) (n / 32) + 2 ^ (n % 32) : Nat) : Int))) A B (dg (A / 2 ^ n / B * 2 ^ n)) (dg (A / 2 ^ n % B))) := by
              have h := HI7.out.cellQ hj17 (dg (A / 2 ^ (n + 1) / B * 2 ^ (n + 1)) (n / 32) + 2 ^ (n % 32))
              rw [HS1.out, HS2.out]
              have hq : (fun i => if i = n / 32 then dg (A / 2 ^ (n + 1) / B * 2 ^ (n + 1)) (n / 32) + 2 ^ (n % 32) else dg (A / 2 ^ (n + 1) / B * 2 ^ (n + 1)) i) = dg (A / 2 ^ (n + 1) / B * 2 ^ (n + 1) + 2 ^ n) := by
                funext j
                rw [HDQ.out j]
                by_cases hj : j = n / 32
                · rw [if_pos hj, if_pos hj, hj]
                · rw [if_neg hj, if_neg hj]
              rw [hq] at h
              exact h
            have e1 : ((n : Int)).tdiv 32 = ((n / 32 : Nat) : Int) := by rw [Int.tdiv_eq_ediv_of_nonneg (by omega)]; omega
            have e1' : IntKind.i64.wrap ((n / 32 : Nat) : Int) = ((n / 32 : Nat) : Int) := by rw [IntKind.wrap_i64]; omega
            have e2 : ((n : Int)).tmod 32 = ((n % 32 : Nat) : Int) := by rw [Int.tmod_eq_emod_of_nonneg (by omega)]; omega
            have e2' : IntKind.i64.wrap ((n % 32 : Nat) : Int) = ((n % 32 : Nat) : Int) := by rw [IntKind.wrap_i64]; omega
            have e3 : IntKind.u64.wrap ((n % 32 : Nat) : Int) = ((n % 32 : Nat) : Int) := by rw [IntKind.wrap_u64]; omega
            have g5 : ((n / 32 : Nat) : Int) < 17 := by omega
            have g6 : ((n % 32 : Nat) : Int) < 64 := by omega
            have hp : (2 : Int) ^ (n % 32) = ((2 ^ (n % 32) : Nat) : Int) := by simp
            have e7 : IntKind.u64.wrap ((2 : Int) ^ (n % 32)) = ((2 ^ (n % 32) : Nat) : Int) := by rw [hp]; exact M64.wrapN _ (by omega)
            have e8 : IntKind.u64.wrap ((dg (A / 2 ^ (n + 1) / B * 2 ^ (n + 1)) (n / 32) : Int) + ((2 ^ (n % 32) : Nat) : Int)) = ((dg (A / 2 ^ (n + 1) / B * 2 ^ (n + 1)) (n / 32) + 2 ^ (n % 32) : Nat) : Int) := by rw [← Int.natCast_add]; exact M64.wrapN _ (by omega)
            have e4 : IntKind.i64.wrap ((n : Int) - 1) = (n : Int) - 1 := by rw [IntKind.wrap_i64]; omega
            clear bq bp hn544 hj17 hp HI7 HDQ HS1 HS2
            generalize dg (A / 2 ^ (n + 1) / B * 2 ^ (n + 1)) (n / 32) = dq at *
            generalize n / 32 = nq at *
            generalize hpw : (2 : Nat) ^ (n % 32) = pw at *
            clear hpw
            generalize n % 32 = nr at *
            generalize dq + pw = dqp at *
            go_wp2_with fail
            refine ⟨⟨n, by have := HN.out; omega, rfl, HIF.out⟩, by simp [intOf]⟩
    clear HK
    by_cases hz : k = 0
    · subst hz
      have g1 : ¬ ((0 : Nat) : Int) > 0 := by decide
      have g2 : ¬ (0 : Int) < ((0 : Nat) : Int) := by decide
      clear hk HI HAk
      go_wp2_with fail
      exact hmain.out _ _ _ _ _ _ _ _ _ _
    · have g1 : (k : Int) > 0 := by omega
      have g2 : (0 : Int) < (k : Int) := g1
      have g3 : (k : Int) < 17 := by omega
      have cA := blk_cell HI.out.a (get17 _ (show k < 17 by omega))
      by_cases hd : dg A k = 0
      · rw [hd] at cA
        have e4 : IntKind.i64.wrap ((k : Int) - 1) = (k : Int) - 1 := by rw [IntKind.wrap_i64]; omega
        have HN : Hid (∃ m : Nat, k = m + 1 ∧ A < 4294967296 ^ (m + 1)) := by
          obtain ⟨m, rfl⟩ : ∃ m, k = m + 1 := ⟨k - 1, by omega⟩
          exact ⟨m, rfl, topStep A m HAk.out hd⟩
        have HK1 := hideP hk
        clear hk hd hz HAk hmain
        go_wp2_with fail
        obtain ⟨m, rfl, hm⟩ := HN.out
        refine ⟨⟨m, by have := HK1.out; omega, by congr 1; omega, hm, HI.out⟩, by simp [intOf]⟩
      · have hd' : ((dg A k : Int) == 0) = false := by simp; omega
        have hd2 : ¬ (dg A k : Int) = 0 := by omega
        clear hk hd hz HI HAk
        generalize dg A k = da at *
        go_wp2_with fail
        exact hmain.out _ _ _ _ _ _ _ _ _ _

end Go.Proofs.Ytpnijncoldihfaa
