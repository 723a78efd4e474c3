/-
  The document's long numbers: loads and stores of seventeen cells, to a word, sums.
-/
import Derived.Deep.MidRow
import Derived.Test.YtpnijncoldihfaaTextsC15
import Derived.Test.YtpnijncoldihfaaTextsC17
namespace Go.Proofs.Ytpnijncoldihfaa
open Go.RowKit Go.Shelf

theorem lv_word {X x0 x1 x2 x3 : Nat} (h0 : x0 < 18446744073709551616) (h1 : x1 < 18446744073709551616) (h2 : x2 < 18446744073709551616) (h3 : x3 < 18446744073709551616) (e : X % M256 = num x0 x1 x2 x3) :
    Value.agg #[.int .u64 ((x0 % 4294967296 : Nat) : Int), .int .u64 ((x0 / 4294967296 : Nat) : Int), .int .u64 ((x1 % 4294967296 : Nat) : Int), .int .u64 ((x1 / 4294967296 : Nat) : Int), .int .u64 ((x2 % 4294967296 : Nat) : Int), .int .u64 ((x2 / 4294967296 : Nat) : Int), .int .u64 ((x3 % 4294967296 : Nat) : Int), .int .u64 ((x3 / 4294967296 : Nat) : Int), .int .u64 0, .int .u64 0, .int .u64 0, .int .u64 0, .int .u64 0, .int .u64 0, .int .u64 0, .int .u64 0, .int .u64 0] = lv (X % M256) := by
  have hm : X % M256 < 4294967296 ^ 8 := Nat.lt_of_lt_of_le (Nat.mod_lt _ M256_pos) (by decide)
  have l0 : limb (X % M256) 0 = x0 := by rw [e]; exact limb_zero_of h0
  have l1 : limb (X % M256) 1 = x1 := by rw [e]; unfold num; rw [limb_succ_of h0, limb_zero_of h1]
  have l2 : limb (X % M256) 2 = x2 := by rw [e]; unfold num; rw [limb_succ_of h0, limb_succ_of h1, limb_zero_of h2]
  have l3 : limb (X % M256) 3 = x3 := by
    rw [e]; unfold num; rw [limb_succ_of h0, limb_succ_of h1, limb_succ_of h2]
    have := limb_zero_of (r := 0) h3
    rwa [Nat.mul_zero, Nat.add_zero] at this
  unfold lv c17
  rw [show dg (X % M256) 0 = x0 % 4294967296 by rw [← l0]; exact dg_even _ 0, show dg (X % M256) 1 = x0 / 4294967296 by rw [← l0]; exact dg_odd _ 0,
    show dg (X % M256) 2 = x1 % 4294967296 by rw [← l1]; exact dg_even _ 1, show dg (X % M256) 3 = x1 / 4294967296 by rw [← l1]; exact dg_odd _ 1,
    show dg (X % M256) 4 = x2 % 4294967296 by rw [← l2]; exact dg_even _ 2, show dg (X % M256) 5 = x2 / 4294967296 by rw [← l2]; exact dg_odd _ 2,
    show dg (X % M256) 6 = x3 % 4294967296 by rw [← l3]; exact dg_even _ 3, show dg (X % M256) 7 = x3 / 4294967296 by rw [← l3]; exact dg_odd _ 3]
  rw [dg_high (j := 8) hm (by omega), dg_high (j := 9) hm (by omega), dg_high (j := 10) hm (by omega), dg_high (j := 11) hm (by omega), dg_high (j := 12) hm (by omega), dg_high (j := 13) hm (by omega), dg_high (j := 14) hm (by omega), dg_high (j := 15) hm (by omega), dg_high (j := 16) hm (by omega)]
  rfl

theorem wv_digits (N : Nat) : ∀ i, (dg N (2 * i) : Int) + (dg N (2 * i + 1) : Int) * 4294967296 = (limb N i : Int) := fun i => by
  rw [dg_even, dg_odd]
  omega

set_option maxHeartbeats 2000000 in
set_option maxRecDepth 100000 in
theorem toWord_any (N : Nat) (w : World) : Calls Try.prog 88 #[lv N] w fun e w' => e = .returned (wv N) ∧ Below w.heap.size w w' := by
  have hl : ∀ i, IntKind.u64.wrap ((dg N (2 * i) : Int) + IntKind.u64.wrap ((dg N (2 * i + 1) : Int) * 4294967296)) = (limb N i : Int) := fun i => by
    have h1 := dg_lt N (2 * i + 1)
    have h2 := wv_digits N i
    have h3 := limb_lt N i
    rw [show IntKind.u64.wrap ((dg N (2 * i + 1) : Int) * 4294967296) = (dg N (2 * i + 1) : Int) * 4294967296 by rw [IntKind.wrap_u64]; omega, h2, IntKind.wrap_u64]
    omega
  have e0 : IntKind.u64.wrap ((dg N 0 : Int) + IntKind.u64.wrap ((dg N 1 : Int) * 4294967296)) = (limb N 0 : Int) := hl 0
  have e1 : IntKind.u64.wrap ((dg N 2 : Int) + IntKind.u64.wrap ((dg N 3 : Int) * 4294967296)) = (limb N 1 : Int) := hl 1
  have e2 : IntKind.u64.wrap ((dg N 4 : Int) + IntKind.u64.wrap ((dg N 5 : Int) * 4294967296)) = (limb N 2 : Int) := hl 2
  have e3 : IntKind.u64.wrap ((dg N 6 : Int) + IntKind.u64.wrap ((dg N 7 : Int) * 4294967296)) = (limb N 3 : Int) := hl 3
  have HR := hideP (wv_limb N)
  clear hl
  unfold lv c17
  generalize dg N 0 = g0 at *
  generalize dg N 1 = g1 at *
  generalize dg N 2 = g2 at *
  generalize dg N 3 = g3 at *
  generalize dg N 4 = g4 at *
  generalize dg N 5 = g5 at *
  generalize dg N 6 = g6 at *
  generalize dg N 7 = g7 at *
  generalize dg N 8 = g8 at *
  generalize dg N 9 = g9 at *
  generalize dg N 10 = g10 at *
  generalize dg N 11 = g11 at *
  generalize dg N 12 = g12 at *
  generalize dg N 13 = g13 at *
  generalize dg N 14 = g14 at *
  generalize dg N 15 = g15 at *
  generalize dg N 16 = g16 at *
  generalize limb N 0 = l0 at *
  generalize limb N 1 = l1 at *
  generalize limb N 2 = l2 at *
  generalize limb N 3 = l3 at *
  go_enter Try.func88, Try.ntmps88
  go_wp2_with fail
  refine wp_loop_rounds 5 ?_
  rw [rounds_succ]
  go_wp2_with fail
  go_region
  go_wp2_with fail
  rw [rounds_succ]
  go_wp2_with fail
  go_region
  go_wp2_with fail
  rw [rounds_succ]
  go_wp2_with fail
  go_region
  go_wp2_with fail
  rw [rounds_succ]
  go_wp2_with fail
  go_region
  go_wp2_with fail
  rw [rounds_succ]
  go_wp2
  refine bodyPost_ret (v := .agg #[.int .u64 l0, .int .u64 l1, .int .u64 l2, .int .u64 l3]) (by simp [results, Try.results88, go_sem]) rfl ⟨by rw [HR.out], ?_⟩
  repeat first | exact Below.refl _ _ | apply Below.drew | (refine Below.alloc ?_ (by simp <;> omega) _) | (refine Below.setCell ?_ (by simp <;> omega) _)

theorem range17 {w : World} {b t : Nat} {g : Nat → Nat} (h : w.heap[b]? = some (.cells (c17 g) t (0, 0))) : w.rangeAt b 0 (c17 g).toList := fun j v hv => by
  have h1 := blk_cell (o := 0 + j) (v := v) h (by rw [Nat.zero_add]; rw [Array.getElem?_toList] at hv; exact hv)
  exact h1

theorem there17 {w : World} {b t : Nat} {g : Nat → Nat} (h : w.heap[b]? = some (.cells (c17 g) t (0, 0))) : w.there b 0 17 := fun j hj => by
  refine ⟨(range17 h).isSome j hj, blk_free h⟩

theorem under76 : Try.prog.underlying 76 = some (.array 17 22) := by kernel_rfl

theorem size76 : (Try.prog.info? 76).map (·.size) = some 17 := by kernel_rfl

theorem loadVar17 {w : World} {b : Nat} {g : Nat → Nat} (h : w.rangeAt b 0 (c17 g).toList) : (loadVar 76 ⟨b, 0, none⟩).run Try.prog w = .ok (.agg (c17 g)) w :=
  run_loadVar_mid w b 0 76 (c17 g).toList _ h under76 rfl size76

theorem But.sets {L : Nat} {W : World} : ∀ (vs : List Value) (o : Nat) {V : World}, But L W V → But L W (V.setCells L o vs)
  | [], _, _, h => h
  | v :: r, o, _, h => by rw [World.setCells]; exact But.sets r (o + 1) (h.set o v)

/-- Values written into a row one after another. -/
def putAll (cs : Array Value) (o : Nat) : List Value → Array Value
  | [] => cs
  | v :: r => putAll (cs.setIfInBounds o v) (o + 1) r

theorem blk_sets {p t : Nat} : ∀ (vs : List Value) (o : Nat) {w : World} {cs : Array Value}, w.heap[p]? = some (.cells cs t (0, 0)) → (w.setCells p o vs).heap[p]? = some (.cells (putAll cs o vs) t (0, 0))
  | [], _, _, _, h => h
  | v :: r, o, _, _, h => by rw [World.setCells]; exact blk_sets r (o + 1) (blk_set h v)

theorem putAll17 (g' g : Nat → Nat) : putAll (c17 g') 0 (c17 g).toList = c17 g := by
  simp [c17, putAll]

theorem put_same (a : Act) (d : Nat) (v : Value) (h : d < a.tmps.size) : (a.put (some d) v).eval (.tmp d) = v := by
  simp [Act.put, Act.eval, Array.getD, h]

theorem put_ne (a : Act) {d j : Nat} (v : Value) (h : d ≠ j) : (a.put (some d) v).eval (.tmp j) = a.eval (.tmp j) :=
  Act.eval_put (fun d' hd' e => by cases hd'; cases e; exact h rfl)

theorem results_cell {P : Program} {fn : Func} {ts : Array Value} {w : World} {j ty : Nat} {p : Addr} {v : Value} (hf : fn.results = #[.cell j ty]) (hj : ts.getD j undef = .pointer (some p)) (h : (loadVar ty p).run P w = .ok v w) :
    (results fn ts).run P w = .ok v w := by
  unfold results
  rw [hf]
  rw [Array.getD_eq_getD_getElem?] at hj
  simp [hj, asAddr, h]

theorem results17 {fn : Func} {ts : Array Value} {w : World} {j b : Nat} {g : Nat → Nat} (hf : fn.results = #[.cell j 76]) (hj : ts.getD j undef = .pointer (some ⟨b, 0, none⟩)) (h : w.rangeAt b 0 (c17 g).toList) :
    (results fn ts).run Try.prog w = .ok (.agg (c17 g)) w := results_cell hf hj (loadVar17 h)

theorem end17 {fn : Func} {R : Ending → World → Prop} {a : Act} {w : World} {id L R0 i j k t ty1 ty2 : Nat} {g g' : Nat → Nat} {pos1 pos2 aft1 aft2} (hf : fn.results = #[.cell j 76]) (hi : a.eval (.tmp i) = .pointer (some ⟨L, 0, none⟩)) (hj : a.eval (.tmp j) = .pointer (some ⟨R0, 0, none⟩)) (hjk : k ≠ j) (hk : k < a.tmps.size) (hd : a.defers = [])
    (hL : w.rangeAt L 0 (c17 g).toList) (hR : w.heap[R0]? = some (.cells (c17 g') t (0, 0)))
    (h : ∀ wS, wS.heap[R0]? = some (.cells (c17 g) t (0, 0)) → But R0 w wS → R (.returned (.agg (c17 g))) wS) :
    ((Code.region id #[{ dst := some k, op := .load 76 (.tmp i), type := ty1, pos := pos1, after := aft1, guard := none }, { dst := none, op := .store 76 (.tmp j) (.tmp k), type := ty2, pos := pos2, after := aft2, guard := none }] false).seq .ret).wp Try.prog (bodyPost Try.prog fn R) a w := by
  refine wp_seq ?_
  refine wp_region_list ?_
  have hj' : (a.put (some k) (.agg (c17 g))).eval (.tmp j) = .pointer (some ⟨R0, 0, none⟩) := by rw [put_ne _ _ hjk, hj]
  refine wpList_load_mid rfl 76 (.tmp i) rfl L 0 hi (c17 g).toList _ hL under76 rfl size76 ?_
  refine wpList_store_mid rfl 76 (.tmp j) (.tmp k) rfl R0 0 (c17 g) hj' (put_same _ _ _ hk) (there17 hR) size76 (by simp [c17, Value.oneCell']) ?_
  refine wpList_nil ?_
  refine wp_ret ?_
  have hb := blk_sets (c17 g).toList 0 hR
  rw [putAll17] at hb
  exact bodyPost_ret_by (results17 hf hj' (range17 hb)) hd (h _ hb (But.sets _ _ (But.refl _ _)))

theorem zero17 : (#[.int .u64 0, .int .u64 0, .int .u64 0, .int .u64 0, .int .u64 0, .int .u64 0, .int .u64 0, .int .u64 0, .int .u64 0, .int .u64 0, .int .u64 0, .int .u64 0, .int .u64 0, .int .u64 0, .int .u64 0, .int .u64 0, .int .u64 0] : Array Value) = c17 (fun _ => 0) := rfl

/-- Where a walk over two long numbers has come to. -/
structure PI (w wr : World) (A B N k : Nat) : Prop where
  a : wr.heap[w.heap.size]? = some (.cells (c17 (dg A)) 76 (0, 0))
  b : wr.heap[w.heap.size + 1]? = some (.cells (c17 (dg B)) 76 (0, 0))
  r : wr.heap[w.heap.size + 1 + 1]? = some (.cells (c17 (fun _ => 0)) 76 (0, 0))
  o : ∃ g : Nat → Nat, wr.heap[w.heap.size + 1 + 1 + 1]? = some (.cells (c17 g) 76 (0, 0)) ∧ ∀ j, j < k → g j = dg N j
  l : Below w.heap.size w wr

theorem PI.put {w wr : World} {A B N k : Nat} (I : PI w wr A B N k) (hk : k < 17) {s : Nat} (hs : s = dg N k) :
    PI w (wr.drew.setCell ⟨w.heap.size + 1 + 1 + 1, k, none⟩ (.int .u64 s)) A B N (k + 1) := by
  obtain ⟨g, hg, hgk⟩ := I.o
  have o1 : ∀ b, b ≠ w.heap.size + 1 + 1 + 1 → (wr.drew.setCell ⟨w.heap.size + 1 + 1 + 1, k, none⟩ (.int .u64 s)).heap[b]? = wr.heap[b]? := fun b h => Below.heap_setCell wr.drew _ _ b h
  refine ⟨(o1 _ (by omega)).trans I.a, (o1 _ (by omega)).trans I.b, (o1 _ (by omega)).trans I.r, ⟨fun i => if i = k then s else g i, ?_, fun j hj => ?_⟩, I.l.drew.setCell (p := ⟨w.heap.size + 1 + 1 + 1, k, none⟩) (by simp <;> omega) _⟩
  · have := blk_set (w := wr.drew) (o := k) hg (.int .u64 s)
    rw [set17 g s hk] at this
    exact this
  · show (if j = k then s else g j) = _
    by_cases h : j = k
    · rw [if_pos h, h, hs]
    · rw [if_neg h]; exact hgk j (by omega)

theorem PI.start (w : World) (A B N : Nat) : PI w ((((w.alloc (.cells (c17 (dg A)) 76 (0, 0))).alloc (.cells (c17 (dg B)) 76 (0, 0))).alloc (.cells (c17 (fun _ => 0)) 76 (0, 0))).alloc (.cells (c17 (fun _ => 0)) 76 (0, 0))) A B N 0 := by
  refine ⟨?_, ?_, ?_, ⟨fun _ => 0, ?_, fun j hj => absurd hj (by omega)⟩, ?_⟩
  · simp only [World.alloc, Array.getElem?_push, Array.size_push]; simp [Nat.add_assoc]
  · simp only [World.alloc, Array.getElem?_push, Array.size_push]; simp
  · simp only [World.alloc, Array.getElem?_push, Array.size_push]; simp
  · simp only [World.alloc, Array.getElem?_push, Array.size_push]; simp
  · refine Below.alloc ?_ (by simp <;> omega) _
    refine Below.alloc ?_ (by simp <;> omega) _
    refine Below.alloc ?_ (by simp <;> omega) _
    refine Below.alloc ?_ (by simp <;> omega) _
    exact Below.refl _ _

set_option maxHeartbeats 2000000 in
set_option maxRecDepth 100000 in
theorem plus_any (A B : Nat) (w : World) : Calls Try.prog 89 #[lv A, lv B] w fun e w' => e = .returned (lv (A + B)) ∧ Below w.heap.size w w' := by
  have HI0 := hideP (PI.start w A B (A + B))
  generalize hres : lv (A + B) = res
  have HRES := hideP hres
  clear hres
  unfold lv
  generalize hca : c17 (dg A) = ca
  generalize hcb : c17 (dg B) = cb
  have HCA := hideP hca
  have HCB := hideP hcb
  clear hca hcb
  go_enter Try.func89, Try.ntmps89
  go_wp2_with fail
  go_loopw [6, 7] (fun c i wr => ∃ (k : Nat), k ≤ 17 ∧ i = .int .i64 k ∧ c = .int .u64 (cr A B k) ∧ PI w wr A B (A + B) k) (fun _ i _ => 17 - (intOf i).toNat)
  case atStart => 
    refine ⟨0, Nat.zero_le _, rfl, by simp [cr, Nat.mod_one], ?_⟩
    rw [← HCA.out, ← HCB.out]
    exact HI0.out
  case round =>
    obtain ⟨k, hk, rfl, rfl, I⟩ := hrel
    have HI := hideP I
    clear I
    by_cases hlt : k < 17
    · have cA := blk_cell HI.out.a (get17 _ hlt)
      have cB := blk_cell HI.out.b (get17 _ hlt)
      have fr : ∀ o, wr.frozen? ⟨w.heap.size + 1 + 1 + 1, o, none⟩ = false := fun o => blk_free HI.out.o.choose_spec.1
      have cO := blk_cell HI.out.o.choose_spec.1 (get17 _ hlt)
      have hs := cr_step A B k
      have bA := dg_lt A k
      have bB := dg_lt B k
      have bC := cr_le A B k
      have HN := hideP (HI.out.put hlt hs.1)
      have w1 : IntKind.u64.wrap ((dg A k : Int) + (dg B k : Int)) = (dg A k : Int) + (dg B k : Int) := by rw [IntKind.wrap_u64]; omega
      have w2 : IntKind.u64.wrap ((dg A k : Int) + (dg B k : Int) + (cr A B k : Int)) = (dg A k : Int) + (dg B k : Int) + (cr A B k : Int) := by rw [IntKind.wrap_u64]; omega
      have w3 : ((dg A k : Int) + (dg B k : Int) + (cr A B k : Int)) % 4294967296 = ((dg (A + B) k : Nat) : Int) := by rw [← hs.1]; omega
      have w4 : ((dg A k : Int) + (dg B k : Int) + (cr A B k : Int)) / 4294967296 = ((cr A B (k + 1) : Nat) : Int) := by rw [← hs.2]; omega
      have w5 : IntKind.u64.wrap (((dg A k : Int) + (dg B k : Int) + (cr A B k : Int)).tdiv 4294967296) = ((cr A B (k + 1) : Nat) : Int) := by
        rw [Int.tdiv_eq_ediv_of_nonneg (by omega), w4]; have := cr_le A B (k + 1); rw [IntKind.wrap_u64]; omega
      have hlt' : (k : Int) < 17 := by omega
      have e4 : IntKind.i64.wrap ((k : Int) + 1) = (k : Int) + 1 := by rw [IntKind.wrap_i64]; omega
      have HKS : Hid (k + 1 ≤ 17) := hlt
      rw [hs.1] at HN
      clear hk hlt hs bA bB bC
      generalize dg A k = da at *
      generalize dg B k = db at *
      generalize hcc : cr A B (k + 1) = cc at *
      have HCC := hideP hcc
      clear hcc
      generalize cr A B k = c0 at *
      generalize dg (A + B) k = dd at *
      go_wp2_with fail
      go_region
      go_wp2_with fail
      refine ⟨⟨k + 1, HKS.out, by go_num, by rw [HCC.out], HN.out⟩, by have := HKS.out; simp [intOf]; omega⟩
    · have hkn : k = 17 := by omega
      obtain ⟨g, hg, hgk⟩ := HI.out.o
      rw [hkn] at hgk
      rw [c17_congr hgk] at hg
      have HG := hideP hg
      have hlt' : ¬ (k : Int) < 17 := by omega
      rename_i Q' K hK
      have HK := hideP hK
      clear hk hlt hkn hK hg hgk
      generalize cr A B k = c0 at *
      go_wp2_with fail
      refine HK.out _ _ ?_
      refine end17 rfl rfl rfl (by decide) (by show 28 < 29; decide) rfl (range17 HG.out) HI.out.r ?_
      intro wS h1 h2
      exact ⟨by rw [← HRES.out]; rfl, HI.out.l.trans (h2.below.mono (by omega))⟩

end Go.Proofs.Ytpnijncoldihfaa
