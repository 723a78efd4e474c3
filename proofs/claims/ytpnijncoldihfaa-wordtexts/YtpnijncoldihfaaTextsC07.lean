/-
  A number of eight limbs, divided by one limb.
-/
import Derived.Test.YtpnijncoldihfaaTextsC03
import Derived.Test.YtpnijncoldihfaaTextsC05
import Derived.Test.YtpnijncoldihfaaTextsC06
namespace Go.Proofs.Ytpnijncoldihfaa
open Go.RowKit Go.Shelf

/-- Eight cells by a function. -/
theorem get8 (g : Nat → Nat) {j : Nat} (h : j < 8) : (#[.int .u64 (g 0), .int .u64 (g 1), .int .u64 (g 2), .int .u64 (g 3), .int .u64 (g 4), .int .u64 (g 5), .int .u64 (g 6), .int .u64 (g 7)] : Array Value)[j]? = some (.int .u64 (g j)) := by
  match j, h with
  | 0, _ => rfl
  | 1, _ => rfl
  | 2, _ => rfl
  | 3, _ => rfl
  | 4, _ => rfl
  | 5, _ => rfl
  | 6, _ => rfl
  | 7, _ => rfl

theorem set8 (g : Nat → Nat) {j : Nat} (v : Nat) (h : j < 8) : (#[.int .u64 (g 0), .int .u64 (g 1), .int .u64 (g 2), .int .u64 (g 3), .int .u64 (g 4), .int .u64 (g 5), .int .u64 (g 6), .int .u64 (g 7)] : Array Value).setIfInBounds j (.int .u64 v) = (fun g : Nat → Nat => (#[.int .u64 (g 0), .int .u64 (g 1), .int .u64 (g 2), .int .u64 (g 3), .int .u64 (g 4), .int .u64 (g 5), .int .u64 (g 6), .int .u64 (g 7)] : Array Value)) (fun i => if i = j then v else g i) := by
  match j, h with
  | 0, _ => rfl
  | 1, _ => rfl
  | 2, _ => rfl
  | 3, _ => rfl
  | 4, _ => rfl
  | 5, _ => rfl
  | 6, _ => rfl
  | 7, _ => rfl

/-- Where the division has come to: the limbs from the top one on, k of n, are divided. -/
structure LI (w wr : World) (N y n k : Nat) : Prop where
  x : wr.heap[w.heap.size]? = some (.cells #[.int .u64 (limb N 0), .int .u64 (limb N 1), .int .u64 (limb N 2), .int .u64 (limb N 3), .int .u64 (limb N 4), .int .u64 (limb N 5), .int .u64 (limb N 6), .int .u64 (limb N 7)] 36 (0, 0))
  q : ∃ g : Nat → Nat, wr.heap[w.heap.size + 1]? = some (.cells #[.int .u64 (g 0), .int .u64 (g 1), .int .u64 (g 2), .int .u64 (g 3), .int .u64 (g 4), .int .u64 (g 5), .int .u64 (g 6), .int .u64 (g 7)] 36 (0, 0)) ∧ ∀ j, j < 8 → g j = if n ≤ j + k then limb (N / y) j else 0
  r : wr.heap[w.heap.size + 1 + 1]? = some (.cells #[.int .u64 ((N / 18446744073709551616 ^ (n - k) % y : Nat) : Int), .int .u64 0, .int .u64 0, .int .u64 0] 24 (0, 0))
  b : Below w.heap.size w wr

/-- One limb of the quotient. -/
theorem limb_step (N y a : Nat) (hy : 0 < y) :
    let r := N / 18446744073709551616 ^ (a + 1) % y
    (r * 18446744073709551616 + limb N a) / y = limb (N / y) a ∧ (r * 18446744073709551616 + limb N a) % y = N / 18446744073709551616 ^ a % y := by
  intro r
  have hB : 0 < 18446744073709551616 := by decide
  have hT := Nat.mod_add_div (N / 18446744073709551616 ^ a) 18446744073709551616
  rw [Nat.div_div_eq_div_mul, ← Nat.pow_succ] at hT
  have hl : limb N a = N / 18446744073709551616 ^ a % 18446744073709551616 := rfl
  rw [← hl] at hT
  have hd := Nat.mod_add_div (N / 18446744073709551616 ^ (a + 1)) y
  have hr : N / 18446744073709551616 ^ (a + 1) % y = r := rfl
  rw [hr] at hd
  have hrl : r < y := Nat.mod_lt _ hy
  have hll := limb_lt N a
  generalize N / 18446744073709551616 ^ (a + 1) / y = T at hd
  generalize limb N a = l at *
  have e : N / 18446744073709551616 ^ a = (r * 18446744073709551616 + l) + y * (18446744073709551616 * T) := by
    rw [← hT, ← hd, Nat.mul_add, Nat.mul_left_comm y]
    omega
  have hq : (r * 18446744073709551616 + l) / y < 18446744073709551616 := by
    rw [Nat.div_lt_iff_lt_mul hy]
    have : (r + 1) * 18446744073709551616 ≤ y * 18446744073709551616 := Nat.mul_le_mul_right _ hrl
    rw [Nat.mul_comm 18446744073709551616 y]
    omega
  refine ⟨?_, ?_⟩
  · unfold limb
    rw [Nat.div_div_eq_div_mul, Nat.mul_comm y, ← Nat.div_div_eq_div_mul, e, Nat.add_mul_div_left _ _ hy, Nat.add_mul_mod_self_left, Nat.mod_eq_of_lt hq]
  · rw [e, Nat.add_mul_mod_self_left]

theorem top_zero {N n : Nat} (hN : N < 18446744073709551616 ^ 8) (hz : ∀ j, n ≤ j → j < 8 → limb N j = 0) : ∀ d, n + d = 8 → N < 18446744073709551616 ^ n := by
  intro d
  induction d generalizing n with
  | zero => intro h; rwa [show n = 8 by omega]
  | succ d ih =>
    intro h
    have h1 := ih (n := n + 1) (fun j h1 h2 => hz j (by omega) h2) (by omega)
    have h2 := hz n (Nat.le_refl _) (by omega)
    unfold limb at h2
    rw [Nat.mod_eq_of_lt (by rw [Nat.div_lt_iff_lt_mul (Nat.pow_pos (by decide)), Nat.mul_comm, ← Nat.pow_succ]; exact h1)] at h2
    exact (Nat.div_eq_zero_iff_lt (Nat.pow_pos (by decide))).1 h2

theorem limb_high {M n j : Nat} (h : M < 18446744073709551616 ^ n) (hj : n ≤ j) : limb M j = 0 := by
  unfold limb
  rw [Nat.div_eq_of_lt (Nat.lt_of_lt_of_le h (Nat.pow_le_pow_right (by decide) hj))]

theorem setCell_id {w : World} {b t o : Nat} {cs : Array Value} {v : Value} (h : w.heap[b]? = some (.cells cs t (0, 0))) (hv : cs[o]? = some v) : w.setCell ⟨b, o, none⟩ v = w := by
  have hs : (w.setCell ⟨b, o, none⟩ v).heap = w.heap := by
    apply Array.ext_getElem?
    intro i
    by_cases hi : i = b
    · subst hi
      rw [blk_set (o := o) h v, h]
      congr 2
      apply Array.ext_getElem?
      intro j
      rw [Array.getElem?_setIfInBounds]
      split
      · rename_i e
        subst e
        split
        · exact hv.symm
        · rename_i hj; rw [Array.getElem?_eq_none (by omega)] at hv; cases hv
      · rfl
    · exact Below.heap_setCell w _ v i hi
  have : w.setCell ⟨b, o, none⟩ v = { w with heap := (w.setCell ⟨b, o, none⟩ v).heap } := rfl
  rw [this, hs]

theorem below_drewN {B : Nat} {a v : World} (h : Below B a v) (n : Nat) : Below B a (v.drewN n) := ⟨h.os, h.tape, h.output, h.size, h.block⟩

theorem li_next {w wr : World} {N y n k a r q' r' : Nat} {g : Nat → Nat} (I : LI w wr N y n k) (hg : wr.heap[w.heap.size + 1]? = some (.cells #[.int .u64 (g 0), .int .u64 (g 1), .int .u64 (g 2), .int .u64 (g 3), .int .u64 (g 4), .int .u64 (g 5), .int .u64 (g 6), .int .u64 (g 7)] 36 (0, 0))) (hgs : ∀ j, j < 8 → g j = if n ≤ j + k then limb (N / y) j else 0)
    (hr : wr.heap[w.heap.size + 1 + 1]? = some (.cells #[.int .u64 r, .int .u64 0, .int .u64 0, .int .u64 0] 24 (0, 0))) (ha : n - k = a + 1) (ha8 : a < 8) (hq' : q' = limb (N / y) a) (hr' : r' = N / 18446744073709551616 ^ a % y) :
    LI w ((wr.setCell ⟨w.heap.size + 1, a, none⟩ (.int .u64 q')).setCell ⟨w.heap.size + 1 + 1, 0, none⟩ (.int .u64 r')) N y n (k + 1) := by
  have o1 : ∀ (V : World) (p : Addr) (b : Nat) (v : Value), b ≠ p.block → (V.setCell p v).heap[b]? = V.heap[b]? := fun V p b v h => Below.heap_setCell V p v b h
  refine ⟨?_, ⟨fun i => if i = a then q' else g i, ?_, fun j hj => ?_⟩, ?_, ?_⟩
  · rw [o1 _ _ _ _ (by simp <;> omega), o1 _ _ _ _ (by simp)]
    exact I.x
  · rw [o1 _ _ _ _ (by simp)]
    have := blk_set (o := a) hg (.int .u64 q')
    rw [set8 g q' ha8] at this
    exact this
  · by_cases h : j = a
    · subst h
      simp only [if_true]
      rw [if_pos (by omega), hq']
    · simp only [if_neg h]
      rw [hgs j hj]
      by_cases h2 : n ≤ j + k
      · rw [if_pos h2, if_pos (by omega)]
      · rw [if_neg h2, if_neg (by omega)]
  · have := blk_set (o := 0) (w := wr.setCell ⟨w.heap.size + 1, a, none⟩ (.int .u64 q')) ((o1 _ _ _ _ (by simp)).trans hr) (.int .u64 r')
    rw [show n - (k + 1) = a by omega, ← hr']
    exact this
  · exact (I.b.setCell (p := ⟨w.heap.size + 1, a, none⟩) (by simp) _).setCell (p := ⟨w.heap.size + 1 + 1, 0, none⟩) (by simp <;> omega) _

set_option maxHeartbeats 2000000 in
set_option maxRecDepth 100000 in
theorem divideByLimb_any (N y : Nat) (hN : N < 18446744073709551616 ^ 8) (hy : 0 < y) (hy2 : y < 18446744073709551616) (w : World) :
    Calls Try.prog 121 #[w8 N, .int .u64 y] w fun e w' => e = .returned (.tuple #[w8 (N / y), wv (N % y)]) ∧ Below w.heap.size w w' := by
  have hu := fun W (h : ∀ j, j < 8 → W.cell? ⟨w.heap.size, j, none⟩ = some (.int .u64 (limb N j))) => used_any W w.heap.size 8 8 (limb N) (by omega) h
  have HU := hideP hu
  clear hu
  obtain ⟨RES, hRES⟩ : ∃ RES, RES = Value.tuple #[w8 (N / y), wv (N % y)] := ⟨_, rfl⟩
  rw [← hRES]
  have HRES := hideP hRES
  clear hRES
  unfold w8
  obtain ⟨W0, HW0⟩ : ∃ W0, Hid (W0 = ((w.alloc (.cells #[.int .u64 (limb N 0), .int .u64 (limb N 1), .int .u64 (limb N 2), .int .u64 (limb N 3), .int .u64 (limb N 4), .int .u64 (limb N 5), .int .u64 (limb N 6), .int .u64 (limb N 7)] 36)).alloc (.cells #[.int .u64 0, .int .u64 0, .int .u64 0, .int .u64 0, .int .u64 0, .int .u64 0, .int .u64 0, .int .u64 0] 36)).alloc (.cells #[.int .u64 0, .int .u64 0, .int .u64 0, .int .u64 0] 24)) := ⟨_, rfl⟩
  have HX : Hid (W0.heap[w.heap.size]? = some (.cells #[.int .u64 (limb N 0), .int .u64 (limb N 1), .int .u64 (limb N 2), .int .u64 (limb N 3), .int .u64 (limb N 4), .int .u64 (limb N 5), .int .u64 (limb N 6), .int .u64 (limb N 7)] 36 (0, 0))) := by
    show _ = _
    rw [HW0.out, heap_old _ _ (by simp <;> omega), heap_old _ _ (by simp <;> omega)]
    exact heap_new _ _
  have HQ : Hid (W0.heap[w.heap.size + 1]? = some (.cells #[.int .u64 0, .int .u64 0, .int .u64 0, .int .u64 0, .int .u64 0, .int .u64 0, .int .u64 0, .int .u64 0] 36 (0, 0))) := by
    show _ = _
    rw [HW0.out, heap_old _ _ (by simp <;> omega)]
    exact heap_new1 _ _ _
  have HR : Hid (W0.heap[w.heap.size + 1 + 1]? = some (.cells #[.int .u64 0, .int .u64 0, .int .u64 0, .int .u64 0] 24 (0, 0))) := by
    show _ = _
    rw [HW0.out]
    exact heap_new2 _ _ _ _
  have HB : Hid (Below w.heap.size w W0) := by
    show Below _ _ _
    rw [HW0.out]
    exact (((Below.refl _ w).alloc (Nat.le_refl _) _).alloc (by simp) _).alloc (by simp <;> omega) _
  go_enter Try.func121, Try.ntmps121
  go_wp2_with fail
  rw [← HW0.out]
  refine (HU.out W0 (fun j hj => blk_cell HX.out (get8 _ hj))).mono ?_
  rintro e W1 ⟨⟨n, rfl, hn, hz, _⟩, rfl⟩
  have HT : Hid (N < 18446744073709551616 ^ n) := top_zero hN hz (8 - n) (by omega)
  have HI0 : Hid (LI w W0 N y n 0) := by
    refine ⟨HX.out, ⟨fun _ => 0, HQ.out, fun j hj => ?_⟩, ?_, HB.out⟩
    · split
      · exact (limb_high (Nat.lt_of_le_of_lt (Nat.div_le_self _ _) HT.out) (by omega)).symm
      · rfl
    · rw [Nat.sub_zero, Nat.div_eq_of_lt HT.out, Nat.zero_mod]
      exact HR.out
  clear hz
  go_wp2_with fail
  go_loopw [7, 8, 12] (fun _ _ i wr => ∃ k : Nat, k ≤ n ∧ i = .int .i64 k ∧ LI w wr N y n k) (fun _ _ i _ => n - (intOf i).toNat)
  case atStart => exact ⟨0, Nat.zero_le _, rfl, HI0.out⟩
  case round =>
    obtain ⟨k, hk, rfl, I⟩ := hrel
    have HI := hideP I
    clear I
    by_cases hlt : k < n
    · obtain ⟨a, ha⟩ : ∃ a, a = n - 1 - k := ⟨_, rfl⟩
      have e1 : IntKind.i64.wrap ((n : Int) - 1) = (n : Int) - 1 := by rw [IntKind.wrap_i64]; omega
      have e2 : IntKind.i64.wrap ((n : Int) - 1 - k) = (a : Int) := by rw [IntKind.wrap_i64]; omega
      have e4 : IntKind.i64.wrap ((k : Int) + 1) = (k : Int) + 1 := by rw [IntKind.wrap_i64]; omega
      have ha8 : (a : Int) < 8 := by omega
      have ha0 : (0 : Int) ≤ (a : Int) := by omega
      have hlt' : (k : Int) < n := by omega
      have HA : Hid (n - k = a + 1 ∧ a < 8 ∧ n - (k + 1) = a) := ⟨by omega, by omega, by omega⟩
      obtain ⟨r, hr⟩ : ∃ r, r = N / 18446744073709551616 ^ (n - k) % y := ⟨_, rfl⟩
      have hry : r < y := by rw [hr]; exact Nat.mod_lt _ hy
      have hdv := fun W => div64_any r (limb N a) y hry hy2 (limb_lt N a) W
      have hst := limb_step N y a hy
      simp only at hst
      rw [← HA.out.1, ← hr] at hst
      rw [hst.1, hst.2] at hdv
      obtain ⟨r', hr'⟩ : ∃ r', r' = N / 18446744073709551616 ^ a % y := ⟨_, rfl⟩
      obtain ⟨q', hq'⟩ : ∃ q', q' = limb (N / y) a := ⟨_, rfl⟩
      rw [← hr', ← hq'] at hdv
      have HDV := hideP hdv
      have HR' := hideP hr'
      have HQ' := hideP hq'
      obtain ⟨g, hg, hgs⟩ := HI.out.q
      have cx : wr.cell? ⟨w.heap.size, a, none⟩ = some (.int .u64 (limb N a)) := blk_cell HI.out.x (get8 _ HA.out.2.1)
      have cq : wr.cell? ⟨w.heap.size + 1, a, none⟩ = some (.int .u64 (g a)) := blk_cell hg (get8 _ HA.out.2.1)
      have fq : wr.frozen? ⟨w.heap.size + 1, a, none⟩ = false := blk_free hg
      have hIr := HI.out.r
      rw [← hr] at hIr
      have cr : wr.cell? ⟨w.heap.size + 1 + 1, 0, none⟩ = some (.int .u64 r) := blk_cell hIr rfl
      have fr : wr.frozen? ⟨w.heap.size + 1 + 1, 0, none⟩ = false := blk_free hIr
      have HG := hideP (And.intro hg hgs)
      have HIR := hideP hIr
      have HKN : Hid (k + 1 ≤ n) := hlt
      clear ha hr hry hdv hst hg hgs hIr hn hk hlt hr' hq'
      go_wp2_with fail
      refine wp_region_heldS (S := fun V => V.cell? ⟨w.heap.size, a, none⟩ = some (.int .u64 (limb N a))) (by kernel_rfl) (by go_keep) (fun hS => ?_)
      refine wpAnyH_take (i := 0) (v := ?_) rfl (by kernel_rfl) (by kernel_rfl) (by kernel_rfl) (fun _ _ _ h => h) (Or.inl ⟨by rfl, ?_⟩) hS ?_
      rotate_left
      · intro V hV
        (try dsimp only at hV)
        go_simp
        (try with_reducible rfl)
      simp only [Act.put, List.setIfInBounds_toArray]
      refine wpAnyH_take (i := 1) (v := ?_) rfl (by kernel_rfl) (by kernel_rfl) (by kernel_rfl) (fun _ _ _ h => h) (Or.inl ⟨by rfl, ?_⟩) hS ?_
      rotate_left
      · intro V hV
        (try dsimp only at hV)
        go_simp
        (try with_reducible rfl)
      simp only [Act.put]
      refine wpAnyH_take (i := 3) (v := ?_) rfl (by kernel_rfl) (by kernel_rfl) (by kernel_rfl) (fun _ _ _ h => h) (Or.inl ⟨by rfl, ?_⟩) hS ?_
      rotate_left
      · intro V hV
        (try dsimp only at hV)
        go_simp
        (try with_reducible rfl)
      simp only [Act.put]
      refine wpAnyH_take (i := 4) (v := ?_) rfl (by kernel_rfl) (by kernel_rfl) (by kernel_rfl) (fun _ _ _ h => h) (Or.inl ⟨by rfl, ?_⟩) hS ?_
      rotate_left
      · intro V hV
        (try dsimp only at hV)
        go_simp
        (try with_reducible rfl)
      simp only [Act.put]
      refine wpAnyH_take (i := 5) (v := ?_) rfl (by kernel_rfl) (by kernel_rfl) (by kernel_rfl) (fun _ _ _ h => h) (Or.inl ⟨by rfl, ?_⟩) hS ?_
      rotate_left
      · intro V hV
        (try dsimp only at hV)
        go_simp
        (try with_reducible rfl)
      simp only [Act.put]
      refine wpAnyH_take (i := 6) (v := ?_) rfl (by kernel_rfl) (by kernel_rfl) (by kernel_rfl) (fun _ _ _ h => h) (Or.inl ⟨by rfl, ?_⟩) hS ?_
      rotate_left
      · intro V hV
        (try dsimp only at hV)
        go_simp
        (try with_reducible rfl)
      simp only [Act.put]
      refine wpAnyH_ready (rs := [2]) (by kernel_rfl) (by simp) (AllReadyH.cons rfl (fun K hK => ?_) AllReadyH.nil)
      go_simp
      refine hK.out _ _ hS (fun hS => ?_)
      clear hK K
      refine wpAnyH_ready (rs := [7]) (by kernel_rfl) (by simp) (AllReadyH.cons rfl (fun K hK => ?_) AllReadyH.nil)
      go_simp
      refine (HDV.out _).mono ?_
      rintro e w' ⟨rfl, nn, rfl⟩
      refine hK.out _ _ (by go_keep) (fun hS => ?_)
      clear hK K
      refine wpAnyH_take (i := 8) (v := ?_) rfl (by kernel_rfl) (by kernel_rfl) (by kernel_rfl) (fun _ _ _ h => h) (Or.inl ⟨by rfl, ?_⟩) hS ?_
      rotate_left
      · intro V hV
        (try dsimp only at hV)
        go_simp
        (try with_reducible rfl)
      simp only [Act.put]
      refine wpAnyH_take (i := 9) (v := ?_) rfl (by kernel_rfl) (by kernel_rfl) (by kernel_rfl) (fun _ _ _ h => h) (Or.inl ⟨by rfl, ?_⟩) hS ?_
      rotate_left
      · intro V hV
        (try dsimp only at hV)
        go_simp
        (try with_reducible rfl)
      simp only [Act.put]
      refine wpAnyH_take (i := 10) (v := ?_) rfl (by kernel_rfl) (by kernel_rfl) (by kernel_rfl) (fun _ _ _ h => h) (Or.inl ⟨by rfl, ?_⟩) hS ?_
      rotate_left
      · intro V hV
        (try dsimp only at hV)
        go_simp
        (try with_reducible rfl)
      simp only [Act.put]
      refine wpAnyH_take (i := 11) (v := ?_) rfl (by kernel_rfl) (by kernel_rfl) (by kernel_rfl) (fun _ _ _ h => h) (Or.inl ⟨by rfl, ?_⟩) hS ?_
      rotate_left
      · intro V hV
        (try dsimp only at hV)
        go_simp
        (try with_reducible rfl)
      simp only [Act.put]
      refine wpAnyH_ready (rs := [12]) (by kernel_rfl) (by simp) (AllReadyH.cons rfl (fun K hK => ?_) AllReadyH.nil)
      go_simp
      refine hK.out _ _ (by go_keep) (fun hS => ?_)
      clear hK K
      refine wpAnyH_take (i := 13) (v := ?_) rfl (by kernel_rfl) (by kernel_rfl) (by kernel_rfl) (fun _ _ _ h => h) (Or.inl ⟨by rfl, ?_⟩) hS ?_
      rotate_left
      · intro V hV
        (try dsimp only at hV)
        go_simp
        (try with_reducible rfl)
      simp only [Act.put]
      refine wpAnyH_ready (rs := [14]) (by kernel_rfl) (by simp) (AllReadyH.cons rfl (fun K hK => ?_) AllReadyH.nil)
      go_simp
      refine hK.out _ _ (by first | go_keep | (show _ = _; rw [World.cell?_setCell_far _ _ _ _ (by simp <;> omega)]; go_keep)) (fun hS => ?_)
      clear hK K
      refine wpAnyH_done (by kernel_rfl) ?_ _
      clear hS
      go_wp2_with fail
      refine ⟨⟨k + 1, HKN.out, by go_num, ?_⟩, by have := HKN.out; simp [intOf]; omega⟩
      exact li_next (wr := wr.drewN (1 + nn)) ⟨HI.out.x, ⟨g, HG.out⟩, HI.out.r, below_drewN HI.out.b _⟩ HG.out.1 HG.out.2 HIR.out HA.out.1 HA.out.2.1 HQ'.out HR'.out
    · have hkn : k = n := by omega
      subst hkn
      obtain ⟨g, hg, hgs⟩ := HI.out.q
      have hIr := HI.out.r
      rw [Nat.sub_self, Nat.pow_zero, Nat.div_one] at hIr
      have HE : Hid (RES = Value.tuple #[.agg #[.int .u64 (g 0), .int .u64 (g 1), .int .u64 (g 2), .int .u64 (g 3), .int .u64 (g 4), .int .u64 (g 5), .int .u64 (g 6), .int .u64 (g 7)], .agg #[.int .u64 ((N % y : Nat) : Int), .int .u64 0, .int .u64 0, .int .u64 0]]) := by
        show _ = _
        rw [HRES.out]
        have e1 : w8 (N / y) = .agg #[.int .u64 (g 0), .int .u64 (g 1), .int .u64 (g 2), .int .u64 (g 3), .int .u64 (g 4), .int .u64 (g 5), .int .u64 (g 6), .int .u64 (g 7)] := by
          unfold w8
          rw [hgs 0 (by omega), hgs 1 (by omega), hgs 2 (by omega), hgs 3 (by omega), hgs 4 (by omega), hgs 5 (by omega), hgs 6 (by omega), hgs 7 (by omega)]
          simp
        have e2 : wv (N % y) = .agg #[.int .u64 ((N % y : Nat) : Int), .int .u64 0, .int .u64 0, .int .u64 0] :=
          (wv_eq (s1 := 0) (s2 := 0) (s3 := 0) (k := 0) (Nat.lt_trans (Nat.mod_lt _ hy) hy2) (by omega) (by omega) (by omega) (by omega)).symm
        rw [e1, e2]
      obtain ⟨rr, hrr⟩ : ∃ rr, rr = N % y := ⟨_, rfl⟩
      rw [← hrr] at hIr HE
      clear hrr
      have HG := hideP hg
      have HIR := hideP hIr
      have HBL := hideP HI.out.b
      have c0 : wr.cell? ⟨w.heap.size + 1, 0, none⟩ = some (.int .u64 (g 0)) := blk_cell hg rfl
      have c1 : wr.cell? ⟨w.heap.size + 1, 1, none⟩ = some (.int .u64 (g 1)) := blk_cell hg rfl
      have c2 : wr.cell? ⟨w.heap.size + 1, 2, none⟩ = some (.int .u64 (g 2)) := blk_cell hg rfl
      have c3 : wr.cell? ⟨w.heap.size + 1, 3, none⟩ = some (.int .u64 (g 3)) := blk_cell hg rfl
      have c4 : wr.cell? ⟨w.heap.size + 1, 4, none⟩ = some (.int .u64 (g 4)) := blk_cell hg rfl
      have c5 : wr.cell? ⟨w.heap.size + 1, 5, none⟩ = some (.int .u64 (g 5)) := blk_cell hg rfl
      have c6 : wr.cell? ⟨w.heap.size + 1, 6, none⟩ = some (.int .u64 (g 6)) := blk_cell hg rfl
      have c7 : wr.cell? ⟨w.heap.size + 1, 7, none⟩ = some (.int .u64 (g 7)) := blk_cell hg rfl
      have d0 : wr.cell? ⟨w.heap.size + 1 + 1, 0, none⟩ = some (.int .u64 rr) := blk_cell hIr rfl
      have d1 : wr.cell? ⟨w.heap.size + 1 + 1, 1, none⟩ = some (.int .u64 0) := blk_cell hIr rfl
      have d2 : wr.cell? ⟨w.heap.size + 1 + 1, 2, none⟩ = some (.int .u64 0) := blk_cell hIr rfl
      have d3 : wr.cell? ⟨w.heap.size + 1 + 1, 3, none⟩ = some (.int .u64 0) := blk_cell hIr rfl
      have f0 : wr.frozen? ⟨w.heap.size + 1, 0, none⟩ = false := blk_free hg
      have f1 : wr.frozen? ⟨w.heap.size + 1, 1, none⟩ = false := blk_free hg
      have f2 : wr.frozen? ⟨w.heap.size + 1, 2, none⟩ = false := blk_free hg
      have f3 : wr.frozen? ⟨w.heap.size + 1, 3, none⟩ = false := blk_free hg
      have f4 : wr.frozen? ⟨w.heap.size + 1, 4, none⟩ = false := blk_free hg
      have f5 : wr.frozen? ⟨w.heap.size + 1, 5, none⟩ = false := blk_free hg
      have f6 : wr.frozen? ⟨w.heap.size + 1, 6, none⟩ = false := blk_free hg
      have f7 : wr.frozen? ⟨w.heap.size + 1, 7, none⟩ = false := blk_free hg
      have h0 : wr.frozen? ⟨w.heap.size + 1 + 1, 0, none⟩ = false := blk_free hIr
      have h1 : wr.frozen? ⟨w.heap.size + 1 + 1, 1, none⟩ = false := blk_free hIr
      have h2 : wr.frozen? ⟨w.heap.size + 1 + 1, 2, none⟩ = false := blk_free hIr
      have h3 : wr.frozen? ⟨w.heap.size + 1 + 1, 3, none⟩ = false := blk_free hIr
      clear hg hgs hIr hk hlt hn
      go_wp2_with fail
      go_region
      go_wp2_with fail
      rw [setCell_id HG.out (o := 0) (v := .int .u64 (g 0)) rfl, setCell_id HG.out (o := 1) (v := .int .u64 (g 1)) rfl, setCell_id HG.out (o := 2) (v := .int .u64 (g 2)) rfl, setCell_id HG.out (o := 3) (v := .int .u64 (g 3)) rfl, setCell_id HG.out (o := 4) (v := .int .u64 (g 4)) rfl, setCell_id HG.out (o := 5) (v := .int .u64 (g 5)) rfl, setCell_id HG.out (o := 6) (v := .int .u64 (g 6)) rfl, setCell_id HG.out (o := 7) (v := .int .u64 (g 7)) rfl, setCell_id HIR.out (o := 0) (v := .int .u64 rr) rfl, setCell_id HIR.out (o := 1) (v := .int .u64 0) rfl, setCell_id HIR.out (o := 2) (v := .int .u64 0) rfl, setCell_id HIR.out (o := 3) (v := .int .u64 0) rfl]
      refine bodyPost_ret (v := .tuple #[.agg #[.int .u64 (g 0), .int .u64 (g 1), .int .u64 (g 2), .int .u64 (g 3), .int .u64 (g 4), .int .u64 (g 5), .int .u64 (g 6), .int .u64 (g 7)], .agg #[.int .u64 rr, .int .u64 0, .int .u64 0, .int .u64 0]]) (by simp [results, Try.results121, go_sem, c0, c1, c2, c3, c4, c5, c6, c7, d0, d1, d2, d3]) rfl ⟨by rw [HE.out], HBL.out.drew⟩

end Go.Proofs.Ytpnijncoldihfaa
