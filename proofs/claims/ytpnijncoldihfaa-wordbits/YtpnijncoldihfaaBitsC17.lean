/-
  The document's order of long numbers.
-/
import Derived.Test.YtpnijncoldihfaaBitsC14
import Derived.Test.YtpnijncoldihfaaBitsC16
namespace Go.Proofs.Ytpnijncoldihfaa
open Go.RowKit Go.Shelf

theorem long_lt {A B k : Nat} (hA : A < 4294967296 ^ 17) (hB : B < 4294967296 ^ 17) (hk : k < 17) (heq : ∀ j, k + 1 ≤ j → j < 17 → dg A j = dg B j) (hlt : dg A k < dg B k) : A < B := by
  have eA := vl_dg A 17
  have eB := vl_dg B 17
  rw [Nat.mod_eq_of_lt hA] at eA
  rw [Nat.mod_eq_of_lt hB] at eB
  obtain ⟨n, hn⟩ : ∃ n, 17 = k + 1 + n := ⟨16 - k, by omega⟩
  rw [hn, vl_add] at eA eB
  have hc : vl (fun j => dg A (k + 1 + j)) n = vl (fun j => dg B (k + 1 + j)) n := vl_congr n (fun j hj => heq _ (by omega) (by omega))
  rw [hc] at eA
  have h1 := vl_lt k (fun j _ => dg_lt A j)
  have h2 : (dg A k + 1) * 4294967296 ^ k ≤ dg B k * 4294967296 ^ k := Nat.mul_le_mul_right _ hlt
  rw [Nat.add_mul, Nat.one_mul] at h2
  have eA' : vl (dg A) (k + 1) = vl (dg A) k + dg A k * 4294967296 ^ k := rfl
  have eB' : vl (dg B) (k + 1) = vl (dg B) k + dg B k * 4294967296 ^ k := rfl
  omega

theorem long_eq {A B : Nat} (hA : A < 4294967296 ^ 17) (hB : B < 4294967296 ^ 17) (heq : ∀ j, j < 17 → dg A j = dg B j) : A = B := by
  have eA := vl_dg A 17
  have eB := vl_dg B 17
  rw [Nat.mod_eq_of_lt hA] at eA
  rw [Nat.mod_eq_of_lt hB] at eB
  rw [← eA, ← eB]
  exact vl_congr 17 heq

/-- Where a comparison has come to. -/
structure OI (w wr : World) (A B k : Nat) : Prop where
  a : wr.heap[w.heap.size]? = some (.cells (c17 (dg A)) 76 (0, 0))
  b : wr.heap[w.heap.size + 1]? = some (.cells (c17 (dg B)) 76 (0, 0))
  e : ∀ j, k ≤ j → j < 17 → dg A j = dg B j
  l : Below w.heap.size w wr

theorem OI.start (w : World) (A B : Nat) : OI w ((w.alloc (.cells (c17 (dg A)) 76 (0, 0))).alloc (.cells (c17 (dg B)) 76 (0, 0))) A B 17 := by
  refine ⟨?_, ?_, fun j h1 h2 => absurd h2 (by omega), ?_⟩
  · simp only [World.alloc, Array.getElem?_push, Array.size_push]; simp
  · simp only [World.alloc, Array.getElem?_push, Array.size_push]; simp
  · refine Below.alloc ?_ (by simp <;> omega) _
    refine Below.alloc ?_ (by simp <;> omega) _
    exact Below.refl _ _

set_option maxHeartbeats 2000000 in
set_option maxRecDepth 100000 in
theorem order_any (A B : Nat) (hA : A < 4294967296 ^ 17) (hB : B < 4294967296 ^ 17) (w : World) : Calls Try.prog 86 #[lv A, lv B] w fun e w' => e = .returned (.int .i64 (cmpI A B)) ∧ Below w.heap.size w w' := by
  have HI0 := hideP (OI.start w A B)
  have HA := hideP hA
  have HB := hideP hB
  clear hA hB
  unfold lv
  generalize hca : c17 (dg A) = ca
  generalize hcb : c17 (dg B) = cb
  have HCA := hideP hca
  have HCB := hideP hcb
  clear hca hcb
  generalize hres : cmpI A B = res
  have HRES := hideP hres
  clear hres
  go_enter Try.func86, Try.ntmps86
  go_wp2_with fail
  go_loopw [5] (fun i wr => ∃ (k : Nat), k ≤ 17 ∧ i = .int .i64 ((k : Int) - 1) ∧ OI w wr A B k) (fun i _ => (intOf i + 1).toNat)
  case atStart =>
    refine ⟨17, Nat.le_refl _, rfl, ?_⟩
    rw [← HCA.out, ← HCB.out]
    exact HI0.out
  case round =>
    obtain ⟨k, hk, rfl, I⟩ := hrel
    have HI := hideP I
    clear I
    cases k with
    | zero =>
      have e0 : ((0 : Nat) : Int) - 1 = -1 := rfl
      have HR : Hid (res = 0) := by
        rw [← HRES.out, long_eq HA.out HB.out (fun j hj => HI.out.e j (by omega) hj)]
        show _ = _
        simp [cmpI]
      clear hk
      rw [e0]
      have g0 : ¬ (-1 : Int) ≥ 0 := by decide
      have g1 : ¬ (0 : Int) ≤ -1 := by decide
      clear e0
      go_wp2_with fail
      go_ret
      exact ⟨by rw [HR.out]; rfl, HI.out.l⟩
    | succ k =>
      have e0 : ((k + 1 : Nat) : Int) - 1 = (k : Int) := by omega
      rw [e0]
      have cA := blk_cell HI.out.a (get17 _ (show k < 17 by omega))
      have cB := blk_cell HI.out.b (get17 _ (show k < 17 by omega))
      have g0 : (k : Int) ≥ 0 := by omega
      have g1 : (0 : Int) ≤ (k : Int) := by omega
      have g2 : (k : Int) < 17 := by omega
      have e4 : IntKind.i64.wrap ((k : Int) - 1) = (k : Int) - 1 := by rw [IntKind.wrap_i64]; omega
      have HK1 := hideP hk
      by_cases h1 : dg A k < dg B k
      · have HR : Hid (res = -1) := by
          rw [← HRES.out]
          have := long_lt HA.out HB.out hk (fun j h2 h3 => HI.out.e j h2 h3) h1
          show _ = _
          simp [cmpI, this]
        have h1' : (dg A k : Int) < (dg B k : Int) := by omega
        clear hk h1 e0
        generalize dg A k = da at *
        generalize dg B k = db at *
        go_wp2_with fail
        go_region
        go_wp2_with fail
        go_ret
        exact ⟨by rw [HR.out]; rfl, HI.out.l.drew⟩
      · have h1' : ¬ (dg A k : Int) < (dg B k : Int) := by omega
        by_cases h2 : dg B k < dg A k
        · have HR : Hid (res = 1) := by
            rw [← HRES.out]
            have := long_lt HB.out HA.out hk (fun j h2 h3 => (HI.out.e j h2 h3).symm) h2
            have h3 : ¬ A < B := by omega
            show _ = _
            simp [cmpI, this, h3]
          have h2' : (dg B k : Int) < (dg A k : Int) := by omega
          clear hk h1 h2 e0
          generalize dg A k = da at *
          generalize dg B k = db at *
          go_wp2_with fail
          go_region
          go_wp2_with fail
          go_region
          go_wp2_with fail
          go_ret
          exact ⟨by rw [HR.out]; rfl, HI.out.l.drew.drew⟩
        · have h2' : ¬ (dg B k : Int) < (dg A k : Int) := by omega
          have HN : Hid (OI w wr.drew.drew A B k) := ⟨HI.out.a, HI.out.b, fun j h3 h4 => by
            by_cases h5 : j = k
            · subst h5; omega
            · exact HI.out.e j (by omega) h4, HI.out.l.drew.drew⟩
          clear hk h1 h2 e0
          generalize dg A k = da at *
          generalize dg B k = db at *
          go_wp2_with fail
          go_region
          go_wp2_with fail
          go_region
          go_wp2_with fail
          refine ⟨⟨k, by have := HK1.out; omega, rfl, HN.out⟩, by simp [intOf]⟩

end Go.Proofs.Ytpnijncoldihfaa
