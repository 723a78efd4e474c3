/-
  A number added back to the limbs of another.
-/
import Derived.Test.YtpnijncoldihfaaSubProd
namespace Go.Proofs.Ytpnijncoldihfaa
open Go.RowKit Go.Shelf

/-- Where the adding back has come to. -/
structure ABI (W wr : World) (L at_ : Nat) (g y gk : Nat → Nat) (k c : Nat) : Prop where
  lt : ∀ j, gk j < 18446744073709551616
  far : ∀ j, j < at_ ∨ at_ + k ≤ j → gk j = g j
  sum : val (fun j => g (at_ + j)) k + val y k = val (fun j => gk (at_ + j)) k + 18446744073709551616 ^ k * c
  c : c ≤ 1
  cells : wr.heap[L]? = some (.cells (c9 gk) 113 (0, 0))
  but : But L W wr

theorem ABI.put {W wr : World} {L at_ : Nat} {g y gk : Nat → Nat} {k c s c' : Nat} (I : ABI W wr L at_ g y gk k c) (hk : at_ + k < 9) (hs : s < 18446744073709551616) (hc : c' ≤ 1)
    (e : g (at_ + k) + y k + c = s + 18446744073709551616 * c') :
    ABI W (wr.drew.setCell ⟨L, at_ + k, none⟩ (.int .u64 s)) L at_ g y (fun i => if i = at_ + k then s else gk i) (k + 1) c' := by
  refine ⟨fun j => ?_, fun j hj => ?_, ?_, hc, ?_, I.but.drew.set _ _⟩
  · split
    · exact hs
    · exact I.lt j
  · rw [if_neg (by omega)]
    exact I.far j (by omega)
  · have h1 : val (fun j => if at_ + j = at_ + k then s else gk (at_ + j)) k = val (fun j => gk (at_ + j)) k := val_congr k (fun j hj => by rw [if_neg (by omega)])
    show val (fun j => g (at_ + j)) k + g (at_ + k) * 18446744073709551616 ^ k + (val y k + y k * 18446744073709551616 ^ k) = val (fun j => if at_ + j = at_ + k then s else gk (at_ + j)) k + (if at_ + k = at_ + k then s else gk (at_ + k)) * 18446744073709551616 ^ k + 18446744073709551616 ^ (k + 1) * c'
    rw [h1, if_pos rfl, Nat.pow_succ]
    have h2 : 18446744073709551616 ^ k * (g (at_ + k) + y k + c) = 18446744073709551616 ^ k * (s + 18446744073709551616 * c') := by rw [e]
    simp only [Nat.mul_add] at h2
    have h3 := I.sum
    rw [Nat.mul_comm (g (at_ + k)), Nat.mul_comm (y k), Nat.mul_comm s, Nat.mul_assoc]
    omega
  · have := blk_set (w := wr.drew) (o := at_ + k) I.cells (.int .u64 s)
    rw [set9 gk s hk] at this
    exact this

set_option maxHeartbeats 2000000 in
set_option maxRecDepth 100000 in
theorem addBack_any (W : World) (L Yb at_ n cp cy : Nat) (g y : Nat → Nat) (hat : at_ + n < 9) (hg : ∀ j, g j < 18446744073709551616) (hy : ∀ j, y j < 18446744073709551616) (hne : Yb ≠ L)
    (hL : W.heap[L]? = some (.cells (c9 g) 113 (0, 0))) (hY : ∀ j, j < n → W.cell? ⟨Yb, j, none⟩ = some (.int .u64 (y j))) :
    Calls Try.prog 132 #[.slice (some ⟨L, at_, none⟩) (n + 1) cp, .slice (some ⟨Yb, 0, none⟩) n cy] W fun e V =>
      e = .returned (.tuple #[]) ∧ ∃ g' : Nat → Nat, (∀ j, g' j < 18446744073709551616) ∧ (∀ j, j < at_ ∨ at_ + n < j → g' j = g j) ∧
        (∃ d, val (fun j => g (at_ + j)) (n + 1) + val y n = val (fun j => g' (at_ + j)) (n + 1) + 18446744073709551616 ^ (n + 1) * d) ∧ V.heap[L]? = some (.cells (c9 g') 113 (0, 0)) ∧ But L W V := by
  have HI0 : Hid (ABI W W L at_ g y g 0 0) := ⟨hg, fun _ _ => rfl, by simp [val], by omega, hL, But.refl _ _⟩
  have HY := hideP hY
  have HG := hideP hg
  have HYL := hideP hy
  clear hY hg hy hL
  go_enter Try.func132, Try.ntmps132
  go_wp2_with fail
  go_loopw [4, 8] (fun c i wr => ∃ (k cv : Nat) (gk : Nat → Nat), k ≤ n ∧ i = .int .i64 k ∧ c = .int .u64 cv ∧ ABI W wr L at_ g y gk k cv) (fun _ i _ => n - (intOf i).toNat)
  case atStart => exact ⟨0, 0, g, Nat.zero_le _, rfl, rfl, HI0.out⟩
  case round =>
    obtain ⟨k, cv, gk, hk, rfl, rfl, I⟩ := hrel
    have HI := hideP I
    clear I
    by_cases hlt : k < n
    · obtain ⟨s, c', hs, hc', e2, hsb⟩ := add64_ex (g (at_ + k)) (y k) cv (HG.out _) (HYL.out k) HI.out.c
      have cy := (HI.out.but.cell (o := k) hne).trans (HY.out k hlt)
      have cp := blk_cell HI.out.cells (get9 gk (show at_ + k < 9 by omega))
      rw [HI.out.far (at_ + k) (Or.inr (Nat.le_refl _))] at cp
      have fr : ∀ o, wr.frozen? ⟨L, o, none⟩ = false := fun o => blk_free HI.out.cells
      have HN := hideP (HI.out.put (show at_ + k < 9 by omega) hs hc' e2)
      have hlt' : (k : Int) < n := by omega
      have hlt2 : (k : Int) < (n : Int) + 1 := by omega
      have e4 : IntKind.i64.wrap ((k : Int) + 1) = (k : Int) + 1 := by rw [IntKind.wrap_i64]; omega
      have HKS : Hid (k + 1 ≤ n) := hlt
      clear e2 hs hc' hk hlt
      go_wp2_with fail
      go_region
      go_wp2_with fail
      refine ⟨⟨k + 1, c', _, HKS.out, by go_num, rfl, HN.out⟩, by have := HKS.out; simp [intOf]; omega⟩
    · have hkn : k = n := by omega
      subst hkn
      have cp := blk_cell HI.out.cells (get9 gk (show at_ + k < 9 by omega))
      rw [HI.out.far (at_ + k) (Or.inr (Nat.le_refl _))] at cp
      have fr : ∀ o, wr.frozen? ⟨L, o, none⟩ = false := fun o => blk_free HI.out.cells
      obtain ⟨s, hs⟩ : ∃ s : Nat, s = (g (at_ + k) + cv) % 18446744073709551616 := ⟨_, rfl⟩
      have hsl : s < 18446744073709551616 := by rw [hs]; exact Nat.mod_lt _ (by decide)
      have hw : IntKind.u64.wrap ((g (at_ + k) : Int) + cv) = (s : Int) := by
        rw [show ((g (at_ + k) : Int) + cv) = ((g (at_ + k) + cv : Nat) : Int) by omega, M64.wrapM, hs]
      have HN : Hid ((∀ j, (if j = at_ + k then s else gk j) < 18446744073709551616) ∧ (∀ j, j < at_ ∨ at_ + k < j → (if j = at_ + k then s else gk j) = g j) ∧
          val (fun j => g (at_ + j)) (k + 1) + val y k = val (fun j => if at_ + j = at_ + k then s else gk (at_ + j)) (k + 1) + 18446744073709551616 ^ (k + 1) * ((g (at_ + k) + cv) / 18446744073709551616) ∧
          (wr.setCell ⟨L, at_ + k, none⟩ (.int .u64 s)).heap[L]? = some (.cells (c9 (fun i => if i = at_ + k then s else gk i)) 113 (0, 0)) ∧ But L W (wr.setCell ⟨L, at_ + k, none⟩ (.int .u64 s))) := by
        refine ⟨fun j => ?_, fun j hj => ?_, ?_, ?_, HI.out.but.set _ _⟩
        · split
          · exact hsl
          · exact HI.out.lt j
        · rw [if_neg (by omega)]
          exact HI.out.far j (by omega)
        · have h1 : val (fun j => if at_ + j = at_ + k then s else gk (at_ + j)) k = val (fun j => gk (at_ + j)) k := val_congr k (fun j hj => by rw [if_neg (by omega)])
          show val (fun j => g (at_ + j)) k + g (at_ + k) * 18446744073709551616 ^ k + val y k = val (fun j => if at_ + j = at_ + k then s else gk (at_ + j)) k + (if at_ + k = at_ + k then s else gk (at_ + k)) * 18446744073709551616 ^ k + 18446744073709551616 ^ (k + 1) * ((g (at_ + k) + cv) / 18446744073709551616)
          rw [h1, if_pos rfl, Nat.pow_succ]
          have hd := Nat.mod_add_div (g (at_ + k) + cv) 18446744073709551616
          rw [← hs] at hd
          generalize (g (at_ + k) + cv) / 18446744073709551616 = d at hd
          have h2 : 18446744073709551616 ^ k * (s + 18446744073709551616 * d) = 18446744073709551616 ^ k * (g (at_ + k) + cv) := by rw [hd]
          simp only [Nat.mul_add] at h2
          have h3 := HI.out.sum
          rw [Nat.mul_comm (g (at_ + k)), Nat.mul_comm s, Nat.mul_assoc]
          omega
        · have := blk_set (o := at_ + k) HI.out.cells (.int .u64 s)
          rw [set9 gk s (by omega)] at this
          exact this
      have hlt' : ¬ (k : Int) < k := by omega
      have hlt2 : (k : Int) < (k : Int) + 1 := by omega
      clear hs hsl hk hlt
      go_wp2_with fail
      refine bodyPost_end (v := .tuple #[]) (by simp [results, Try.results132, go_sem]) rfl ⟨rfl, fun i => if i = at_ + k then s else gk i, HN.out.1, HN.out.2.1, ⟨_, HN.out.2.2.1⟩, HN.out.2.2.2⟩

end Go.Proofs.Ytpnijncoldihfaa
