/-
  A product taken away from the limbs of a number, and a number added back.
-/
import Derived.Test.YtpnijncoldihfaaTextsC16
namespace Go.Proofs.Ytpnijncoldihfaa
open Go.RowKit Go.Shelf

/-- The cells of nine limbs. -/
def c9 (g : Nat → Nat) : Array Value := #[.int .u64 (g 0), .int .u64 (g 1), .int .u64 (g 2), .int .u64 (g 3), .int .u64 (g 4), .int .u64 (g 5), .int .u64 (g 6), .int .u64 (g 7), .int .u64 (g 8)]

theorem get9 (g : Nat → Nat) {j : Nat} (h : j < 9) : (c9 g)[j]? = some (.int .u64 (g j)) := by
  match j, h with
  | 0, _ => rfl
  | 1, _ => rfl
  | 2, _ => rfl
  | 3, _ => rfl
  | 4, _ => rfl
  | 5, _ => rfl
  | 6, _ => rfl
  | 7, _ => rfl
  | 8, _ => rfl

theorem set9 (g : Nat → Nat) {j : Nat} (v : Nat) (h : j < 9) : (c9 g).setIfInBounds j (.int .u64 v) = c9 (fun i => if i = j then v else g i) := by
  match j, h with
  | 0, _ => rfl
  | 1, _ => rfl
  | 2, _ => rfl
  | 3, _ => rfl
  | 4, _ => rfl
  | 5, _ => rfl
  | 6, _ => rfl
  | 7, _ => rfl
  | 8, _ => rfl

/-- All but the block L is as it was. -/
structure But (L : Nat) (W V : World) : Prop where
  same : ∀ b, b ≠ L → V.heap[b]? = W.heap[b]?
  below : Below L W V

theorem But.refl (L : Nat) (W : World) : But L W W := ⟨fun _ _ => rfl, Below.refl _ _⟩

theorem But.set {L : Nat} {W V : World} (h : But L W V) (o : Nat) (v : Value) : But L W (V.setCell ⟨L, o, none⟩ v) :=
  ⟨fun b hb => (Below.heap_setCell V _ v b hb).trans (h.same b hb), h.below.setCell (p := ⟨L, o, none⟩) (Nat.le_refl _) v⟩

theorem But.drew {L : Nat} {W V : World} (h : But L W V) : But L W V.drew := ⟨h.same, h.below.drew⟩

theorem But.trans {L : Nat} {W V U : World} (h : But L W V) (g : But L V U) : But L W U := ⟨fun b hb => (g.same b hb).trans (h.same b hb), h.below.trans g.below⟩

theorem But.cell {L : Nat} {W V : World} (h : But L W V) {b o : Nat} (hb : b ≠ L) : V.cell? ⟨b, o, none⟩ = W.cell? ⟨b, o, none⟩ := by
  simp only [World.cell?, h.same b hb]

namespace SP
theorem step {B Bk P p S s Y y m a c l a' c' : Nat} (h : P + Bk * c + Bk * a = S + m * Y) (e1 : y * m + a = l + B * a') (e2 : p + B * c' = s + l + c) :
    P + p * Bk + Bk * B * c' + Bk * B * a' = S + s * Bk + m * (Y + y * Bk) := by
  have h1 : Bk * (y * m + a) = Bk * (l + B * a') := by rw [e1]
  have h2 : Bk * (p + B * c') = Bk * (s + l + c) := by rw [e2]
  simp only [Nat.mul_add] at h1 h2
  rw [Nat.mul_add, Nat.mul_comm p, Nat.mul_comm s, Nat.mul_assoc Bk B c', Nat.mul_assoc Bk B a']
  have h3 : m * (y * Bk) = Bk * (y * m) := by rw [Nat.mul_comm m, Nat.mul_comm y Bk, Nat.mul_assoc]
  rw [h3]
  omega

theorem last {B Bk P p S s Y m a c c' : Nat} (h : P + Bk * c + Bk * a = S + m * Y) (e2 : p + B * c' = s + a + c) :
    P + p * Bk + Bk * B * c' = S + s * Bk + m * Y := by
  have h2 : Bk * (p + B * c') = Bk * (s + a + c) := by rw [e2]
  simp only [Nat.mul_add] at h2
  rw [Nat.mul_comm p, Nat.mul_comm s, Nat.mul_assoc Bk B c']
  omega

end SP

/-- Where the taking away has come to. -/
structure SPI (W wr : World) (L at_ m : Nat) (g y gk : Nat → Nat) (k a c : Nat) : Prop where
  lt : ∀ j, gk j < 18446744073709551616
  far : ∀ j, j < at_ ∨ at_ + k ≤ j → gk j = g j
  sum : val (fun j => g (at_ + j)) k + 18446744073709551616 ^ k * c + 18446744073709551616 ^ k * a = val (fun j => gk (at_ + j)) k + m * val y k
  a : a < 18446744073709551616
  c : c ≤ 1
  cells : wr.heap[L]? = some (.cells (c9 gk) 113 (0, 0))
  but : But L W wr

theorem SPI.put {W wr : World} {L at_ m : Nat} {g y gk : Nat → Nat} {k a c s l a' c' : Nat} (I : SPI W wr L at_ m g y gk k a c) (hk : at_ + k < 9) (hs : s < 18446744073709551616) (ha : a' < 18446744073709551616) (hc : c' ≤ 1)
    (e1 : y k * m + a = l + 18446744073709551616 * a') (e2 : g (at_ + k) + 18446744073709551616 * c' = s + l + c) :
    SPI W (wr.setCell ⟨L, at_ + k, none⟩ (.int .u64 s)) L at_ m g y (fun i => if i = at_ + k then s else gk i) (k + 1) a' c' := by
  refine ⟨fun j => ?_, fun j hj => ?_, ?_, ha, hc, ?_, I.but.set _ _⟩
  · split
    · exact hs
    · exact I.lt j
  · rw [if_neg (by omega)]
    exact I.far j (by omega)
  · have h1 : val (fun j => if at_ + j = at_ + k then s else gk (at_ + j)) k = val (fun j => gk (at_ + j)) k := val_congr k (fun j hj => by rw [if_neg (by omega)])
    show val (fun j => g (at_ + j)) k + g (at_ + k) * 18446744073709551616 ^ k + 18446744073709551616 ^ (k + 1) * c' + 18446744073709551616 ^ (k + 1) * a' = val (fun j => if at_ + j = at_ + k then s else gk (at_ + j)) k + (if at_ + k = at_ + k then s else gk (at_ + k)) * 18446744073709551616 ^ k + m * (val y k + y k * 18446744073709551616 ^ k)
    rw [h1, if_pos rfl, Nat.pow_succ]
    exact SP.step I.sum e1 e2
  · have := blk_set (o := at_ + k) I.cells (.int .u64 s)
    rw [set9 gk s hk] at this
    exact this

set_option maxHeartbeats 2000000 in
set_option maxRecDepth 100000 in
theorem subtractProduct_any (W : World) (L Yb at_ n m cp cy : Nat) (g y : Nat → Nat) (hat : at_ + n < 9) (hg : ∀ j, g j < 18446744073709551616) (hy : ∀ j, y j < 18446744073709551616) (hm : m < 18446744073709551616) (hne : Yb ≠ L)
    (hL : W.heap[L]? = some (.cells (c9 g) 113 (0, 0))) (hY : ∀ j, j < n → W.cell? ⟨Yb, j, none⟩ = some (.int .u64 (y j))) :
    Calls Try.prog 131 #[.slice (some ⟨L, at_, none⟩) (n + 1) cp, .slice (some ⟨Yb, 0, none⟩) n cy, .int .u64 m] W fun e V =>
      ∃ (g' : Nat → Nat) (c : Nat), e = .returned (.bool ((c : Int) == 1)) ∧ c ≤ 1 ∧ (∀ j, g' j < 18446744073709551616) ∧ (∀ j, j < at_ ∨ at_ + n < j → g' j = g j) ∧
        val (fun j => g (at_ + j)) (n + 1) + 18446744073709551616 ^ (n + 1) * c = val (fun j => g' (at_ + j)) (n + 1) + m * val y n ∧ V.heap[L]? = some (.cells (c9 g') 113 (0, 0)) ∧ But L W V := by
  have HI0 : Hid (SPI W W L at_ m g y g 0 0 0) := ⟨hg, fun _ _ => rfl, by simp [val], by omega, by omega, hL, But.refl _ _⟩
  have HY := hideP hY
  have HG := hideP hg
  have HYL := hideP hy
  clear hY hg hy hL
  go_enter Try.func131, Try.ntmps131
  go_wp2_with fail
  go_loopw [7, 9, 13] (fun a c i wr => ∃ (k av cv : Nat) (gk : Nat → Nat), k ≤ n ∧ i = .int .i64 k ∧ a = .int .u64 av ∧ c = .int .u64 cv ∧ SPI W wr L at_ m g y gk k av cv) (fun _ _ i _ => n - (intOf i).toNat)
  case atStart => exact ⟨0, 0, 0, g, Nat.zero_le _, rfl, rfl, rfl, HI0.out⟩
  case round =>
    obtain ⟨k, av, cv, gk, hk, rfl, rfl, rfl, I⟩ := hrel
    have HI := hideP I
    clear I
    by_cases hlt : k < n
    · obtain ⟨a', l, ha', hl, e1, hma⟩ := multiplyAdd_ex (y k) m av 0 (HYL.out k) hm HI.out.a (by omega)
      obtain ⟨s, c', hs, hc', e2, hsb⟩ := sub64_ex (g (at_ + k)) l cv (HG.out _) hl HI.out.c
      have cy := (HI.out.but.cell (o := k) hne).trans (HY.out k hlt)
      have cp := blk_cell HI.out.cells (get9 gk (show at_ + k < 9 by omega))
      rw [HI.out.far (at_ + k) (Or.inr (Nat.le_refl _))] at cp
      have fr : ∀ o, wr.frozen? ⟨L, o, none⟩ = false := fun o => blk_free HI.out.cells
      have HN := hideP (HI.out.put (show at_ + k < 9 by omega) hs ha' hc' (by rw [Nat.add_zero] at e1; exact e1) e2)
      have hlt' : (k : Int) < n := by omega
      have hlt2 : (k : Int) < (n : Int) + 1 := by omega
      have e4 : IntKind.i64.wrap ((k : Int) + 1) = (k : Int) + 1 := by rw [IntKind.wrap_i64]; omega
      have HKS : Hid (k + 1 ≤ n) := hlt
      have HMA := hideP hma
      clear e1 e2 hl hs ha' hc' hma hk hlt
      go_wp2_with fail
      refine (HMA.out _).mono ?_
      rintro e w1 ⟨rfl, rfl⟩
      go_wp2_with fail
      refine ⟨⟨k + 1, a', c', _, HKS.out, by go_num, rfl, rfl, HN.out⟩, by have := HKS.out; simp [intOf]; omega⟩
    · have hkn : k = n := by omega
      subst hkn
      obtain ⟨s, c', hs, hc', e2, hsb⟩ := sub64_ex (g (at_ + k)) av cv (HG.out _) HI.out.a HI.out.c
      have cp := blk_cell HI.out.cells (get9 gk (show at_ + k < 9 by omega))
      rw [HI.out.far (at_ + k) (Or.inr (Nat.le_refl _))] at cp
      have fr : ∀ o, wr.frozen? ⟨L, o, none⟩ = false := fun o => blk_free HI.out.cells
      have HN : Hid (c' ≤ 1 ∧ (∀ j, (if j = at_ + k then s else gk j) < 18446744073709551616) ∧ (∀ j, j < at_ ∨ at_ + k < j → (if j = at_ + k then s else gk j) = g j) ∧
          val (fun j => g (at_ + j)) (k + 1) + 18446744073709551616 ^ (k + 1) * c' = val (fun j => if at_ + j = at_ + k then s else gk (at_ + j)) (k + 1) + m * val y k ∧
          (wr.setCell ⟨L, at_ + k, none⟩ (.int .u64 s)).heap[L]? = some (.cells (c9 (fun i => if i = at_ + k then s else gk i)) 113 (0, 0)) ∧ But L W (wr.setCell ⟨L, at_ + k, none⟩ (.int .u64 s))) := by
        refine ⟨hc', fun j => ?_, fun j hj => ?_, ?_, ?_, HI.out.but.set _ _⟩
        · split
          · exact hs
          · exact HI.out.lt j
        · rw [if_neg (by omega)]
          exact HI.out.far j (by omega)
        · have h1 : val (fun j => if at_ + j = at_ + k then s else gk (at_ + j)) k = val (fun j => gk (at_ + j)) k := val_congr k (fun j hj => by rw [if_neg (by omega)])
          show val (fun j => g (at_ + j)) k + g (at_ + k) * 18446744073709551616 ^ k + 18446744073709551616 ^ (k + 1) * c' = val (fun j => if at_ + j = at_ + k then s else gk (at_ + j)) k + (if at_ + k = at_ + k then s else gk (at_ + k)) * 18446744073709551616 ^ k + m * val y k
          rw [h1, if_pos rfl, Nat.pow_succ]
          exact SP.last HI.out.sum e2
        · have := blk_set (o := at_ + k) HI.out.cells (.int .u64 s)
          rw [set9 gk s (by omega)] at this
          exact this
      have hlt' : ¬ (k : Int) < k := by omega
      have hlt2 : (k : Int) < (k : Int) + 1 := by omega
      clear e2 hs hc' hk hlt
      go_wp2_with fail
      go_ret
      exact ⟨fun i => if i = at_ + k then s else gk i, c', rfl, HN.out⟩

end Go.Proofs.Ytpnijncoldihfaa
