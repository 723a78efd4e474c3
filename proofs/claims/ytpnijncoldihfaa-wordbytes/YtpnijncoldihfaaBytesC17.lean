/-
  A product taken away from the limbs of a number, and a number added back.
-/
import Derived.Test.YtpnijncoldihfaaBytesC16
namespace Go.Proofs.Ytpnijncoldihfaa
open Go.RowKit Go.Shelf

/-- The cells of nine limbs. -/
def c9 (g : Nat → Nat) : Array Value := #[.int .u64 (g 0), .int .u64 (g 1), .int .u64 (g 2), .int .u64 (g 3), .int .u64 (g 4), .int .u64 (g 5), .int .u64 (g 6), .int .u64 (g 7), .int .u64 (g 8)]

theorem set9 (g : Nat → Nat) {j : Nat} (v : Nat) (h : j < 9) : (c9 g).setIfInBounds j (.int .u64 v) = c9 (fun i => if i = j then v else g i) := by
  match j, h with
  | 0, _ => rfl
  | 1, _ => rfl
  | 2, _ => rfl
  | 3, _ => rfl
  | 4, _ => rfl
  | 5, _ => rfl
  | 6, _ => rfl
  | 7, _ => rfl
  | 8, _ => rfl

/-- All but the block L is as it was. -/
structure But (L : Nat) (W V : World) : Prop where
  same : ∀ b, b ≠ L → V.heap[b]? = W.heap[b]?
  below : Below L W V

theorem But.refl (L : Nat) (W : World) : But L W W := ⟨fun _ _ => rfl, Below.refl _ _⟩

theorem But.set {L : Nat} {W V : World} (h : But L W V) (o : Nat) (v : Value) : But L W (V.setCell ⟨L, o, none⟩ v) :=
  ⟨fun b hb => (Below.heap_setCell V _ v b hb).trans (h.same b hb), h.below.setCell (p := ⟨L, o, none⟩) (Nat.le_refl _) v⟩

theorem But.drew {L : Nat} {W V : World} (h : But L W V) : But L W V.drew := ⟨h.same, h.below.drew⟩

theorem But.trans {L : Nat} {W V U : World} (h : But L W V) (g : But L V U) : But L W U := ⟨fun b hb => (g.same b hb).trans (h.same b hb), h.below.trans g.below⟩

theorem But.cell {L : Nat} {W V : World} (h : But L W V) {b o : Nat} (hb : b ≠ L) : V.cell? ⟨b, o, none⟩ = W.cell? ⟨b, o, none⟩ := by
  simp only [World.cell?, h.same b hb]

namespace SP
theorem step {B Bk P p S s Y y m a c l a' c' : Nat} (h : P + Bk * c + Bk * a = S + m * Y) (e1 : y * m + a = l + B * a') (e2 : p + B * c' = s + l + c) :
    P + p * Bk + Bk * B * c' + Bk * B * a' = S + s * Bk + m * (Y + y * Bk) := by
  have h1 : Bk * (y * m + a) = Bk * (l + B * a') := by rw [e1]
  have h2 : Bk * (p + B * c') = Bk * (s + l + c) := by rw [e2]
  simp only [Nat.mul_add] at h1 h2
  rw [Nat.mul_add, Nat.mul_comm p, Nat.mul_comm s, Nat.mul_assoc Bk B c', Nat.mul_assoc Bk B a']
  have h3 : m * (y * Bk) = Bk * (y * m) := by rw [Nat.mul_comm m, Nat.mul_comm y Bk, Nat.mul_assoc]
  rw [h3]
  omega

theorem last {B Bk P p S s Y m a c c' : Nat} (h : P + Bk * c + Bk * a = S + m * Y) (e2 : p + B * c' = s + a + c) :
    P + p * Bk + Bk * B * c' = S + s * Bk + m * Y := by
  have h2 : Bk * (p + B * c') = Bk * (s + a + c) := by rw [e2]
  simp only [Nat.mul_add] at h2
  rw [Nat.mul_comm p, Nat.mul_comm s, Nat.mul_assoc Bk B c']
  omega

end SP

/-- Where the taking away has come to. -/
structure SPI (W wr : World) (L at_ m : Nat) (g y gk : Nat → Nat) (k a c : Nat) : Prop where
  lt : ∀ j, gk j < 18446744073709551616
  far : ∀ j, j < at_ ∨ at_ + k ≤ j → gk j = g j
  sum : val (fun j => g (at_ + j)) k + 18446744073709551616 ^ k * c + 18446744073709551616 ^ k * a = val (fun j => gk (at_ + j)) k + m * val y k
  a : a < 18446744073709551616
  c : c ≤ 1
  cells : wr.heap[L]? = some (.cells (c9 gk) 113 (0, 0))
  but : But L W wr

theorem SPI.put {W wr : World} {L at_ m : Nat} {g y gk : Nat → Nat} {k a c s l a' c' : Nat} (I : SPI W wr L at_ m g y gk k a c) (hk : at_ + k < 9) (hs : s < 18446744073709551616) (ha : a' < 18446744073709551616) (hc : c' ≤ 1)
    (e1 : y k * m + a = l + 18446744073709551616 * a') (e2 : g (at_ + k) + 18446744073709551616 * c' = s + l + c) :
    SPI W (wr.setCell ⟨L, at_ + k, none⟩ (.int .u64 s)) L at_ m g y (fun i => if i = at_ + k then s else gk i) (k + 1) a' c' := by
  refine ⟨fun j => ?_, fun j hj => ?_, ?_, ha, hc, ?_, I.but.set _ _⟩
  · split
    · exact hs
    · exact I.lt j
  · rw [if_neg (by omega)]
    exact I.far j (by omega)
  · have h1 : val (fun j => if at_ + j = at_ + k then s else gk (at_ + j)) k = val (fun j => gk (at_ + j)) k := val_congr k (fun j hj => by rw [if_neg (by omega)])
    show val (fun j => g (at_ + j)) k + g (at_ + k) * 18446744073709551616 ^ k + 18446744073709551616 ^ (k + 1) * c' + 18446744073709551616 ^ (k + 1) * a' = val (fun j => if at_ + j = at_ + k then s else gk (at_ + j)) k + (if at_ + k = at_ + k then s else gk (at_ + k)) * 18446744073709551616 ^ k + m * (val y k + y k * 18446744073709551616 ^ k)
    rw [h1, if_pos rfl, Nat.pow_succ]
    exact SP.step I.sum e1 e2
  · have := blk_set (o := at_ + k) I.cells (.int .u64 s)
    rw [set9 gk s hk] at this
    exact this

end Go.Proofs.Ytpnijncoldihfaa
