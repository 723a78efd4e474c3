/-
  A number added back to the limbs of another.
-/
import Derived.Test.YtpnijncoldihfaaSumsC18
namespace Go.Proofs.Ytpnijncoldihfaa
open Go.RowKit Go.Shelf

/-- Where the adding back has come to. -/
structure ABI (W wr : World) (L at_ : Nat) (g y gk : Nat → Nat) (k c : Nat) : Prop where
  lt : ∀ j, gk j < 18446744073709551616
  far : ∀ j, j < at_ ∨ at_ + k ≤ j → gk j = g j
  sum : val (fun j => g (at_ + j)) k + val y k = val (fun j => gk (at_ + j)) k + 18446744073709551616 ^ k * c
  c : c ≤ 1
  cells : wr.heap[L]? = some (.cells (c9 gk) 113 (0, 0))
  but : But L W wr

theorem ABI.put {W wr : World} {L at_ : Nat} {g y gk : Nat → Nat} {k c s c' : Nat} (I : ABI W wr L at_ g y gk k c) (hk : at_ + k < 9) (hs : s < 18446744073709551616) (hc : c' ≤ 1)
    (e : g (at_ + k) + y k + c = s + 18446744073709551616 * c') :
    ABI W (wr.drew.setCell ⟨L, at_ + k, none⟩ (.int .u64 s)) L at_ g y (fun i => if i = at_ + k then s else gk i) (k + 1) c' := by
  refine ⟨fun j => ?_, fun j hj => ?_, ?_, hc, ?_, I.but.drew.set _ _⟩
  · split
    · exact hs
    · exact I.lt j
  · rw [if_neg (by omega)]
    exact I.far j (by omega)
  · have h1 : val (fun j => if at_ + j = at_ + k then s else gk (at_ + j)) k = val (fun j => gk (at_ + j)) k := val_congr k (fun j hj => by rw [if_neg (by omega)])
    show val (fun j => g (at_ + j)) k + g (at_ + k) * 18446744073709551616 ^ k + (val y k + y k * 18446744073709551616 ^ k) = val (fun j => if at_ + j = at_ + k then s else gk (at_ + j)) k + (if at_ + k = at_ + k then s else gk (at_ + k)) * 18446744073709551616 ^ k + 18446744073709551616 ^ (k + 1) * c'
    rw [h1, if_pos rfl, Nat.pow_succ]
    have h2 : 18446744073709551616 ^ k * (g (at_ + k) + y k + c) = 18446744073709551616 ^ k * (s + 18446744073709551616 * c') := by rw [e]
    simp only [Nat.mul_add] at h2
    have h3 := I.sum
    rw [Nat.mul_comm (g (at_ + k)), Nat.mul_comm (y k), Nat.mul_comm s, Nat.mul_assoc]
    omega
  · have := blk_set (w := wr.drew) (o := at_ + k) I.cells (.int .u64 s)
    rw [set9 gk s hk] at this
    exact this

end Go.Proofs.Ytpnijncoldihfaa
