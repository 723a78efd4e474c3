/-
  The document's products of words.
-/
import Derived.Test.YtpnijncoldihfaaBytesC18
import Derived.Test.YtpnijncoldihfaaBytesC19
namespace Go.Proofs.Ytpnijncoldihfaa
open Go.RowKit Go.Shelf

theorem at_world_t {P : Program} {c : Code} {Q : Exit → Act → World → Prop} {a : Act} {w : World} (h : ∀ W0, W0 = w → c.wp P Q a W0) : c.wp P Q a w := h w rfl

theorem vl_put (g : Nat → Nat) (v : Nat) {j : Nat} : ∀ n, j < n → vl (fun i => if i = j then v else g i) n + g j * 4294967296 ^ j = vl g n + v * 4294967296 ^ j
  | 0, h => absurd h (by omega)
  | n + 1, h => by
    by_cases e : n = j
    · subst e
      have h1 : vl (fun i => if i = n then v else g i) n = vl g n := vl_congr n (fun i hi => by show (if i = n then v else g i) = g i; rw [if_neg (by omega)])
      show vl (fun i => if i = n then v else g i) n + (if n = n then v else g n) * 4294967296 ^ n + _ = vl g n + g n * 4294967296 ^ n + _
      rw [h1, if_pos rfl]
      omega
    · have h1 := vl_put g v (j := j) n (by omega)
      show vl (fun i => if i = j then v else g i) n + (if n = j then v else g n) * 4294967296 ^ n + _ = vl g n + g n * 4294967296 ^ n + _
      rw [if_neg e]
      omega

/-- Where a product has come to: the cells. -/
structure TW (w wr : World) (b1 b2 r o X Y : Nat) (g : Nat → Nat) : Prop where
  ca : wr.heap[b1]? = some (.cells (c17 (dg X)) 76 (0, 0))
  cb : wr.heap[b2]? = some (.cells (c17 (dg Y)) 76 (0, 0))
  cr : wr.heap[r]? = some (.cells (c17 (fun _ => 0)) 76 (0, 0))
  co : wr.heap[o]? = some (.cells (c17 g) 76 (0, 0))
  o1 : o ≠ b1
  o2 : o ≠ b2
  o3 : o ≠ r
  hr : w.heap.size ≤ r
  ho : w.heap.size ≤ o
  l : Below w.heap.size w wr

theorem TW.drew {w wr : World} {b1 b2 r o X Y : Nat} {g : Nat → Nat} (I : TW w wr b1 b2 r o X Y g) : TW w wr.drew b1 b2 r o X Y g :=
  ⟨I.ca, I.cb, I.cr, I.co, I.o1, I.o2, I.o3, I.hr, I.ho, I.l.drew⟩

theorem TW.put {w wr : World} {b1 b2 r o X Y : Nat} {g : Nat → Nat} (I : TW w wr b1 b2 r o X Y g) {j : Nat} (hj : j < 17) (s : Nat) :
    TW w (wr.setCell ⟨o, j, none⟩ (.int .u64 s)) b1 b2 r o X Y (fun i => if i = j then s else g i) := by
  have o1 : ∀ b, b ≠ o → (wr.setCell ⟨o, j, none⟩ (.int .u64 s)).heap[b]? = wr.heap[b]? := fun b h => Below.heap_setCell wr _ _ b h
  refine ⟨(o1 _ (Ne.symm I.o1)).trans I.ca, (o1 _ (Ne.symm I.o2)).trans I.cb, (o1 _ (Ne.symm I.o3)).trans I.cr, ?_, I.o1, I.o2, I.o3, I.hr, I.ho, I.l.setCell (p := ⟨o, j, none⟩) I.ho _⟩
  have := blk_set (o := j) I.co (.int .u64 s)
  rw [set17 g s hj] at this
  exact this

/-- Where a product has come to: the numbers, behind a whole digit. -/
structure TN (X Y i : Nat) (g : Nat → Nat) : Prop where
  lt : ∀ j, g j < 4294967296
  z : ∀ j, i + 8 ≤ j → g j = 0
  s : vl g 17 = vl (dg X) i * Y

/-- The same within a digit. -/
structure TK (X Y i k c : Nat) (g : Nat → Nat) : Prop where
  lt : ∀ j, g j < 4294967296
  z : ∀ j, i + 8 ≤ j → g j = 0
  hc : c < 4294967296
  s : vl g 17 + c * 4294967296 ^ (i + k) = vl (dg X) i * Y + dg X i * vl (dg Y) k * 4294967296 ^ i

theorem TK.step {X Y i k c : Nat} {g : Nat → Nat} (I : TK X Y i k c g) (hi : i < 8) (hk : k < 8) {s : Nat} (hs : s = g (i + k) + dg X i * dg Y k + c) (h64 : s < 18446744073709551616) :
    TK X Y i (k + 1) (s / 4294967296) (fun j => if j = i + k then s % 4294967296 else g j) := by
  refine ⟨fun j => ?_, fun j hj => ?_, by omega, ?_⟩
  · show (if j = i + k then s % 4294967296 else g j) < _
    split
    · omega
    · exact I.lt j
  · show (if j = i + k then s % 4294967296 else g j) = 0
    rw [if_neg (by omega)]
    exact I.z j hj
  · have h1 := vl_put g (s % 4294967296) (j := i + k) 17 (by omega)
    have h2 := I.s
    have h3 : s / 4294967296 * 4294967296 ^ (i + (k + 1)) + s % 4294967296 * 4294967296 ^ (i + k) = s * 4294967296 ^ (i + k) := by
      rw [show i + (k + 1) = i + k + 1 by omega, Nat.pow_succ, Nat.mul_comm (4294967296 ^ (i + k)) 4294967296, ← Nat.mul_assoc, ← Nat.add_mul]
      congr 1
      omega
    have h4 : s * 4294967296 ^ (i + k) = g (i + k) * 4294967296 ^ (i + k) + dg X i * dg Y k * 4294967296 ^ (i + k) + c * 4294967296 ^ (i + k) := by
      rw [hs, Nat.add_mul, Nat.add_mul]
    have h5 : dg X i * vl (dg Y) (k + 1) * 4294967296 ^ i = dg X i * vl (dg Y) k * 4294967296 ^ i + dg X i * dg Y k * 4294967296 ^ (i + k) := by
      show dg X i * (vl (dg Y) k + dg Y k * 4294967296 ^ k) * 4294967296 ^ i = _
      rw [Nat.mul_add, Nat.add_mul, Nat.pow_add, ← Nat.mul_assoc (dg X i), Nat.mul_assoc (dg X i * dg Y k), Nat.mul_comm (4294967296 ^ k)]
    rw [h5]
    omega

theorem TN.done {X Y : Nat} {g : Nat → Nat} (I : TN X Y 8 g) (hX : X < 4294967296 ^ 8) : ∀ j, j < 17 → g j = dg (X * Y) j := fun j hj => by
  have h := I.s
  rw [vl_dg X 8, Nat.mod_eq_of_lt hX] at h
  rw [← h, dg_vl 17 (fun j _ => I.lt j) hj]

end Go.Proofs.Ytpnijncoldihfaa
