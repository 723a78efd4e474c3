/-
  The digits of a number.
-/
import Derived.Test.YtpnijncoldihfaaBackC18
import Derived.Test.YtpnijncoldihfaaBackC27
namespace Go.Proofs.Ytpnijncoldihfaa
open Go.RowKit Go.Shelf

/-- The byte of a digit. -/
def hexd (d : Nat) : Nat := if d < 10 then 48 + d else 87 + d

theorem hexd_lt {d : Nat} (h : d < 16) : hexd d < 256 := by unfold hexd; split <;> omega

theorem digV_hexd {d : Nat} (h : d < 16) : digV (hexd d) = d := by
  unfold hexd digV
  by_cases h' : d < 10
  · rw [if_pos h', if_pos (by omega)]; omega
  · rw [if_neg h', if_neg (by omega), if_pos (by omega)]; omega

/-- So many digits a number has. -/
structure ND (b X n : Nat) : Prop where
  pos : 0 < n
  lt : X < b ^ n
  ge : 1 < n → b ^ (n - 1) ≤ X

/-- The bytes of n digits. -/
def digB (b X n j : Nat) : Nat := hexd (X / b ^ (n - 1 - j) % b)

/-- The text of n digits. -/
def strD (b X n : Nat) : ByteArray := ⟨((List.range n).map (fun j => UInt8.ofNat (digB b X n j))).toArray⟩

/-- Bytes in a row. -/
def cbs (n : Nat) (g : Nat → Nat) : Array Value := ((List.range n).map (fun j => Value.int .u8 (g j))).toArray

theorem cbs_get (n : Nat) (g : Nat → Nat) {j : Nat} (h : j < n) : (cbs n g)[j]? = some (.int .u8 (g j)) := by
  unfold cbs
  rw [List.getElem?_toArray]
  simp [h]

theorem cbs_set (n : Nat) (g : Nat → Nat) {j : Nat} (v : Nat) : (cbs n g).setIfInBounds j (.int .u8 v) = cbs n (fun i => if i = j then v else g i) := by
  apply Array.ext
  · simp [cbs]
  · intro i h1 h2
    simp only [cbs, List.setIfInBounds_toArray, List.getElem_toArray, List.getElem_set, List.getElem_map, List.getElem_range]
    by_cases h : j = i
    · rw [if_pos h, if_pos h.symm]
    · rw [if_neg h, if_neg (fun e => h e.symm)]

set_option maxRecDepth 100000 in
theorem index_hex {d : Nat} (hd : d < 16) (W : World) : (Instr.index 9 (.string ⟨#[48, 49, 50, 51, 52, 53, 54, 55, 56, 57, 97, 98, 99, 100, 101, 102]⟩) (.int .u64 (d : Int))).run Try.prog W = .ok (.int .u8 (hexd d)) W := by
  match d, hd with
  | 0, _ => rfl
  | 1, _ => rfl
  | 2, _ => rfl
  | 3, _ => rfl
  | 4, _ => rfl
  | 5, _ => rfl
  | 6, _ => rfl
  | 7, _ => rfl
  | 8, _ => rfl
  | 9, _ => rfl
  | 10, _ => rfl
  | 11, _ => rfl
  | 12, _ => rfl
  | 13, _ => rfl
  | 14, _ => rfl
  | 15, _ => rfl
  | k + 16, h => exact absurd h (by omega)

/-- The last bytes of an array of 78. -/
theorem slice78 (B a : Nat) (ha : a < 78) (W : World) : (Instr.sliceAt 111 (.pointer (some ⟨B, 0, none⟩)) (some (.int .i64 (a : Int))) none none).run Try.prog W = .ok (.slice (some ⟨B, a, none⟩) (78 - a) (78 - a)) W := by
  have hl : Try.prog.arrayLen 111 = 78 := by kernel_rfl
  have hs : (sizeOf (Try.prog.elem 111)).run Try.prog W = .ok 1 W := by kernel_rfl
  rw [run_sliceAt_array_l (P := Try.prog) W 111 ⟨B, 0, none⟩ (by kernel_rfl) .i64 (a : Int) (by omega) (by rw [hl]; omega), hs, hl]
  have h1 : ((a : Int)).toNat = a := by omega
  have h3 : ¬ (78 = a) := by omega
  simp [Result.andThen, slicedAt, h1, h3, Addr.add]
  exact fun h => h.symm

/-- The bytes of digits as a text. -/
theorem conv_digits {V : World} {b X n cap B o : Nat} (hb : b ≤ 16) (hb0 : 0 < b) (hc : ∀ j, j < n → V.cell? ⟨B, o + j, none⟩ = some (.int .u8 (digB b X n j))) :
    (convert 51 9 (.slice (some ⟨B, o, none⟩) n cap)).run Try.prog V = .ok (.string (strD b X n)) V := by
  have h := run_convert_bytes_back (P := Try.prog) V 51 9 5 ⟨B, o, none⟩ cap ((List.range n).map (fun j => UInt8.ofNat (digB b X n j))) Try.underlying51 Try.underlying5 Try.underlying9 (fun j hj => by
    have hj' : j < n := by simpa using hj
    have hl : digB b X n j < 256 := hexd_lt (Nat.lt_of_lt_of_le (Nat.mod_lt _ hb0) hb)
    rw [Addr.add_mid, hc j hj']
    simp [Nat.mod_eq_of_lt hl])
  simp only [List.length_map, List.length_range] at h
  exact h

/-- Where the digits have come to. -/
structure GI (w wr : World) (b X k : Nat) : Prop where
  x : wr.heap[w.heap.size]? = some (.cells (c4 (limb (X / b ^ k))) 24 (0, 0))
  o : ∃ g : Nat → Nat, wr.heap[w.heap.size + 1]? = some (.cells (cbs 78 g) 111 (0, 0)) ∧ ∀ j, j < k → g (77 - j) = hexd (X / b ^ j % b)
  b : Below w.heap.size w wr

theorem GI.move {w wr V : World} {b X k : Nat} (I : GI w wr b X k) (hb : Below wr.heap.size wr V) : GI w V b X k := by
  obtain ⟨g, hg, hj⟩ := I.o
  exact ⟨(hb.block _ (lt_of_block I.x)).trans I.x, ⟨g, (hb.block _ (lt_of_block hg)).trans hg, hj⟩, I.b.trans (hb.mono I.b.size)⟩

theorem GI.step {w V : World} {b X k d : Nat} {q0 q1 q2 q3 : Int} (I : GI w V b X k) (hk : k < 78) (hd : d = hexd (X / b ^ k % b)) (hq : wv (X / b ^ (k + 1)) = .agg #[.int .u64 q0, .int .u64 q1, .int .u64 q2, .int .u64 q3]) :
    GI w (((((V.setCell ⟨w.heap.size + 1, 77 - k, none⟩ (.int .u8 d)).setCell ⟨w.heap.size, 0, none⟩ (.int .u64 q0)).setCell ⟨w.heap.size, 1, none⟩ (.int .u64 q1)).setCell ⟨w.heap.size, 2, none⟩ (.int .u64 q2)).setCell ⟨w.heap.size, 3, none⟩ (.int .u64 q3)) b X (k + 1) := by
  obtain ⟨g, hg, hj⟩ := I.o
  have hc : c4 (limb (X / b ^ (k + 1))) = #[.int .u64 q0, .int .u64 q1, .int .u64 q2, .int .u64 q3] := by
    have h := wv_c4 (X / b ^ (k + 1))
    rw [hq] at h
    injection h with h
    exact h.symm
  have h1 : (V.setCell ⟨w.heap.size + 1, 77 - k, none⟩ (.int .u8 d)).heap[w.heap.size + 1]? = some (.cells (cbs 78 (fun i => if i = 77 - k then d else g i)) 111 (0, 0)) := by
    have h := blk_set (o := 77 - k) hg (.int .u8 d)
    rw [cbs_set] at h
    exact h
  have h2 : (V.setCell ⟨w.heap.size + 1, 77 - k, none⟩ (.int .u8 d)).heap[w.heap.size]? = some (.cells #[.int .u64 (limb (X / b ^ k) 0), .int .u64 (limb (X / b ^ k) 1), .int .u64 (limb (X / b ^ k) 2), .int .u64 (limb (X / b ^ k) 3)] 24 (0, 0)) :=
    (Below.heap_setCell V _ _ _ (by show w.heap.size ≠ w.heap.size + 1; omega)).trans I.x
  refine ⟨by rw [hc]; exact stored4 h2, ⟨_, (other4 (by omega)).trans h1, fun j hjk => ?_⟩, below_stored4 (I.b.setCell (p := ⟨w.heap.size + 1, 77 - k, none⟩) (by simp <;> omega) _) (by omega)⟩
  show (if 77 - j = 77 - k then d else g (77 - j)) = _
  by_cases e : j = k
  · rw [if_pos (by rw [e]), hd, e]
  · rw [if_neg (by omega)]; exact hj j (by omega)

end Go.Proofs.Ytpnijncoldihfaa
