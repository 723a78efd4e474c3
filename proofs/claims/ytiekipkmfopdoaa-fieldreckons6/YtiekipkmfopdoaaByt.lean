/-
  Bytes: slices of them, their numbers, their texts.
-/
import Derived.Test.YtiekipkmfopdoaaEnds
import Derived.OwnWalk
import Derived.Laws.CopyOwn
import Derived.Deep.Upon
import Derived.Laws.IdiomStrings
import Derived.Laws.BytesArg
namespace Go.Proofs.Ytiekipkmfopdoaa
open Go.RowKit Go.Shelf

theorem Try.bytes5 : (Try.prog.info? 5).map (fun i => (i.zero, i.size, i.bytes)) = some (some (.int .u8 0), 1, 1) := by kernel_rfl
theorem Try.undB : Try.prog.underlying 62 = some (.slice 5) := by kernel_rfl
theorem Try.und5 : Try.prog.underlying 5 = some (.int .u8) := by kernel_rfl

theorem add_nil (g j : Nat) : (⟨g, 0, none⟩ : Addr).add j = ⟨g, j, none⟩ := by unfold Addr.add; split <;> simp_all

/-- Bytes that can be read: a slice. -/
structure BS (w : World) (ao : Option Addr) (n cap : Nat) (bs : Nat → Nat) : Prop where
  lt : ∀ j, bs j < 256
  le : n ≤ cap
  room : cap ≤ maxLen
  cell : ∀ j, j < n → ∃ ad, ao = some ad ∧ w.cell? (ad.add j) = some (.int .u8 (bs j))
  nil : ao = none → cap = 0

theorem BS.moved {w w' : World} {ao : Option Addr} {n cap : Nat} {bs : Nat → Nat} (h : BS w ao n cap bs) (hb : Below w.heap.size w w') : BS w' ao n cap bs :=
  ⟨h.lt, h.le, h.room, fun j hj => by
    obtain ⟨ad, e, hc⟩ := h.cell j hj
    exact ⟨ad, e, (hb.cell (p := ad.add j) (World.block_lt_of_cell? w _ hc)).trans hc⟩, h.nil⟩

theorem BS.empty (w : World) (ao : Option Addr) (bs : Nat → Nat) (hl : ∀ j, bs j < 256) : BS w ao 0 0 bs := ⟨hl, Nat.le_refl _, Nat.zero_le _, fun j hj => absurd hj (by omega), fun _ => rfl⟩

/-- Bytes behind nothing: a row of their own. -/
theorem append_bytes {w : World} {ao : Option Addr} {n c : Nat} {bs : Nat → Nat} (ty : Nat) (hn : n ≤ 140737488355328) (h : BS w ao n c bs) :
    ∃ ao' cap w', (Builtin.append_ #[62, 62] ty #[.slice none 0 0, .slice ao n c]).run Try.prog w = .ok (.slice ao' n cap) w' ∧ BS w' ao' n cap bs ∧ Below w.heap.size w w' := by
  obtain ⟨i0, hi, hz0, hz1, hz2⟩ := info_parts Try.bytes5
  have hlen : ((List.range n).map (fun j => Value.int .u8 (bs j))).length = n := by simp
  have hone : ∀ u ∈ (List.range n).map (fun j => Value.int .u8 (bs j)), u.oneCell' = true := by
    intro v hv
    simp only [List.mem_map] at hv
    obtain ⟨x, _, rfl⟩ := hv
    rfl
  have hT := Try.undB
  by_cases hz : n = 0
  · subst hz
    refine ⟨none, 0, w, ?_, BS.empty _ _ _ h.lt, Below.refl _ _⟩
    cases ao with
    | none => exact run_append_nothing (P := Try.prog) w 62 62 ty 5 i0 hT hi _ 0 0 (Nat.le_refl _) _ (Src.ofNil w hT c)
    | some a => exact run_append_nothing (P := Try.prog) w 62 62 ty 5 i0 hT hi _ 0 0 (Nat.le_refl _) _ (Src.ofSlice w hT a 0 c [] (by simp) (fun j u h => by simp at h) (fun u h => by cases h))
  · obtain ⟨ad, rfl, _⟩ := h.cell 0 (by omega)
    have hs : Src Try.prog i0.size 62 (.slice (some ad) n c) n ((List.range n).map (fun j => Value.int .u8 (bs j))) w := by
      refine Src.ofSlice w hT ad n c _ (by rw [hlen, hz1, Nat.mul_one]) (fun j v hv => ?_) hone
      simp only [List.getElem?_map, Option.map_eq_some_iff] at hv
      obtain ⟨x, hx, rfl⟩ := hv
      obtain ⟨hj, rfl⟩ := List.getElem?_eq_some_iff.1 hx
      simp only [List.length_range] at hj
      obtain ⟨ad', e, h⟩ := h.cell j hj
      cases e
      rw [List.getElem_range]
      exact h
    have hcap : Builtin.nextslicecap (0 + n) 0 * i0.bytes ≤ 281474976710656 := by
      rw [hz2, Nat.zero_add]
      unfold Builtin.nextslicecap
      simp
      split <;> omega
    have hr := run_append_grow_src (P := Try.prog) w 62 62 ty 5 i0 (.int .u8 0) hT hi hz0 none 0 0 [] (run_firstCells_none w.drew i0.size 0 0 0) (.slice (some ad) n c) n _ hs (by omega) (by omega) hcap
    rw [Nat.zero_add, List.nil_append] at hr
    refine ⟨_, _, _, hr, ⟨h.lt, ?_, ?_, fun j hj => ⟨_, rfl, ?_⟩, fun h => by cases h⟩, ((Below.refl _ w).drew).alloc (Nat.le_refl _) _⟩
    · exact grownCap_ge w n 0 5
    · exact grownCap_le_maxLen w n 0 5 (by unfold maxLen; omega)
    · rw [add_nil]
      refine blk_cell (heap_new w.drew _) ?_
      rw [Array.getElem?_append_left (by simp [hlen, hj]), List.getElem?_toArray]
      simp [hj]

/-- The text of so many bytes. -/
def strB (bs : Nat → Nat) (n : Nat) : ByteArray := ⟨((List.range n).map (fun j => UInt8.ofNat (bs j))).toArray⟩

theorem conv_BS {V : World} {ao : Option Addr} {n c : Nat} {bs : Nat → Nat} (h : BS V ao n c bs) : (convert 62 9 (.slice ao n c)).run Try.prog V = .ok (.string (strB bs n)) V := by
  have h1 := Try.undB
  have h2 := Try.und5
  have h3 : Try.prog.underlying 9 = some .string := by kernel_rfl
  cases ao with
  | none =>
    have h0 := h.nil rfl
    have h4 := h.le
    obtain rfl : n = 0 := by omega
    have := run_convert_bytes_nil (P := Try.prog) V 62 5 h1 h2 0 c 9 h3
    rw [this]
    rfl
  | some a =>
    have h := run_convert_bytes_back (P := Try.prog) V 62 9 5 a c ((List.range n).map (fun j => UInt8.ofNat (bs j))) h1 h2 h3 (fun j hj => by
      have hj' : j < n := by simpa using hj
      obtain ⟨ad, e, hc⟩ := h.cell j hj'
      cases e
      rw [hc]
      simp [Nat.mod_eq_of_lt (h.lt j)])
    simp only [List.length_map, List.length_range] at h
    exact h

/-- The number of the last k bytes of n. -/
def bv (bs : Nat → Nat) (n : Nat) : Nat → Nat
  | 0 => 0
  | k + 1 => bv bs n k + bs (n - 1 - k) * 256 ^ k

theorem bv_lt {bs : Nat → Nat} (hs : ∀ j, bs j < 256) (n : Nat) : ∀ k, bv bs n k < 256 ^ k
  | 0 => by simp [bv]
  | k + 1 => by
    have ih := bv_lt hs n k
    have hd := hs (n - 1 - k)
    rw [bv, Nat.pow_succ]
    have := Nat.mul_le_mul_right (256 ^ k) (show bs (n - 1 - k) ≤ 255 by omega)
    omega

theorem limb_add_byte (V d k j : Nat) (hV : V < 256 ^ k) (hd : d < 256) : limb (V + d * 256 ^ k) j = if j = k / 8 then limb V j + d * 2 ^ (8 * (k % 8)) else limb V j := by
  have e : (256 : Nat) ^ k = 2 ^ (8 * (k % 8)) * 18446744073709551616 ^ (k / 8) := by
    rw [show (18446744073709551616 : Nat) = 2 ^ 64 by decide, ← Nat.pow_mul, ← Nat.pow_add, show (256 : Nat) = 2 ^ 8 by decide, ← Nat.pow_mul]
    congr 1
    omega
  have hlow : V / 18446744073709551616 ^ (k / 8) < 2 ^ (8 * (k % 8)) := by
    rw [Nat.div_lt_iff_lt_mul (Nat.pow_pos (by decide)), ← e]
    exact hV
  have hp : 2 ^ (8 * (k % 8)) ≤ 2 ^ 56 := Nat.pow_le_pow_right (by decide) (by omega)
  unfold limb
  by_cases h : j = k / 8
  · subst h
    rw [if_pos rfl, e, ← Nat.mul_assoc, Nat.add_mul_div_right _ _ (Nat.pow_pos (by decide))]
    have h60 : (2 : Nat) ^ 56 = 72057594037927936 := by decide
    have hm : d * 2 ^ (8 * (k % 8)) ≤ 255 * 2 ^ (8 * (k % 8)) := Nat.mul_le_mul_right _ (by omega)
    generalize d * 2 ^ (8 * (k % 8)) = D at *
    generalize 2 ^ (8 * (k % 8)) = P at *
    generalize V / 18446744073709551616 ^ (k / 8) = Q at *
    omega
  · rw [if_neg h]
    rcases Nat.lt_or_gt_of_ne h with h1 | h1
    · have hk : k / 8 = (k / 8 - j - 1) + 1 + j := by omega
      have e2 : d * 256 ^ k = d * 2 ^ (8 * (k % 8)) * 18446744073709551616 ^ (k / 8 - j - 1) * 18446744073709551616 * 18446744073709551616 ^ j := by
        rw [e]
        conv => lhs; rw [hk, Nat.pow_add, Nat.pow_succ]
        simp only [Nat.mul_assoc]
      rw [e2, Nat.add_mul_div_right _ _ (Nat.pow_pos (by decide)), Nat.add_mul_mod_self_right]
    · have hz : ∀ N, N < 256 ^ (k + 1) → N / 18446744073709551616 ^ j = 0 := fun N hN => by
        apply Nat.div_eq_of_lt
        refine Nat.lt_of_lt_of_le hN ?_
        rw [show (18446744073709551616 : Nat) = 256 ^ 8 by decide, ← Nat.pow_mul]
        exact Nat.pow_le_pow_right (by decide) (by omega)
      have hN : V + d * 256 ^ k < 256 ^ (k + 1) := by
        rw [Nat.pow_succ]
        have := Nat.mul_le_mul_right (256 ^ k) (show d ≤ 255 by omega)
        omega
      rw [hz _ hN, hz V (Nat.lt_trans hV (Nat.pow_lt_pow_right (by decide) (by omega)))]

theorem or_byte (a d n : Nat) (ha : a < 2 ^ n) (hd : d < 256) (hn : n ≤ 56) : bits .or .u64 (a : Int) ((d * 2 ^ n : Nat) : Int) = ((a + d * 2 ^ n : Nat) : Int) := by
  have hp : 2 ^ n ≤ 2 ^ 56 := Nat.pow_le_pow_right (by decide) hn
  have h60 : (2 : Nat) ^ 56 = 72057594037927936 := by decide
  have hm := Nat.mul_le_mul_right (2 ^ n) (show d ≤ 255 by omega)
  have h := bits_or_u64_nat a (d * 2 ^ n) (by omega) (by omega)
  have e : a ||| d * 2 ^ n = a + d * 2 ^ n := by
    rw [Nat.mul_comm, Nat.or_comm, ← Nat.two_pow_add_eq_or_of_lt ha d, Nat.add_comm]
  rw [h, e]

theorem limb_low_byte {V k : Nat} (hV : V < 256 ^ k) : limb V (k / 8) < 2 ^ (8 * (k % 8)) := by
  unfold limb
  refine Nat.lt_of_le_of_lt (Nat.mod_le _ _) ?_
  rw [Nat.div_lt_iff_lt_mul (Nat.pow_pos (by decide)), show (18446744073709551616 : Nat) = 2 ^ 64 by decide, ← Nat.pow_mul, ← Nat.pow_add]
  refine Nat.lt_of_lt_of_le hV ?_
  rw [show (256 : Nat) = 2 ^ 8 by decide, ← Nat.pow_mul]
  exact Nat.pow_le_pow_right (by decide) (by omega)

/-- The byte number i of a number, the lowest first. -/
def byt (X i : Nat) : Nat := limb X (i / 8) / 2 ^ (8 * (i % 8)) % 256

theorem byt_lt (X i : Nat) : byt X i < 256 := Nat.mod_lt _ (by decide)

/-- So many bytes in a row. -/
def cb (n : Nat) (f : Nat → Nat) : Array Value := ((List.range n).map (fun j => Value.int .u8 (f j))).toArray

theorem cb_size (n : Nat) (f : Nat → Nat) : (cb n f).size = n := by simp [cb]

theorem cb_get {n : Nat} (f : Nat → Nat) {j : Nat} (h : j < n) : (cb n f)[j]? = some (.int .u8 (f j)) := by
  unfold cb
  rw [List.getElem?_toArray]
  simp [h]

theorem cb_congr {n : Nat} {f g : Nat → Nat} (h : ∀ j, j < n → f j = g j) : cb n f = cb n g := by
  unfold cb
  congr 1
  exact List.map_congr_left fun j hj => by rw [h j (List.mem_range.1 hj)]

theorem cb_set {n : Nat} (f : Nat → Nat) {j : Nat} (v : Nat) : (cb n f).setIfInBounds j (.int .u8 v) = cb n (fun i => if i = j then v else f i) := by
  apply Array.ext_getElem?
  intro i
  rw [Array.getElem?_setIfInBounds]
  by_cases hi : i < n
  · by_cases h : j = i
    · subst h; rw [cb_get (fun i => if i = j then v else f i) hi]; simp [cb_size, hi]
    · rw [if_neg h, cb_get _ hi, cb_get _ hi, if_neg (fun e => h e.symm)]
  · have e : ∀ f, (cb n f)[i]? = none := fun f => by rw [Array.getElem?_eq_none]; rw [cb_size]; omega
    by_cases h : j = i
    · subst h; simp [cb_size, hi]
    · rw [if_neg h, e, e]

theorem make_bytes (W : World) (n : Nat) (hn : n ≤ 48) : (Instr.makeSlice 62 (.int .i64 (n : Int)) (.int .i64 (n : Int))).run Try.prog W = .ok (.slice (some ⟨W.heap.size, 0, none⟩) n n) (W.alloc (.cells (cb n (fun _ => 0)) 5)) := by
  obtain ⟨i0, hi, hz, hs, hb⟩ := info_parts Try.bytes5
  have := run_makeSlice (P := Try.prog) (w := W) 62 5 i0 (.int .u8 0) Try.undB hi hz .i64 .i64 n n (by omega) (by omega) (by rw [hs]; omega) (by rw [hb]; omega) (by omega)
  have e : madeCells (Value.int IntKind.u8 0).cells (Int.toNat n * 1) = cb n (fun _ => 0) := by
    apply Array.ext_getElem?
    intro i
    rw [Nat.mul_one, Int.toNat_natCast]
    by_cases h : i < n
    · rw [cb_get _ h]
      simp [madeCells, h, Value.cells, Nat.mod_one]
    · rw [Array.getElem?_eq_none (by rw [size_madeCells]; omega), Array.getElem?_eq_none (by rw [cb_size]; omega)]
  rw [this, hs, e]
  simp

theorem row_BS {w : World} {g n : Nat} {f : Nat → Nat} (hf : ∀ j, f j < 256) (hn : n ≤ 48) (h : w.heap[g]? = some (.cells (cb n f) 5 (0, 0))) : BS w (some ⟨g, 0, none⟩) n n f :=
  ⟨hf, Nat.le_refl _, by unfold maxLen; omega, fun j hj => ⟨_, rfl, by rw [add_nil]; exact blk_cell h (cb_get f hj)⟩, fun h => by cases h⟩

end Go.Proofs.Ytiekipkmfopdoaa
