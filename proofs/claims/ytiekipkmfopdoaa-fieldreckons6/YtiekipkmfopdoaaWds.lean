/-
  Lists of words of any length, as the document keeps numbers.
-/
import Derived.Test.YtiekipkmfopdoaaByt
import Derived.Test.YtiekipkmfopdoaaNum
namespace Go.Proofs.Ytiekipkmfopdoaa
open Go.RowKit Go.Shelf

theorem Try.infoW : (Try.prog.info? 23).map (fun i => (i.zero, i.size, i.bytes)) = some (some (.int .u64 0), 1, 8) := by kernel_rfl
theorem Try.undL : Try.prog.underlying 27 = some (.slice 23) := by kernel_rfl

/-- So many words in a row. -/
def cw (n : Nat) (f : Nat → Nat) : Array Value := ((List.range n).map (fun j => Value.int .u64 (f j))).toArray

theorem cw_size (n : Nat) (f : Nat → Nat) : (cw n f).size = n := by simp [cw]

theorem cw_get {n : Nat} (f : Nat → Nat) {j : Nat} (h : j < n) : (cw n f)[j]? = some (.int .u64 (f j)) := by
  unfold cw
  rw [List.getElem?_toArray]
  simp [h]

theorem cw_congr {n : Nat} {f g : Nat → Nat} (h : ∀ j, j < n → f j = g j) : cw n f = cw n g := by
  unfold cw
  congr 1
  exact List.map_congr_left fun j hj => by rw [h j (List.mem_range.1 hj)]

theorem cw_set {n : Nat} (f : Nat → Nat) {j : Nat} (v : Nat) : (cw n f).setIfInBounds j (.int .u64 v) = cw n (fun i => if i = j then v else f i) := by
  apply Array.ext_getElem?
  intro i
  rw [Array.getElem?_setIfInBounds]
  by_cases hi : i < n
  · by_cases h : j = i
    · subst h; rw [cw_get (fun i => if i = j then v else f i) hi]; simp [cw_size, hi]
    · rw [if_neg h, cw_get _ hi, cw_get _ hi, if_neg (fun e => h e.symm)]
  · have e : ∀ f, (cw n f)[i]? = none := fun f => by rw [Array.getElem?_eq_none]; rw [cw_size]; omega
    by_cases h : j = i
    · subst h; simp [cw_size, hi]
    · rw [if_neg h, e, e]

theorem cw_one (n : Nat) (f : Nat → Nat) : (cw n f).all (·.oneCell') = true := by
  rw [Array.all_eq_true]
  intro i hi
  rw [cw_size] at hi
  have := cw_get f hi
  rw [Array.getElem?_eq_getElem (by rw [cw_size]; exact hi)] at this
  injection this with this
  rw [this]
  rfl

theorem make_words (W : World) (n : Nat) (hn : n ≤ 64) : (Instr.makeSlice 27 (.int .i64 (n : Int)) (.int .i64 (n : Int))).run Try.prog W = .ok (.slice (some ⟨W.heap.size, 0, none⟩) n n) (W.alloc (.cells (cw n (fun _ => 0)) 23)) := by
  obtain ⟨i0, hi, hz, hs, hb⟩ := info_parts Try.infoW
  have := run_makeSlice (P := Try.prog) (w := W) 27 23 i0 (.int .u64 0) Try.undL hi hz .i64 .i64 n n (by omega) (by omega) (by rw [hs]; omega) (by rw [hb]; omega) (by omega)
  have e : madeCells (Value.int IntKind.u64 0).cells (Int.toNat n * 1) = cw n (fun _ => 0) := by
    apply Array.ext_getElem?
    intro i
    rw [Nat.mul_one, Int.toNat_natCast]
    by_cases h : i < n
    · rw [cw_get _ h]
      simp [madeCells, h, Value.cells, Nat.mod_one]
    · rw [Array.getElem?_eq_none (by rw [size_madeCells]; omega), Array.getElem?_eq_none (by rw [cw_size]; omega)]
  rw [this, hs, e]
  simp

/-- A list of so many words. -/
structure LW (w : World) (v : Value) (n : Nat) (f : Nat → Nat) : Prop where
  ex : ∃ g o c, v = .slice (some ⟨g, o, none⟩) n c ∧ n ≤ c ∧ c ≤ maxLen ∧ g < w.heap.size ∧ ∀ j, j < n → w.cell? ⟨g, o + j, none⟩ = some (.int .u64 (f j))

theorem LW.moved {w w' : World} {v : Value} {n : Nat} {f : Nat → Nat} (h : LW w v n f) (hb : Below w.heap.size w w') : LW w' v n f := by
  obtain ⟨g, o, c, e, h1, h2, hg, hc⟩ := h.ex
  exact ⟨g, o, c, e, h1, h2, Nat.lt_of_lt_of_le hg hb.size, fun j hj => (hb.cell (p := ⟨g, o + j, none⟩) hg).trans (hc j hj)⟩

theorem LW.congr {w : World} {v : Value} {n : Nat} {f g : Nat → Nat} (h : LW w v n f) (e : ∀ j, j < n → f j = g j) : LW w v n g := by
  obtain ⟨b, o, c, e0, h1, h2, hg, hc⟩ := h.ex
  exact ⟨b, o, c, e0, h1, h2, hg, fun j hj => by rw [← e j hj]; exact hc j hj⟩

theorem row_LW {w : World} {g n : Nat} {f : Nat → Nat} (hn : n ≤ 64) (h : w.heap[g]? = some (.cells (cw n f) 23 (0, 0))) : LW w (.slice (some ⟨g, 0, none⟩) n n) n f :=
  ⟨g, 0, n, rfl, Nat.le_refl _, by unfold maxLen; omega, lt_of_block h, fun j hj => by rw [Nat.zero_add]; exact blk_cell h (cw_get f hj)⟩

/-- The list of a number that is told by its limbs. -/
theorem LW.num {w : World} {v : Value} {n : Nat} {f : Nat → Nat} (h : LW w v n f) (hf : ∀ j, f j < 18446744073709551616) : LW w v n (limb (val f n)) :=
  h.congr fun _ hj => (limb_val n (fun j _ => hf j) hj).symm

theorem val_limbs {n X : Nat} (h : X < 18446744073709551616 ^ n) : val (limb X) n = X := by
  rw [val_limb, Nat.mod_eq_of_lt h]

/-- Where a sum has come to. -/
structure AI (W wr : World) (D n : Nat) (x y gk : Nat → Nat) (k c : Nat) : Prop where
  lt : ∀ j, gk j < 18446744073709551616
  sum : val x k + val y k = val gk k + 18446744073709551616 ^ k * c
  c : c ≤ 1
  cells : wr.heap[D]? = some (.cells (cw n gk) 23 (0, 0))
  but : But D W wr

theorem AI.put {W wr wr' : World} {D n : Nat} {x y gk : Nat → Nat} {k c s c' : Nat} (I : AI W wr D n x y gk k c) (hw : wr'.heap = wr.heap) (hB : But D wr wr') (hs : s < 18446744073709551616) (hc : c' ≤ 1)
    (e : x k + y k + c = s + 18446744073709551616 * c') :
    AI W (wr'.setCell ⟨D, k, none⟩ (.int .u64 s)) D n x y (fun i => if i = k then s else gk i) (k + 1) c' := by
  refine ⟨fun j => ?_, ?_, hc, ?_, (I.but.trans hB).set _ _⟩
  · split
    · exact hs
    · exact I.lt j
  · have h1 : val (fun j => if j = k then s else gk j) k = val gk k := val_congr k (fun j hj => by rw [if_neg (by omega)])
    show val x k + x k * 18446744073709551616 ^ k + (val y k + y k * 18446744073709551616 ^ k) = val (fun j => if j = k then s else gk j) k + (if k = k then s else gk k) * 18446744073709551616 ^ k + 18446744073709551616 ^ (k + 1) * c'
    rw [h1, if_pos rfl, Nat.pow_succ]
    have h2 := I.sum
    grind
  · have h3 : wr'.heap[D]? = some (.cells (cw n gk) 23 (0, 0)) := by rw [hw]; exact I.cells
    have := blk_set (o := k) h3 (.int .u64 s)
    rw [cw_set gk s] at this
    exact this

/-- Where a difference has come to. -/
structure SI (W wr : World) (D n : Nat) (x y gk : Nat → Nat) (k c : Nat) : Prop where
  lt : ∀ j, gk j < 18446744073709551616
  sum : val x k + 18446744073709551616 ^ k * c = val gk k + val y k
  c : c ≤ 1
  cells : wr.heap[D]? = some (.cells (cw n gk) 23 (0, 0))
  but : But D W wr

theorem SI.put {W wr wr' : World} {D n : Nat} {x y gk : Nat → Nat} {k c s c' : Nat} (I : SI W wr D n x y gk k c) (hw : wr'.heap = wr.heap) (hB : But D wr wr') (hs : s < 18446744073709551616) (hc : c' ≤ 1)
    (e : x k + 18446744073709551616 * c' = s + y k + c) :
    SI W (wr'.setCell ⟨D, k, none⟩ (.int .u64 s)) D n x y (fun i => if i = k then s else gk i) (k + 1) c' := by
  refine ⟨fun j => ?_, ?_, hc, ?_, (I.but.trans hB).set _ _⟩
  · split
    · exact hs
    · exact I.lt j
  · have h1 : val (fun j => if j = k then s else gk j) k = val gk k := val_congr k (fun j hj => by rw [if_neg (by omega)])
    show val x k + x k * 18446744073709551616 ^ k + 18446744073709551616 ^ (k + 1) * c' = val (fun j => if j = k then s else gk j) k + (if k = k then s else gk k) * 18446744073709551616 ^ k + (val y k + y k * 18446744073709551616 ^ k)
    rw [h1, if_pos rfl, Nat.pow_succ]
    have h2 := I.sum
    grind
  · have h3 : wr'.heap[D]? = some (.cells (cw n gk) 23 (0, 0)) := by rw [hw]; exact I.cells
    have := blk_set (o := k) h3 (.int .u64 s)
    rw [cw_set gk s] at this
    exact this

theorem add_cases (x y c : Nat) (hx : x < 18446744073709551616) (hy : y < 18446744073709551616) (hc : c ≤ 1) : ∃ s t d : Nat, t < 18446744073709551616 ∧ d ≤ 1 ∧ x + y + c = t + 18446744073709551616 * d ∧ IntKind.u64.wrap ((x : Int) + (y : Int)) = (s : Int) ∧ IntKind.u64.wrap ((s : Int) + (c : Int)) = (t : Int) ∧
    (((s : Int) < (x : Int) ∧ ¬ (t : Int) < (s : Int) ∧ d = 1) ∨ (¬ (s : Int) < (x : Int) ∧ (t : Int) < (s : Int) ∧ d = 1) ∨ (¬ (s : Int) < (x : Int) ∧ ¬ (t : Int) < (s : Int) ∧ d = 0)) := by
  simp only [IntKind.wrap_u64]
  by_cases h1 : x + y < 18446744073709551616
  · by_cases h2 : x + y + c < 18446744073709551616
    · exact ⟨x + y, x + y + c, 0, by omega, by omega, by omega, by omega, by omega, by omega⟩
    · exact ⟨x + y, x + y + c - 18446744073709551616, 1, by omega, by omega, by omega, by omega, by omega, by omega⟩
  · exact ⟨x + y - 18446744073709551616, x + y + c - 18446744073709551616, 1, by omega, by omega, by omega, by omega, by omega, by omega⟩

theorem sub_cases (x y c : Nat) (hx : x < 18446744073709551616) (hy : y < 18446744073709551616) (hc : c ≤ 1) : ∃ s t d : Nat, t < 18446744073709551616 ∧ d ≤ 1 ∧ x + 18446744073709551616 * d = t + y + c ∧ IntKind.u64.wrap ((x : Int) - (y : Int)) = (s : Int) ∧ IntKind.u64.wrap ((s : Int) - (c : Int)) = (t : Int) ∧
    (((x : Int) < (y : Int) ∧ ¬ (s : Int) < (c : Int) ∧ d = 1) ∨ (¬ (x : Int) < (y : Int) ∧ (s : Int) < (c : Int) ∧ d = 1) ∨ (¬ (x : Int) < (y : Int) ∧ ¬ (s : Int) < (c : Int) ∧ d = 0)) := by
  simp only [IntKind.wrap_u64]
  by_cases h1 : x < y
  · exact ⟨x + 18446744073709551616 - y, x + 18446744073709551616 - y - c, 1, by omega, by omega, by omega, by omega, by omega, by omega⟩
  · by_cases h2 : x < y + c
    · exact ⟨x - y, x + 18446744073709551616 - y - c, 1, by omega, by omega, by omega, by omega, by omega, by omega⟩
    · exact ⟨x - y, x - y - c, 0, by omega, by omega, by omega, by omega, by omega, by omega⟩

end Go.Proofs.Ytiekipkmfopdoaa
