/-
  Bytes in memory: slices that are read, parts of them.
-/
import Derived.Test.YtigebmidfddbcaaProg
import Derived.WalkKit
import Derived.WalkLawsBesides
import Derived.WalkSpells
import Derived.BigQuiet
import Derived.Deep.QuietTactic
import Derived.Laws.CopyOwn
import Derived.OwnWalk
import Derived.Deep.Upon
namespace Go.Proofs.Ytigebmidfddbcaa
open Go.RowKit

theorem hideP {p : Prop} (h : p) : Hid p := h

theorem blk_cell {w : World} {p t o : Nat} {cs : Array Value} {v : Value} (h : w.heap[p]? = some (.cells cs t (0, 0))) (hv : cs[o]? = some v) : w.cell? ⟨p, o, none⟩ = some v := by
  simp [World.cell?, h, hv]

theorem blk_free {w : World} {p t o : Nat} {cs : Array Value} (h : w.heap[p]? = some (.cells cs t (0, 0))) : w.frozen? ⟨p, o, none⟩ = false := by
  simp [World.frozen?, h]

theorem heap_new (w : World) (a : Obj) : (w.alloc a).heap[w.heap.size]? = some a := heap_alloc_new w a

theorem heap_old (w : World) (a : Obj) {k : Nat} (h : k < w.heap.size) : (w.alloc a).heap[k]? = w.heap[k]? := Below.heap_alloc w a k h

theorem lt_of_block {W : World} {b : Nat} {o : Obj} (h : W.heap[b]? = some o) : b < W.heap.size := (Array.getElem?_eq_some_iff.1 h).1

theorem Try.bytes5 : (Try.prog.info? 5).map (fun i => (i.zero, i.size, i.bytes)) = some (some (.int .u8 0), 1, 1) := by kernel_rfl

theorem Try.size5 : (Try.prog.info? 5).map (·.size) = some 1 := by kernel_rfl

/-- Bytes that can be read: a slice. -/
structure BS (w : World) (ao : Option Addr) (n cap : Nat) (bs : Nat → Nat) : Prop where
  lt : ∀ j, bs j < 256
  le : n ≤ cap
  room : cap ≤ maxLen
  cell : ∀ j, j < n → ∃ ad, ao = some ad ∧ w.cell? (ad.add j) = some (.int .u8 (bs j))
  nil : ao = none → cap = 0

theorem BS.moved {w w' : World} {ao : Option Addr} {n cap : Nat} {bs : Nat → Nat} (h : BS w ao n cap bs) (hb : Below w.heap.size w w') : BS w' ao n cap bs :=
  ⟨h.lt, h.le, h.room, fun j hj => by
    obtain ⟨ad, e, hc⟩ := h.cell j hj
    exact ⟨ad, e, (hb.cell (p := ad.add j) (World.block_lt_of_cell? w _ hc)).trans hc⟩, h.nil⟩

theorem add_add (a : Addr) (i j : Nat) : (a.add i).add j = a.add (i + j) := by
  unfold Addr.add
  by_cases hi : i = 0
  · subst hi; simp
  · by_cases hj : j = 0
    · subst hj; simp [hi]
    · simp [hi, hj, Nat.add_assoc]

theorem elemB : (sizeOf (Try.prog.elem 23)).run Try.prog = fun W => .ok 1 W := by
  funext W
  kernel_rfl

theorem sliceT : Try.prog.underlying 23 = some (.slice (Try.prog.elem 23)) := by kernel_rfl

theorem BS.shift {w : World} {ao : Option Addr} {n cap : Nat} {bs : Nat → Nat} (h : BS w ao n cap bs) {l k : Nat} (hl : l ≤ k) (hk : k ≤ n) :
    BS w (if cap = l then ao else ao.map (·.add l)) (k - l) (cap - l) (fun j => bs (l + j)) := by
  have hle := h.le
  have hroom := h.room
  refine ⟨fun j => h.lt _, by omega, by omega, fun j hj => ?_, fun e => ?_⟩
  · obtain ⟨ad, e, hc⟩ := h.cell (l + j) (by omega)
    subst e
    rw [if_neg (by omega)]
    exact ⟨ad.add l, rfl, by rw [add_add]; exact hc⟩
  · by_cases hc : cap = l
    · omega
    · rw [if_neg hc] at e
      cases ao with
      | none => have := h.nil rfl; omega
      | some a => cases e

/-- A part of a slice. -/
theorem BS.part {w : World} {ao : Option Addr} {n cap : Nat} {bs : Nat → Nat} (h : BS w ao n cap bs) {l k : Nat} (hl : l ≤ k) (hk : k ≤ n) :
    ∃ ao', BS w ao' (k - l) (cap - l) (fun j => bs (l + j)) ∧ ∀ W : World, (Instr.sliceAt 23 (.slice ao n cap) (some (.int .i64 (l : Int))) (some (.int .i64 (k : Int))) none).run Try.prog W = .ok (.slice ao' (k - l) (cap - l)) W := by
  refine ⟨_, h.shift hl hk, fun W => ?_⟩
  have hle := h.le
  rw [run_sliceAt_slice (P := Try.prog) (w := W) 23 _ _ _ _ sliceT, run_slice_lh (P := Try.prog) (w := W) 23 ao n cap sliceT .i64 .i64 (l : Int) (k : Int) (by omega) (by omega) (by omega), elemB]
  simp [Result.andThen, sliced]

/-- The rest of a slice. -/
theorem BS.rest {w : World} {ao : Option Addr} {n cap : Nat} {bs : Nat → Nat} (h : BS w ao n cap bs) {l : Nat} (hl : l ≤ n) :
    ∃ ao', BS w ao' (n - l) (cap - l) (fun j => bs (l + j)) ∧ ∀ W : World, (Instr.sliceAt 23 (.slice ao n cap) (some (.int .i64 (l : Int))) none none).run Try.prog W = .ok (.slice ao' (n - l) (cap - l)) W := by
  refine ⟨_, h.shift hl (Nat.le_refl _), fun W => ?_⟩
  have hle := h.le
  rw [run_sliceAt_slice (P := Try.prog) (w := W) 23 _ _ _ _ sliceT, run_slice_l (P := Try.prog) (w := W) 23 ao n cap sliceT .i64 (l : Int) (by omega) (by omega), elemB]
  simp [Result.andThen, sliced]

set_option maxHeartbeats 1000000 in
set_option maxRecDepth 100000 in
theorem standsAlone_any {ao : Option Addr} {n cap : Nat} {bs : Nat → Nat} (w : World) (h : BS w ao n cap bs) : Calls Try.prog 54 #[.slice ao n cap] w fun e w' => e = .returned (.bool (decide (n = 1 ∧ bs 0 < 128))) ∧ w = w' := by
  by_cases h1 : n = 1
  · subst h1
    obtain ⟨ad, rfl, hc⟩ := h.cell 0 (by omega)
    have hc' : w.cell? ad = some (.int .u8 (bs 0)) := by simpa [Addr.add] using hc
    have hd : decide (1 = 1 ∧ bs 0 < 128) = decide ((bs 0 : Int) < 128) := by
      rw [Bool.eq_iff_iff]
      simp only [decide_eq_true_eq, true_and]
      omega
    rw [hd]
    generalize bs 0 = c at *
    clear hc hd h
    go_enter Try.func54, Try.ntmps54
    go_wp2_with fail
    go_ret
    exact ⟨rfl, rfl⟩
  · have g : ¬ (n : Int) = 1 := by omega
    have g' : ((n : Int) == 1) = false := beq_eq_false_iff_ne.2 g
    rw [decide_eq_false (fun h => h1 h.1)]
    clear h h1
    go_enter Try.func54, Try.ntmps54
    go_wp2_with fail
    go_ret
    exact ⟨rfl, rfl⟩

end Go.Proofs.Ytigebmidfddbcaa
