/-
  The document's differences of long numbers.
-/
import Derived.Test.YtpnijncoldihfaaBytesC21
import Derived.Test.YtpnijncoldihfaaBytesC06
import Derived.Test.YtpnijncoldihfaaBytesC15
import Derived.Test.YtpnijncoldihfaaBytesC18
namespace Go.Proofs.Ytpnijncoldihfaa
open Go.RowKit Go.Shelf

theorem endRow {P : Program} {fn : Func} {R : Ending → World → Prop} {a : Act} {w : World} {id L R0 i j k ty ty1 ty2 : Nat} {C : Array Value} {d : TypeDesc} {pos1 pos2 aft1 aft2} (hf : fn.results = #[.cell j ty]) (hi : a.eval (.tmp i) = .pointer (some ⟨L, 0, none⟩)) (hj : a.eval (.tmp j) = .pointer (some ⟨R0, 0, none⟩)) (hjk : k ≠ j) (hk : k < a.tmps.size) (hd : a.defers = [])
    (hu : P.underlying ty = some d) (hr : d.isRow = true) (hs : (P.info? ty).map (·.size) = some C.size) (h1 : C.all (·.oneCell') = true)
    (hL : w.rangeAt L 0 C.toList) (hR : w.there R0 0 C.size) (h : ∀ wS, But R0 w wS → R (.returned (.agg C)) wS) :
    ((Code.region id #[{ dst := some k, op := .load ty (.tmp i), type := ty1, pos := pos1, after := aft1, guard := none }, { dst := none, op := .store ty (.tmp j) (.tmp k), type := ty2, pos := pos2, after := aft2, guard := none }] false).seq .ret).wp P (bodyPost P fn R) a w := by
  refine wp_seq ?_
  refine wp_region_list ?_
  have hj' : (a.put (some k) (.agg C)).eval (.tmp j) = .pointer (some ⟨R0, 0, none⟩) := by rw [put_ne _ _ hjk, hj]
  have hs' : (P.info? ty).map (·.size) = some C.toList.length := by rw [Array.length_toList]; exact hs
  refine wpList_load_mid rfl ty (.tmp i) rfl L 0 hi C.toList _ hL hu hr hs' ?_
  refine wpList_store_mid rfl ty (.tmp j) (.tmp k) rfl R0 0 C hj' (put_same _ _ _ hk) hR hs h1 ?_
  refine wpList_nil ?_
  refine wp_ret ?_
  have hb := World.rangeAt_setCells_same w R0 0 C.toList (by rw [Array.length_toList]; exact hR)
  exact bodyPost_ret_by (results_cell hf hj' (run_loadVar_mid _ R0 0 ty C.toList _ hb hu hr hs')) hd (h _ (But.sets _ _ (But.refl _ _)))

theorem rangeOf {w : World} {b t : Nat} {C : Array Value} (h : w.heap[b]? = some (.cells C t (0, 0))) : w.rangeAt b 0 C.toList := fun j v hv =>
  blk_cell (o := 0 + j) (v := v) h (by rw [Nat.zero_add]; rw [Array.getElem?_toList] at hv; exact hv)

theorem thereOf {w : World} {b t : Nat} {C : Array Value} (h : w.heap[b]? = some (.cells C t (0, 0))) : w.there b 0 C.size := fun j hj =>
  ⟨(rangeOf h).isSome j (by rw [Array.length_toList]; exact hj), blk_free h⟩

end Go.Proofs.Ytpnijncoldihfaa

namespace Go.Proofs.Ytpnijncoldihfaa
open Go.RowKit Go.Shelf

/-- Four cells. -/
def c4 (g : Nat → Nat) : Array Value := #[.int .u64 (g 0), .int .u64 (g 1), .int .u64 (g 2), .int .u64 (g 3)]

theorem wv_c4 (X : Nat) : wv X = .agg (c4 (limb X)) := wv_limb X

theorem cget4 (g : Nat → Nat) {j : Nat} (h : j < 4) : (c4 g)[j]? = some (.int .u64 (g j)) := by
  match j, h with
  | 0, _ => rfl
  | 1, _ => rfl
  | 2, _ => rfl
  | 3, _ => rfl
  | k + 4, h => exact absurd h (by omega)

theorem cset4 (g : Nat → Nat) {j : Nat} (v : Nat) (h : j < 4) : (c4 g).setIfInBounds j (.int .u64 v) = c4 (fun i => if i = j then v else g i) := by
  match j, h with
  | 0, _ => rfl
  | 1, _ => rfl
  | 2, _ => rfl
  | 3, _ => rfl
  | k + 4, h => exact absurd h (by omega)

theorem under23 : Try.prog.underlying 23 = some (.array 4 22) := by kernel_rfl

theorem size23 : (Try.prog.info? 23).map (·.size) = some 4 := by kernel_rfl

theorem oneCell4 (g : Nat → Nat) : (c4 g).all (·.oneCell') = true := by simp [c4, Value.oneCell']

theorem putAll4 (g' g : Nat → Nat) : putAll (c4 g') 0 (c4 g).toList = c4 g := by
  simp [c4, putAll]

theorem there4 {w : World} {b t : Nat} {g : Nat → Nat} (h : w.heap[b]? = some (.cells (c4 g) t (0, 0))) : w.there b 0 4 := thereOf h

end Go.Proofs.Ytpnijncoldihfaa

namespace Go.Proofs.Ytpnijncoldihfaa
open Go.RowKit Go.Shelf

/-- The borrow into a digit of a difference. -/
def br (A B k : Nat) : Nat := if A % 4294967296 ^ k < B % 4294967296 ^ k then 1 else 0

end Go.Proofs.Ytpnijncoldihfaa
