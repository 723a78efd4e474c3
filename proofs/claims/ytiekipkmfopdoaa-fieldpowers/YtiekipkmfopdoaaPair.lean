/-
  The ends of functions that answer an array and a value.
-/
import Derived.Test.YtiekipkmfopdoaaEnds
namespace Go.Proofs.Ytiekipkmfopdoaa
open Go.RowKit Go.Shelf

theorem results_pair {P : Program} {fn : Func} {ts : Array Value} {w : World} {j c ty : Nat} {p : Addr} {v x : Value} (hf : fn.results = #[.cell j ty, .tmp c]) (hj : ts.getD j undef = .pointer (some p)) (hc : ts.getD c undef = x) (h : (loadVar ty p).run P w = .ok v w) :
    (results fn ts).run P w = .ok (.tuple #[v, x]) w := by
  unfold results
  rw [hf]
  rw [Array.getD_eq_getD_getElem?] at hj hc
  simp [hj, hc, asAddr, h]

theorem endPairQ {P : Program} {fn : Func} {R : Ending → World → Prop} {Q : Exit → Act → World → Prop} {a : Act} {w : World} {id L R0 i j k c ty ty1 ty2 ty3 : Nat} {C : Array Value} {v : Value} {d : TypeDesc} {pos1 pos2 pos3 aft1 aft2 aft3} (hQ : ∀ a w, bodyPost P fn R .ret a w → Q .ret a w) (hf : fn.results = #[.cell j ty, .tmp c]) (hi : a.eval (.tmp i) = .pointer (some ⟨L, 0, none⟩)) (hj : a.eval (.tmp j) = .pointer (some ⟨R0, 0, none⟩)) (hjk : k ≠ j) (hjc : c ≠ j) (hk : k < a.tmps.size) (hcs : c < a.tmps.size) (hd : a.defers = [])
    (hu : P.underlying ty = some d) (hr : d.isRow = true) (hs : (P.info? ty).map (·.size) = some C.size) (h1 : C.all (·.oneCell') = true)
    (hL : w.rangeAt L 0 C.toList) (hR : w.there R0 0 C.size) (h : ∀ wS, But R0 w wS → R (.returned (.tuple #[.agg C, v])) wS) :
    ((Code.region id #[{ dst := some k, op := .load ty (.tmp i), type := ty1, pos := pos1, after := aft1, guard := none }, { dst := none, op := .store ty (.tmp j) (.tmp k), type := ty2, pos := pos2, after := aft2, guard := none }, { dst := some c, op := .assign (.const v), type := ty3, pos := pos3, after := aft3, guard := none }] false).seq .ret).wp P Q a w := by
  refine wp_seq ?_
  refine wp_region_list ?_
  have hj' : (a.put (some k) (.agg C)).eval (.tmp j) = .pointer (some ⟨R0, 0, none⟩) := by rw [put_ne _ _ hjk, hj]
  have hs' : (P.info? ty).map (·.size) = some C.toList.length := by rw [Array.length_toList]; exact hs
  refine wpList_load_mid rfl ty (.tmp i) rfl L 0 hi C.toList _ hL hu hr hs' ?_
  refine wpList_store_mid rfl ty (.tmp j) (.tmp k) rfl R0 0 C hj' (put_same _ _ _ hk) hR hs h1 ?_
  refine wpList_plain rfl fun K hK => ?_
  have hb := World.rangeAt_setCells_same w R0 0 C.toList (by rw [Array.length_toList]; exact hR)
  have hj2 : (((a.put (some k) (.agg C)).put none undef).put (some c) v).eval (.tmp j) = .pointer (some ⟨R0, 0, none⟩) := by rw [put_ne _ _ hjc, put_none]; exact hj'
  have hc2 : (((a.put (some k) (.agg C)).put none undef).put (some c) v).eval (.tmp c) = v := put_same _ _ _ (by simp [Act.put]; exact hcs)
  refine hK (((a.put (some k) (.agg C)).put none undef).put (some c) v) _ (wpList_nil (wp_ret (hQ _ _ (bodyPost_ret_by (results_pair hf hj2 hc2 (run_loadVar_mid _ R0 0 ty C.toList _ hb hu hr hs')) hd (h _ (But.sets _ _ (But.refl _ _)))))))

end Go.Proofs.Ytiekipkmfopdoaa
