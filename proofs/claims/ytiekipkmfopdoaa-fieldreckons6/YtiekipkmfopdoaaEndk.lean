/-
  The end of functions that answer an array and a number, both told by name.
-/
import Derived.Test.YtiekipkmfopdoaaEnds
namespace Go.Proofs.Ytiekipkmfopdoaa
open Go.RowKit Go.Shelf

theorem endKeepQ {P : Program} {fn : Func} {R : Ending → World → Prop} {Q : Exit → Act → World → Prop} {a : Act} {w : World} {id R0 j k k2 c ty ty1 ty2 ty3 ty4 : Nat} {C : Array Value} {v : Value} {d : TypeDesc} {pos1 pos2 pos3 pos4 aft1 aft2 aft3 aft4} (hQ : ∀ a w, bodyPost P fn R .ret a w → Q .ret a w) (hf : fn.results = #[.cell j ty, .tmp c]) (hj : a.eval (.tmp j) = .pointer (some ⟨R0, 0, none⟩)) (hc : a.eval (.tmp c) = v)
    (n1 : k ≠ j) (n2 : k2 ≠ j) (n3 : c ≠ j) (n4 : k ≠ c) (n5 : k2 ≠ k) (hk : k < a.tmps.size) (hk2 : k2 < a.tmps.size) (hcs : c < a.tmps.size) (hd : a.defers = [])
    (hu : P.underlying ty = some d) (hr : d.isRow = true) (hs : (P.info? ty).map (·.size) = some C.size) (h1 : C.all (·.oneCell') = true)
    (hL : w.rangeAt R0 0 C.toList) (hR : w.there R0 0 C.size) (h : ∀ wS, But R0 w wS → R (.returned (.tuple #[.agg C, v])) wS) :
    ((Code.region id #[{ dst := some k, op := .load ty (.tmp j), type := ty1, pos := pos1, after := aft1, guard := none }, { dst := some k2, op := .move (.tmp c), type := ty2, pos := pos2, after := aft2, guard := none }, { dst := none, op := .store ty (.tmp j) (.tmp k), type := ty3, pos := pos3, after := aft3, guard := none }, { dst := some c, op := .assign (.tmp k2), type := ty4, pos := pos4, after := aft4, guard := none }] false).seq .ret).wp P Q a w := by
  refine wp_seq ?_
  refine wp_region_list ?_
  have hs' : (P.info? ty).map (·.size) = some C.toList.length := by rw [Array.length_toList]; exact hs
  refine wpList_load_mid rfl ty (.tmp j) rfl R0 0 hj C.toList _ hL hu hr hs' ?_
  have e1 : (a.put (some k) (.agg C)).eval (.tmp c) = v := by rw [put_ne _ _ n4, hc]
  refine wpList_plain rfl fun K hK => ?_
  refine hK ((a.put (some k) (.agg C)).put (some k2) v) _ ?_ |> fun h => by
    unfold Oper.wp
    simp only [execOp, Array.toArray_toList, e1]
    exact h
  have e2 : ((a.put (some k) (.agg C)).put (some k2) v).eval (.tmp j) = .pointer (some ⟨R0, 0, none⟩) := by rw [put_ne _ _ n2, put_ne _ _ n1, hj]
  have e3 : ((a.put (some k) (.agg C)).put (some k2) v).eval (.tmp k) = .agg C := by rw [put_ne _ _ n5, put_same _ _ _ hk]
  have e4 : ((a.put (some k) (.agg C)).put (some k2) v).eval (.tmp k2) = v := put_same _ _ _ (by simp [Act.put]; exact hk2)
  refine wpList_store_mid rfl ty (.tmp j) (.tmp k) rfl R0 0 C e2 e3 hR hs h1 ?_
  refine wpList_plain rfl fun K hK => ?_
  rw [put_none]
  have hb := World.rangeAt_setCells_same w R0 0 C.toList (by rw [Array.length_toList]; exact hR)
  refine hK ((((a.put (some k) (.agg C)).put (some k2) v)).put (some c) v) _ ?_ |> fun h => by
    unfold Oper.wp
    simp only [execOp, e4]
    exact h
  have hj2 : (((a.put (some k) (.agg C)).put (some k2) v).put (some c) v).eval (.tmp j) = .pointer (some ⟨R0, 0, none⟩) := by rw [put_ne _ _ n3]; exact e2
  have hc2 : (((a.put (some k) (.agg C)).put (some k2) v).put (some c) v).eval (.tmp c) = v := put_same _ _ _ (by simp [Act.put]; exact hcs)
  exact wpList_nil (wp_ret (hQ _ _ (bodyPost_ret_by (results_pair hf hj2 hc2 (run_loadVar_mid _ R0 0 ty C.toList _ hb hu hr hs')) hd (h _ (But.sets _ _ (But.refl _ _))))))

theorem endPairK {P : Program} {fn : Func} {R : Ending → World → Prop} {K : Act → World → Prop} {a : Act} {w : World} {id L R0 i j k c ty ty1 ty2 ty3 : Nat} {C : Array Value} {v : Value} {d : TypeDesc} {pos1 pos2 pos3 aft1 aft2 aft3} (hf : fn.results = #[.cell j ty, .tmp c]) (hi : a.eval (.tmp i) = .pointer (some ⟨L, 0, none⟩)) (hj : a.eval (.tmp j) = .pointer (some ⟨R0, 0, none⟩)) (hjk : k ≠ j) (hjc : c ≠ j) (hk : k < a.tmps.size) (hcs : c < a.tmps.size) (hd : a.defers = [])
    (hu : P.underlying ty = some d) (hr : d.isRow = true) (hs : (P.info? ty).map (·.size) = some C.size) (h1 : C.all (·.oneCell') = true)
    (hL : w.rangeAt L 0 C.toList) (hR : w.there R0 0 C.size) (h : ∀ wS, But R0 w wS → R (.returned (.tuple #[.agg C, v])) wS) :
    ((Code.region id #[{ dst := some k, op := .load ty (.tmp i), type := ty1, pos := pos1, after := aft1, guard := none }, { dst := none, op := .store ty (.tmp j) (.tmp k), type := ty2, pos := pos2, after := aft2, guard := none }, { dst := some c, op := .assign (.const v), type := ty3, pos := pos3, after := aft3, guard := none }] false).seq .ret).wp P (Exit.then K (bodyPost P fn R)) a w :=
  endPairQ (fun _ _ h => h) hf hi hj hjk hjc hk hcs hd hu hr hs h1 hL hR h

end Go.Proofs.Ytiekipkmfopdoaa
