/-
  A kid that is laid into the row's last place.
-/
import Derived.Test.YtigebmidfddbcaaRlpMeansC17
namespace Go.Proofs.Ytigebmidfddbcaa
open Go.RowKit Go.Shelf

attribute [local go_sem] Oper.semAt_some

/-- The empty text. -/
theorem isItem_zero (w : World) : IsItem w (.node 0 [] []) (.agg #[.int .i64 0, .slice none 0 0, .slice none 0 0]) := by
  unfold IsItem
  exact ⟨none, 0, none, 0, rfl, BS.empty _ _ _ (fun j => by simp [lb]), ⟨Nat.le_refl _, Nat.zero_le _, Or.inl ⟨rfl, rfl⟩⟩, by unfold IsKids; trivial⟩

theorem box_at {w : World} {o : Obj} {k : Nat} (h : k = w.heap.size) : (w.alloc o).heap[k]? = some o := by
  subst h
  exact heap_new w o

theorem box_old {w : World} {o : Obj} {k : Nat} {x : Option Obj} (h : k < w.heap.size) (hx : w.heap[k]? = x) : (w.alloc o).heap[k]? = x := (heap_old w o h).trans hx

set_option maxHeartbeats 4000000 in
set_option maxRecDepth 100000 in
theorem read_text (d within : Nat) {ao : Option Addr} {n c : Nat} {bs : Nat → Nat} (f t : Nat) (w : World) (hB : BS w ao n c bs) (hft : f ≤ t) (htn : t ≤ n) (hn : n ≤ 140737488355328) (h0 : 0 < n) :
    Calls Try.prog 56 #[.slice ao n c, pc 0 f t, .int .i64 within] w fun e w' => (∃ v, e = .returned (.tuple #[v, .int .i64 (rd d bs 0 f t).2]) ∧ IsItem (cut w.heap.size w') (rd d bs 0 f t).1 v) ∧ Below w.heap.size w w' := by
  rw [rd_text]
  obtain ⟨ao', hB', _, hsl⟩ := hB.part_at hft htn h0
  generalize hbs' : (fun j => bs (f + j)) = bs' at *
  have hlen : t - f ≤ 140737488355328 := by omega
  generalize t - f = m at *
  generalize c - f = c' at *
  have HB := hideP hB'
  have HN := hideP hlen
  clear hB hB' hft htn hn h0 hbs' hlen
  unfold pc
  go_enter Try.func56, Try.ntmps56
  go_wp2_with fail
  generalize hW : ((((w.alloc (.cells #[.int .i64 0, .int .i64 f, .int .i64 t] 40)).alloc (.cells #[.int .i64 within] 3)).alloc (.cells #[.int .i64 0, .slice none 0 0, .slice none 0 0] 26)).alloc (.cells #[.int .i64 0] 29)).alloc (.cells #[.slice ao' m c'] 23) = W
  have hsz : W.heap.size = w.heap.size + 5 := by rw [← hW]; simp
  have hbW : Below w.heap.size w W := by
    rw [← hW]
    repeat first | exact Below.refl _ _ | (refine Below.alloc ?_ (by simp <;> omega) _)
  have b2 : W.heap[w.heap.size + 1 + 1]? = some (.cells #[.int .i64 0, .slice none 0 0, .slice none 0 0] 26 (0, 0)) := by
    rw [← hW]; repeat first | exact box_at (by simp) | refine box_old (by simp <;> omega) ?_
  have b3 : W.heap[w.heap.size + 1 + 1 + 1]? = some (.cells #[.int .i64 0] 29 (0, 0)) := by
    rw [← hW]; repeat first | exact box_at (by simp) | refine box_old (by simp <;> omega) ?_
  clear hW
  refine (text_any HN.out W (HB.out.moved hbW)).mono ?_
  rintro e w' ⟨⟨s, rfl, hO⟩, hb⟩
  have q2 := (hb.block _ (by omega)).trans b2
  have q3 := (hb.block _ (by omega)).trans b3
  obtain ⟨y0, y1, y2⟩ := cells3 q2
  have y3 := blk_cell q3 (o := 0) rfl
  have yf : ∀ o, w'.frozen? ⟨w.heap.size + 1 + 1, o, none⟩ = false := fun o => blk_free q2
  have zf : ∀ o, w'.frozen? ⟨w.heap.size + 1 + 1 + 1, o, none⟩ = false := fun o => blk_free q3
  have HO := hideP hO
  obtain ⟨so, cap, rfl, _, _⟩ := hO.ex
  have HL : Hid (Below w.heap.size w w') := hbW.trans (hb.mono hbW.size)
  have HZ := hideP hsz
  clear hO hb q2 q3 b2 b3 hbW hsz
  go_wp2_with fail
  refine bodyPost_ret (v := .tuple #[.agg #[.int .i64 0, .slice so m cap, .slice none 0 0], .int .i64 0]) (by simp [results, Try.results56, go_sem, y0, y1, y2, y3, World.cell?_setCell_same]) rfl ⟨⟨_, rfl, ?_⟩, ?_⟩
  · refine (HO.out.same (fun b hb _ => ?_) (by simp) (by have := HZ.out; omega)).item
    have := HZ.out
    repeat first | rfl | (refine (Below.heap_setCell _ _ _ _ (by dsimp only <;> omega)).trans ?_)
  · repeat first | exact HL.out | (refine Below.setCell ?_ (by dsimp only <;> omega) _)

set_option maxHeartbeats 4000000 in
set_option maxRecDepth 100000 in
theorem read_deep {ao : Option Addr} {n c : Nat} {bs : Nat → Nat} (f t : Nat) (w : World) (hB : BS w ao n c bs) (hft : f ≤ t) (htn : t ≤ n) (h0 : 0 < n) :
    Calls Try.prog 56 #[.slice ao n c, pc 1 f t, .int .i64 64] w fun e w' => (∃ v, e = .returned (.tuple #[v, .int .i64 (rd 0 bs 1 f t).2]) ∧ IsItem (cut w.heap.size w') (rd 0 bs 1 f t).1 v) ∧ Below w.heap.size w w' := by
  rw [rd_deep]
  obtain ⟨ao', hB', _, hsl⟩ := hB.part_at hft htn h0
  generalize t - f = m at *
  generalize c - f = c' at *
  have hz : ∀ W, Hid (IsItem W (.node 0 [] []) (.agg #[.int .i64 0, .slice none 0 0, .slice none 0 0])) := fun W => hideP (isItem_zero W)
  clear hB hB' hft htn h0
  unfold pc
  go_enter Try.func56, Try.ntmps56
  go_wp2_with fail
  refine bodyPost_ret (v := .tuple #[.agg #[.int .i64 0, .slice none 0 0, .slice none 0 0], .int .i64 44]) (by simp [results, Try.results56, go_sem]) rfl ⟨⟨_, rfl, (hz _).out⟩, ?_⟩
  repeat first | exact Below.refl _ _ | (refine Below.setCell ?_ (by dsimp only <;> omega) _) | (refine Below.alloc ?_ (by simp <;> omega) _)

end Go.Proofs.Ytigebmidfddbcaa

namespace Go.Proofs.Ytigebmidfddbcaa
open Go.RowKit Go.Shelf

theorem slice_inj {g g' n n' c c' : Nat} (h : Value.slice (some ⟨g, 0, none⟩) n c = .slice (some ⟨g', 0, none⟩) n' c') : g = g' ∧ n = n' ∧ c = c' := by
  cases h
  exact ⟨rfl, rfl, rfl⟩

theorem KR.fill {N : Nat} {W V : World} {g cap : Nat} {cur : Array Value} {pre : List Tree} {t0 t : Tree} {v0 v1 v2 : Value} (h : KR N W (.slice (some ⟨g, 0, none⟩) (pre.length + 1) cap) (pre ++ [t0])) (hg : W.heap[g]? = some (.cells cur 26 (0, 0)))
    (hV : V.heap[g]? = some (.cells (((cur.setIfInBounds (pre.length * 3) v0).setIfInBounds (pre.length * 3 + 1) v1).setIfInBounds (pre.length * 3 + 2) v2) 26 (0, 0)))
    (hs : ∀ b o, N ≤ b → b ≠ g → W.heap[b]? = some o → o.isCells = true → V.heap[b]? = some o) (hi : IsItem (cutR N (some g) V) t (.agg #[v0, v1, v2])) :
    KR N V (.slice (some ⟨g, 0, none⟩) (pre.length + 1) cap) (pre ++ [t]) := by
  obtain ⟨vs, ⟨h1, h2⟩, h3⟩ := h
  rcases h2 with ⟨h, _⟩ | ⟨g', cap', cur', e, hb, hg', hle, hroom, hcs, htake⟩
  · cases h
  · obtain ⟨e1, _, e3⟩ := slice_inj e
    subst e1
    subst e3
    rw [hg] at hg'
    cases hg'
    rw [List.length_append, List.length_cons, List.length_nil] at h1 htake hle
    have hget : ∀ i, i < (pre.length + 1) * 3 → vs[i]? = cur[i]? := fun i hi => by
      rw [← htake, List.getElem?_take_of_lt hi, Array.getElem?_toList]
    have hkeep : ∀ a u, (cutR N (some g) W).cell? a = some u → (cutR N (some g) V).cell? a = some u := by
      intro a u hc
      obtain ⟨c1, c2, c3⟩ := cutR_cell.1 hc
      obtain ⟨o, ho, hoc⟩ := isCells_of_cell c3
      exact cutR_cell.2 ⟨c1, c2, by rw [cell_congr ((hs _ _ c1 (fun e => c2 (by rw [e])) ho hoc).trans ho.symm), c3]⟩
    have hlt : (pre.length + 1) * 3 ≤ cur.size := by rw [hcs]; exact Nat.mul_le_mul_right _ hle
    refine ⟨((((cur.setIfInBounds (pre.length * 3) v0).setIfInBounds (pre.length * 3 + 1) v1).setIfInBounds (pre.length * 3 + 2) v2).toList.take ((pre.length + 1) * 3)), ⟨?_, Or.inr ⟨g, cap, _, by rw [List.length_append]; rfl, hb, hV, by rw [List.length_append]; exact hle, hroom, by simpa using hcs, by rw [List.length_append]; rfl⟩⟩, fun j t' ht => ?_⟩
    · rw [List.length_append, List.length_cons, List.length_nil, List.length_take]
      simp
      omega
    · by_cases hj : j < pre.length
      · rw [List.getElem?_append_left hj] at ht
        obtain ⟨u0, u1, u2, e0, e1, e2, hit⟩ := h3 j t' (by rw [List.getElem?_append_left hj]; exact ht)
        rw [hget _ (by omega)] at e0 e1 e2
        refine ⟨u0, u1, u2, ?_, ?_, ?_, hit.mono hkeep⟩
        all_goals rw [List.getElem?_take_of_lt (by omega), Array.getElem?_toList, Array.getElem?_setIfInBounds_ne (by omega), Array.getElem?_setIfInBounds_ne (by omega), Array.getElem?_setIfInBounds_ne (by omega)]
        all_goals assumption
      · have hjl : j = pre.length := by
          have := (List.getElem?_eq_some_iff.1 ht).1
          rw [List.length_append, List.length_cons, List.length_nil] at this
          omega
        subst hjl
        rw [List.getElem?_append_right (Nat.le_refl _), Nat.sub_self] at ht
        cases ht
        refine ⟨v0, v1, v2, ?_, ?_, ?_, hi⟩
        · rw [List.getElem?_take_of_lt (by omega), Array.getElem?_toList, Array.getElem?_setIfInBounds_ne (by omega), Array.getElem?_setIfInBounds_ne (by omega), Array.getElem?_setIfInBounds_self_of_lt (by omega)]
        · rw [List.getElem?_take_of_lt (by omega), Array.getElem?_toList, Array.getElem?_setIfInBounds_ne (by omega), Array.getElem?_setIfInBounds_self_of_lt (by simp; omega)]
        · rw [List.getElem?_take_of_lt (by omega), Array.getElem?_toList, Array.getElem?_setIfInBounds_self_of_lt (by simp; omega)]

/-- A step that appends, its run known. -/
theorem step_append {ops : Array Oper} {o : Oper} {a : Act} {w : World} {K : Act → World → Prop} {Q : Exit → Act → World → Prop} {E : Prop} (hgd : o.guard = none) (s x : Operand) (t : TypeId)
    (ho : o.op = .call { callee := .builtin .append, args := #[s, x], argTypes := #[t, t] }) {ty : TypeId} (hty : o.type = ty) {dd : Nat} (hdd : o.dst = some dd) {vs vx v' : Value} {w' : World} (hs : a.eval s = vs) (hx : a.eval x = vx)
    (hrun : (Builtin.append_ #[t, t] ty #[vs, vx]).run Try.prog w = .ok v' w') (h : K (a.put (some dd) v') w') :
    if Region.wanted o (yielded ops a.tmps) = true then Oper.wp Try.prog o a w K Q else E := by
  have hw : Region.wanted o (yielded ops a.tmps) = true := by simp [Region.wanted, hgd]
  rw [if_pos hw]
  unfold Oper.wp
  rw [← hdd] at h
  subst hty
  simp [execOp, ho, resolve, invoke, builtin, hs, hx, hrun]
  exact h

/-- What a row's last place is. -/
theorem KR.last {N : Nat} {w : World} {g n cap : Nat} {ks : List Tree} (h : KR N w (.slice (some ⟨g, 0, none⟩) (n + 1) cap) ks) :
    ∃ cur, w.heap[g]? = some (.cells cur 26 (0, 0)) ∧ ∃ u0 u1 u2, cur[n * 3]? = some u0 ∧ cur[n * 3 + 1]? = some u1 ∧ cur[n * 3 + 2]? = some u2 := by
  obtain ⟨vs, ⟨h1, h2⟩, h3⟩ := h
  rcases h2 with ⟨h, _⟩ | ⟨g', cap', cur, e, hb, hg', hle, hroom, hcs, htake⟩
  · cases h
  · obtain ⟨e1, e2, e3⟩ := slice_inj e
    subst e1
    refine ⟨cur, hg', cur[n * 3]'(by omega), cur[n * 3 + 1]'(by omega), cur[n * 3 + 2]'(by omega), ?_, ?_, ?_⟩
    all_goals exact Array.getElem?_eq_getElem _

end Go.Proofs.Ytigebmidfddbcaa
