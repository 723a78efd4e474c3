/-
  The items of pieces of bytes: the program's read.
-/
import Derived.Test.YtigebmidfddbcaaRdN
namespace Go.Proofs.Ytigebmidfddbcaa
open Go.RowKit Go.Shelf

attribute [local go_sem] Oper.semAt_some

/-- The empty text. -/
theorem isItem_zero (w : World) : IsItem w (.node 0 [] []) (.agg #[.int .i64 0, .slice none 0 0, .slice none 0 0]) := by
  unfold IsItem
  exact ⟨none, 0, none, 0, rfl, BS.empty _ _ _ (fun j => by simp [lb]), ⟨Nat.le_refl _, Nat.zero_le _, Or.inl ⟨rfl, rfl⟩⟩, by unfold IsKids; trivial⟩

theorem box_at {w : World} {o : Obj} {k : Nat} (h : k = w.heap.size) : (w.alloc o).heap[k]? = some o := by
  subst h
  exact heap_new w o
theorem box_old {w : World} {o : Obj} {k : Nat} {x : Option Obj} (h : k < w.heap.size) (hx : w.heap[k]? = x) : (w.alloc o).heap[k]? = x := (heap_old w o h).trans hx

set_option maxHeartbeats 4000000 in
set_option maxRecDepth 100000 in
theorem read_text (d within : Nat) {ao : Option Addr} {n c : Nat} {bs : Nat → Nat} (f t : Nat) (w : World) (hB : BS w ao n c bs) (hft : f ≤ t) (htn : t ≤ n) (hn : n ≤ 140737488355328) (h0 : 0 < n) :
    Calls Try.prog 56 #[.slice ao n c, pc 0 f t, .int .i64 within] w fun e w' => (∃ v, e = .returned (.tuple #[v, .int .i64 (rd d bs 0 f t).2]) ∧ IsItem (cut w.heap.size w') (rd d bs 0 f t).1 v) ∧ Below w.heap.size w w' := by
  rw [rd_text]
  obtain ⟨ao', hB', _, hsl⟩ := hB.part_at hft htn h0
  generalize hbs' : (fun j => bs (f + j)) = bs' at *
  have hlen : t - f ≤ 140737488355328 := by omega
  generalize t - f = m at *
  generalize c - f = c' at *
  have HB := hideP hB'
  have HN := hideP hlen
  clear hB hB' hft htn hn h0 hbs' hlen
  unfold pc
  go_enter Try.func56, Try.ntmps56
  go_wp2_with fail
  generalize hW : ((((w.alloc (.cells #[.int .i64 0, .int .i64 f, .int .i64 t] 40)).alloc (.cells #[.int .i64 within] 3)).alloc (.cells #[.int .i64 0, .slice none 0 0, .slice none 0 0] 26)).alloc (.cells #[.int .i64 0] 29)).alloc (.cells #[.slice ao' m c'] 23) = W
  have hsz : W.heap.size = w.heap.size + 5 := by rw [← hW]; simp
  have hbW : Below w.heap.size w W := by
    rw [← hW]
    repeat first | exact Below.refl _ _ | (refine Below.alloc ?_ (by simp <;> omega) _)
  have b2 : W.heap[w.heap.size + 1 + 1]? = some (.cells #[.int .i64 0, .slice none 0 0, .slice none 0 0] 26 (0, 0)) := by
    rw [← hW]; repeat first | exact box_at (by simp) | refine box_old (by simp <;> omega) ?_
  have b3 : W.heap[w.heap.size + 1 + 1 + 1]? = some (.cells #[.int .i64 0] 29 (0, 0)) := by
    rw [← hW]; repeat first | exact box_at (by simp) | refine box_old (by simp <;> omega) ?_
  clear hW
  refine (text_any HN.out W (HB.out.moved hbW)).mono ?_
  rintro e w' ⟨⟨s, rfl, hO⟩, hb⟩
  have q2 := (hb.block _ (by omega)).trans b2
  have q3 := (hb.block _ (by omega)).trans b3
  obtain ⟨y0, y1, y2⟩ := cells3 q2
  have y3 := blk_cell q3 (o := 0) rfl
  have yf : ∀ o, w'.frozen? ⟨w.heap.size + 1 + 1, o, none⟩ = false := fun o => blk_free q2
  have zf : ∀ o, w'.frozen? ⟨w.heap.size + 1 + 1 + 1, o, none⟩ = false := fun o => blk_free q3
  have HO := hideP hO
  obtain ⟨so, cap, rfl, _, _⟩ := hO.ex
  have HL : Hid (Below w.heap.size w w') := hbW.trans (hb.mono hbW.size)
  have HZ := hideP hsz
  clear hO hb q2 q3 b2 b3 hbW hsz
  go_wp2_with fail
  refine bodyPost_ret (v := .tuple #[.agg #[.int .i64 0, .slice so m cap, .slice none 0 0], .int .i64 0]) (by simp [results, Try.results56, go_sem, y0, y1, y2, y3, World.cell?_setCell_same]) rfl ⟨⟨_, rfl, ?_⟩, ?_⟩
  · refine (HO.out.same (fun b hb _ => ?_) (by simp) (by have := HZ.out; omega)).item
    have := HZ.out
    repeat first | rfl | (refine (Below.heap_setCell _ _ _ _ (by dsimp only <;> omega)).trans ?_)
  · repeat first | exact HL.out | (refine Below.setCell ?_ (by dsimp only <;> omega) _)

set_option maxHeartbeats 4000000 in
set_option maxRecDepth 100000 in
theorem read_deep {ao : Option Addr} {n c : Nat} {bs : Nat → Nat} (f t : Nat) (w : World) (hB : BS w ao n c bs) (hft : f ≤ t) (htn : t ≤ n) (h0 : 0 < n) :
    Calls Try.prog 56 #[.slice ao n c, pc 1 f t, .int .i64 64] w fun e w' => (∃ v, e = .returned (.tuple #[v, .int .i64 (rd 0 bs 1 f t).2]) ∧ IsItem (cut w.heap.size w') (rd 0 bs 1 f t).1 v) ∧ Below w.heap.size w w' := by
  rw [rd_deep]
  obtain ⟨ao', hB', _, hsl⟩ := hB.part_at hft htn h0
  generalize t - f = m at *
  generalize c - f = c' at *
  have hz : ∀ W, Hid (IsItem W (.node 0 [] []) (.agg #[.int .i64 0, .slice none 0 0, .slice none 0 0])) := fun W => hideP (isItem_zero W)
  clear hB hB' hft htn h0
  unfold pc
  go_enter Try.func56, Try.ntmps56
  go_wp2_with fail
  refine bodyPost_ret (v := .tuple #[.agg #[.int .i64 0, .slice none 0 0, .slice none 0 0], .int .i64 44]) (by simp [results, Try.results56, go_sem]) rfl ⟨⟨_, rfl, (hz _).out⟩, ?_⟩
  repeat first | exact Below.refl _ _ | (refine Below.setCell ?_ (by dsimp only <;> omega) _) | (refine Below.alloc ?_ (by simp <;> omega) _)

end Go.Proofs.Ytigebmidfddbcaa
