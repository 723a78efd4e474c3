/- YtcceaokldphfgaaDiskDoesC22 -/
import Derived.Test.YtcceaokldphfgaaDiskDoesC15
import Derived.Test.YtcceaokldphfgaaDiskDoesC21
namespace Go.Proofs.Ytcceaokldphfgaa
open Go.RowKit Go.Shelf

theorem row_to {w w' : World} {B B' e n : Nat} {v : Value} {xs : List Value} (h : w.ownsRow B e 1 v n xs) (hB : B' ≤ B) (hs : ∀ k, B ≤ k → k < w.heap.size → w'.heap[k]? = w.heap[k]?) : w'.ownsRow B' e 1 v n xs := by
  obtain ⟨hl, h | ⟨g, cap, cur, rfl, hb, hg, hn, hm, hz, ht⟩⟩ := h
  · exact ⟨hl, .inl h⟩
  · exact ⟨hl, .inr ⟨g, cap, cur, rfl, by omega, (hs g hb (Array.getElem?_eq_some_iff.1 hg).1).trans hg, hn, hm, hz, ht⟩⟩

set_option maxHeartbeats 1000000 in
set_option maxRecDepth 100000 in
theorem planTwin_new (w : World) (cr ro : Int) (a1 a2 a3 : Option Addr) (c1 c2 c3 : Nat) (x1 x2 x3 : List Value) (h1 : RdS w a1 c1 x1 8) (h2 : RdS w a2 c2 x2 8) (h3 : RdS w a3 c3 x3 8) :
    Calls Try.prog 11 #[.agg #[.int .i64 cr, .slice a1 x1.length c1, .slice a2 x2.length c2, .slice a3 x3.length c3, .int .i64 ro]] w fun e w' => ∃ v1 v2 v3, e = .returned (.agg #[.int .i64 cr, v1, v2, v3, .int .i64 ro]) ∧ Below w.heap.size w w' ∧ w'.ownsRow w.heap.size 3 1 v1 x1.length x1 ∧ w'.ownsRow w.heap.size 3 1 v2 x2.length x2 ∧ w'.ownsRow w.heap.size 3 1 v3 x3.length x3 := by
  generalize hn1 : x1.length = n1
  generalize hn2 : x2.length = n2
  generalize hn3 : x3.length = n3
  obtain ⟨W0, hW0⟩ : ∃ W0, W0 = (w.alloc (.cells #[.int .i64 cr, .slice a1 n1 c1, .slice a2 n2 c2, .slice a3 n3 c3, .int .i64 ro] 24)).alloc (.cells #[.int .i64 0, .slice none 0 0, .slice none 0 0, .slice none 0 0, .int .i64 0] 24) := ⟨_, rfl⟩
  have hb0 : Below w.heap.size w W0 := by rw [hW0]; exact ((Below.refl _ w).alloc (Nat.le_refl _) _).alloc (by simp) _
  have hsz0 : W0.heap.size = w.heap.size + 2 := by rw [hW0]; simp
  have hB0 : W0.heap[w.heap.size]? = some (.cells #[.int .i64 cr, .slice a1 n1 c1, .slice a2 n2 c2, .slice a3 n3 c3, .int .i64 ro] 24 (0, 0)) := by
    rw [hW0]; exact (Below.heap_alloc _ _ _ (by simp)).trans (World.alloc_heap_new w _)
  have hR0 : W0.heap[w.heap.size + 1]? = some (.cells #[.int .i64 0, .slice none 0 0, .slice none 0 0, .slice none 0 0, .int .i64 0] 24 (0, 0)) := by
    rw [hW0]
    have := World.alloc_heap_new (w.alloc (.cells #[.int .i64 cr, .slice a1 n1 c1, .slice a2 n2 c2, .slice a3 n3 c3, .int .i64 ro] 24)) (.cells #[.int .i64 0, .slice none 0 0, .slice none 0 0, .slice none 0 0, .int .i64 0] 24)
    rwa [World.size_alloc] at this
  obtain ⟨u1, w1, r1, o1, b1⟩ := h1.copied hb0
  obtain ⟨d1, e1, hu1⟩ := own_shape o1
  rw [hn1] at hu1 r1
  subst hu1
  have hB1o := (b1.block w.heap.size (by omega)).trans hB0
  have kf1 : w1.frozen? ⟨w.heap.size, 1, none⟩ = false := blk_free hB1o
  have kc1 : w1.cell? ⟨w.heap.size, 1, none⟩ = some (.slice a1 n1 c1) := blk_cell hB1o rfl
  obtain ⟨W1, hW1⟩ : ∃ W, W = w1.setCell ⟨w.heap.size, 1, none⟩ (.slice d1 n1 e1) := ⟨_, rfl⟩
  have hB1 := blk_set (o := 1) hB1o (.slice d1 n1 e1)
  have hb1 : Below w.heap.size w W1 := by rw [hW1]; exact (hb0.trans (b1.mono (by omega))).setCell (p := ⟨w.heap.size, 1, none⟩) (Nat.le_refl _) _
  have hsz1 : w.heap.size + 2 ≤ W1.heap.size := by
    have := b1.size
    rw [hW1]; simp [World.setCell]; omega
  have hR1 : W1.heap[w.heap.size + 1]? = some (.cells #[.int .i64 0, .slice none 0 0, .slice none 0 0, .slice none 0 0, .int .i64 0] 24 (0, 0)) := by
    rw [hW1]
    exact (Below.heap_setCell w1 _ _ _ (fun e => by have : w.heap.size + 1 = w.heap.size := e; omega)).trans ((b1.block _ (by omega)).trans hR0)
  rw [← hW1] at hB1
  replace hB1 : W1.heap[w.heap.size]? = some (.cells #[.int .i64 cr, .slice d1 n1 e1, .slice a2 n2 c2, .slice a3 n3 c3, .int .i64 ro] 24 (0, 0)) := hB1
  have kn1 : W1.cell? ⟨w.heap.size, 2, none⟩ = some (.slice a2 n2 c2) := blk_cell hB1 rfl
  obtain ⟨u2, w2, r2, o2, b2⟩ := h2.copied hb1
  obtain ⟨d2, e2, hu2⟩ := own_shape o2
  rw [hn2] at hu2 r2
  subst hu2
  have hB2o := (b2.block w.heap.size (by omega)).trans hB1
  have kf2 : w2.frozen? ⟨w.heap.size, 2, none⟩ = false := blk_free hB2o
  have kc2 : w2.cell? ⟨w.heap.size, 2, none⟩ = some (.slice a2 n2 c2) := blk_cell hB2o rfl
  obtain ⟨W2, hW2⟩ : ∃ W, W = w2.setCell ⟨w.heap.size, 2, none⟩ (.slice d2 n2 e2) := ⟨_, rfl⟩
  have hB2 := blk_set (o := 2) hB2o (.slice d2 n2 e2)
  have hb2 : Below w.heap.size w W2 := by rw [hW2]; exact (hb1.trans (b2.mono (by omega))).setCell (p := ⟨w.heap.size, 2, none⟩) (Nat.le_refl _) _
  have hsz2 : w.heap.size + 2 ≤ W2.heap.size := by
    have := b2.size
    rw [hW2]; simp [World.setCell]; omega
  have hR2 : W2.heap[w.heap.size + 1]? = some (.cells #[.int .i64 0, .slice none 0 0, .slice none 0 0, .slice none 0 0, .int .i64 0] 24 (0, 0)) := by
    rw [hW2]
    exact (Below.heap_setCell w2 _ _ _ (fun e => by have : w.heap.size + 1 = w.heap.size := e; omega)).trans ((b2.block _ (by omega)).trans hR1)
  rw [← hW2] at hB2
  replace hB2 : W2.heap[w.heap.size]? = some (.cells #[.int .i64 cr, .slice d1 n1 e1, .slice d2 n2 e2, .slice a3 n3 c3, .int .i64 ro] 24 (0, 0)) := hB2
  have kn2 : W2.cell? ⟨w.heap.size, 3, none⟩ = some (.slice a3 n3 c3) := blk_cell hB2 rfl
  obtain ⟨u3, w3, r3, o3, b3⟩ := h3.copied hb2
  obtain ⟨d3, e3, hu3⟩ := own_shape o3
  rw [hn3] at hu3 r3
  subst hu3
  have hB3o := (b3.block w.heap.size (by omega)).trans hB2
  have kf3 : w3.frozen? ⟨w.heap.size, 3, none⟩ = false := blk_free hB3o
  have kc3 : w3.cell? ⟨w.heap.size, 3, none⟩ = some (.slice a3 n3 c3) := blk_cell hB3o rfl
  obtain ⟨W3, hW3⟩ : ∃ W, W = w3.setCell ⟨w.heap.size, 3, none⟩ (.slice d3 n3 e3) := ⟨_, rfl⟩
  have hB3 := blk_set (o := 3) hB3o (.slice d3 n3 e3)
  have hb3 : Below w.heap.size w W3 := by rw [hW3]; exact (hb2.trans (b3.mono (by omega))).setCell (p := ⟨w.heap.size, 3, none⟩) (Nat.le_refl _) _
  have hsz3 : w.heap.size + 2 ≤ W3.heap.size := by
    have := b3.size
    rw [hW3]; simp [World.setCell]; omega
  have hR3 : W3.heap[w.heap.size + 1]? = some (.cells #[.int .i64 0, .slice none 0 0, .slice none 0 0, .slice none 0 0, .int .i64 0] 24 (0, 0)) := by
    rw [hW3]
    exact (Below.heap_setCell w3 _ _ _ (fun e => by have : w.heap.size + 1 = w.heap.size := e; omega)).trans ((b3.block _ (by omega)).trans hR2)
  rw [← hW3] at hB3
  replace hB3 : W3.heap[w.heap.size]? = some (.cells #[.int .i64 cr, .slice d1 n1 e1, .slice d2 n2 e2, .slice d3 n3 e3, .int .i64 ro] 24 (0, 0)) := hB3
  have z1 := b1.size
  have z2 := b2.size
  have z3 := b3.size
  have zW1 : W1.heap.size = w1.heap.size := by rw [hW1]; simp [World.setCell]
  have zW2 : W2.heap.size = w2.heap.size := by rw [hW2]; simp [World.setCell]
  have s3 : ∀ k, w.heap.size < k → W3.heap[k]? = w3.heap[k]? := fun k hk => by rw [hW3]; exact Below.heap_setCell w3 _ _ k (fun e => by have : k = w.heap.size := e; omega)
  have s2 : ∀ k, w.heap.size < k → W2.heap[k]? = w2.heap[k]? := fun k hk => by rw [hW2]; exact Below.heap_setCell w2 _ _ k (fun e => by have : k = w.heap.size := e; omega)
  have s1 : ∀ k, w.heap.size < k → W1.heap[k]? = w1.heap[k]? := fun k hk => by rw [hW1]; exact Below.heap_setCell w1 _ _ k (fun e => by have : k = w.heap.size := e; omega)
  have t3 : ∀ k, w.heap.size < k → k < w2.heap.size → W3.heap[k]? = w2.heap[k]? := fun k hk hl => (s3 k hk).trans ((b3.block k (by omega)).trans (s2 k hk))
  have t2 : ∀ k, w.heap.size < k → k < w1.heap.size → W3.heap[k]? = w1.heap[k]? := fun k hk hl => (t3 k hk (by omega)).trans ((b2.block k (by omega)).trans (s1 k hk))
  have HO1 : Hid (W3.ownsRow (w.heap.size + 2) 3 1 (.slice d1 n1 e1) n1 x1) := row_to (hn1 ▸ o1) (by omega) (fun k h1 h2 => t2 k (by omega) h2)
  have HO2 : Hid (W3.ownsRow (w.heap.size + 2) 3 1 (.slice d2 n2 e2) n2 x2) := row_to (hn2 ▸ o2) (by omega) (fun k h1 h2 => t3 k (by omega) h2)
  have HO3 : Hid (W3.ownsRow (w.heap.size + 2) 3 1 (.slice d3 n3 e3) n3 x3) := row_to (hn3 ▸ o3) (by omega) (fun k h1 h2 => s3 k (by omega))
  have HR1 := hideP r1
  have HR2 := hideP r2
  have HR3 := hideP r3
  have HW0 := hideP hW0
  have HW1 := hideP hW1
  have HW2 := hideP hW2
  have HW3 := hideP hW3
  have HB3 := hideP hB3
  have HRR := hideP hR3
  have HBL := hideP hb3
  have q0 : W3.cell? ⟨w.heap.size, 0, none⟩ = some (.int .i64 cr) := blk_cell hB3 rfl
  have q1 : W3.cell? ⟨w.heap.size, 1, none⟩ = some (.slice d1 n1 e1) := blk_cell hB3 rfl
  have q2 : W3.cell? ⟨w.heap.size, 2, none⟩ = some (.slice d2 n2 e2) := blk_cell hB3 rfl
  have q3 : W3.cell? ⟨w.heap.size, 3, none⟩ = some (.slice d3 n3 e3) := blk_cell hB3 rfl
  have q4 : W3.cell? ⟨w.heap.size, 4, none⟩ = some (.int .i64 ro) := blk_cell hB3 rfl
  have hr0 : ∀ o, o < 5 → W3.cell? ⟨w.heap.size + 1, o, none⟩ = #[Value.int .i64 0, .slice none 0 0, .slice none 0 0, .slice none 0 0, .int .i64 0][o]? := fun o ho => by
    simp only [World.cell?, hR3]
    rfl
  have hr1 : ∀ o, W3.frozen? ⟨w.heap.size + 1, o, none⟩ = false := fun o => blk_free hR3
  have p0 := hr0 0 (by decide)
  have p1 := hr0 1 (by decide)
  have p2 := hr0 2 (by decide)
  have p3 := hr0 3 (by decide)
  have p4 := hr0 4 (by decide)
  have f0 := hr1 0
  have f1 := hr1 1
  have f2 := hr1 2
  have f3 := hr1 3
  have f4 := hr1 4
  simp only [List.getElem?_toArray, List.getElem?_cons_zero, List.getElem?_cons_succ] at p0 p1 p2 p3 p4
  clear hr0 hr1
  rw [hW3] at q0 q1 q2 q3 q4 p0 p1 p2 p3 p4 f0 f1 f2 f3 f4
  clear hn1 hn2 hn3
  clear h1 h2 h3 r1 r2 r3 hW0 hW1 hW2 hW3 hB0 hB1 hB2 hB3 hR0 hR1 hR2 hR3 hb0 hb1 hb2 hb3 hB1o hB2o hB3o o1 o2 o3 b1 b2 b3 hsz0 hsz1 hsz2 hsz3 z1 z2 z3 zW1 zW2 s1 s2 s3 t2 t3
  rw [HW1.out] at kn1
  rw [HW2.out] at kn2
  go_enter Try.func11, Try.ntmps11
  go_wp2_with (first | (at_builtin; first | (rw [← HW0.out]; refine Lib.wpList_append_run _ rfl _ _ 22 22 rfl _ _ rfl rfl _ _ HR1.out ?_) | (rw [← HW1.out]; refine Lib.wpList_append_run _ rfl _ _ 22 22 rfl _ _ rfl rfl _ _ HR2.out ?_) | (rw [← HW2.out]; refine Lib.wpList_append_run _ rfl _ _ 22 22 rfl _ _ rfl rfl _ _ HR3.out ?_)))
  rw [← HW3.out]
  have m4 := HRR.out
  have m5 := HBL.out
  have g := blk_set (o := 4) (blk_set (o := 3) (blk_set (o := 2) (blk_set (o := 1) (blk_set (o := 0) m4 (.int .i64 cr)) (.slice d1 n1 e1)) (.slice d2 n2 e2)) (.slice d3 n3 e3)) (.int .i64 ro)
  have hbf := ((((m5.setCell (p := ⟨w.heap.size + 1, 0, none⟩) (by simp) (.int .i64 cr)).setCell (p := ⟨w.heap.size + 1, 1, none⟩) (by simp) (.slice d1 n1 e1)).setCell (p := ⟨w.heap.size + 1, 2, none⟩) (by simp) (.slice d2 n2 e2)).setCell (p := ⟨w.heap.size + 1, 3, none⟩) (by simp) (.slice d3 n3 e3)).setCell (p := ⟨w.heap.size + 1, 4, none⟩) (by simp) (.int .i64 ro)
  have HFR : Hid (∀ k, k ≠ w.heap.size + 1 → (((((W3.setCell ⟨w.heap.size + 1, 0, none⟩ (.int .i64 cr)).setCell ⟨w.heap.size + 1, 1, none⟩ (.slice d1 n1 e1)).setCell ⟨w.heap.size + 1, 2, none⟩ (.slice d2 n2 e2)).setCell ⟨w.heap.size + 1, 3, none⟩ (.slice d3 n3 e3)).setCell ⟨w.heap.size + 1, 4, none⟩ (.int .i64 ro)).heap[k]? = W3.heap[k]?) := fun k hk => (Below.heap_setCell _ _ _ k hk).trans ((Below.heap_setCell _ _ _ k hk).trans ((Below.heap_setCell _ _ _ k hk).trans ((Below.heap_setCell _ _ _ k hk).trans (Below.heap_setCell _ _ _ k hk))))
  clear m4 m5 p0 p1 p2 p3 p4 f0 f1 f2 f3 f4 q0 q1 q2 q3 q4
  generalize ((((W3.setCell ⟨w.heap.size + 1, 0, none⟩ (.int .i64 cr)).setCell ⟨w.heap.size + 1, 1, none⟩ (.slice d1 n1 e1)).setCell ⟨w.heap.size + 1, 2, none⟩ (.slice d2 n2 e2)).setCell ⟨w.heap.size + 1, 3, none⟩ (.slice d3 n3 e3)).setCell ⟨w.heap.size + 1, 4, none⟩ (.int .i64 ro) = V4 at g hbf HFR ⊢
  have c0 : V4.cell? ⟨w.heap.size + 1, 0, none⟩ = some (.int .i64 cr) := blk_cell g rfl
  have c1' : V4.cell? ⟨w.heap.size + 1, 1, none⟩ = some (.slice d1 n1 e1) := blk_cell g rfl
  have c2' : V4.cell? ⟨w.heap.size + 1, 2, none⟩ = some (.slice d2 n2 e2) := blk_cell g rfl
  have c3' : V4.cell? ⟨w.heap.size + 1, 3, none⟩ = some (.slice d3 n3 e3) := blk_cell g rfl
  have c4' : V4.cell? ⟨w.heap.size + 1, 4, none⟩ = some (.int .i64 ro) := blk_cell g rfl
  refine bodyPost_ret (v := .agg #[.int .i64 cr, .slice d1 n1 e1, .slice d2 n2 e2, .slice d3 n3 e3, .int .i64 ro]) (by simp [results, Try.results11, go_sem, c0, c1', c2', c3', c4']) rfl ⟨_, _, _, rfl, hbf, row_to HO1.out (by omega) (fun k h1 _ => HFR.out k (by omega)), row_to HO2.out (by omega) (fun k h1 _ => HFR.out k (by omega)), row_to HO3.out (by omega) (fun k h1 _ => HFR.out k (by omega))⟩

end Go.Proofs.Ytcceaokldphfgaa

namespace Go.Proofs.Ytcceaokldphfgaa
open Go.RowKit Go.Shelf

/-- A row of new memory stays while only later blocks are written. -/
theorem own_below {w w' : World} {base e size n : Nat} {v : Value} {xs : List Value} (h : w.ownsRow base e size v n xs) (hb : Below w.heap.size w w') : w'.ownsRow base e size v n xs := by
  refine ⟨h.1, ?_⟩
  rcases h.2 with hn | ⟨g, cap, cur, h1, h2, hg, h4⟩
  · exact .inl hn
  · exact .inr ⟨g, cap, cur, h1, h2, (hb.block g (Array.getElem?_eq_some_iff.1 hg).1).trans hg, h4⟩

end Go.Proofs.Ytcceaokldphfgaa

namespace Go.Proofs.Ytcceaokldphfgaa
open Go.RowKit Go.Shelf

/-- An operation, without its memory. -/
structure AOp where
  kind : Int
  name : ByteArray
  to : ByteArray
  at_ : Int
  long : Int
  data : List UInt8
  crash : Int
  room : Int
  keep : List Int
  fail : List Int
  full : List Int

def doA (a : ASt) (o : AOp) : ASt × Int :=
  if o.kind = 0 then createA a o.name else if o.kind = 1 then appendA a o.name o.data else if o.kind = 2 then writeA a o.name o.at_ o.data else if o.kind = 3 then cutA a o.name o.long
  else if o.kind = 4 then syncA a o.name else if o.kind = 5 then renameA a o.name o.to else if o.kind = 6 then removeA a o.name else if o.kind = 7 then (startA a o.crash o.room o.keep o.fail o.full, 0)
  else (a, (readA a o.name o.at_ o.long).2)

def Sm (e : Int) : Prop := 0 ≤ e ∧ e ≤ 15

theorem begin_small (a : ASt) : Sm (beginA a).2 := by
  unfold beginA Sm
  split
  · simp
  · split
    · simp
    · dsimp only
      split <;> simp

theorem on_small (a : ASt) (t : ByteArray) (k : ASt → AFile → ASt × Int) (hk : ∀ b f, Sm (k b f).2) : Sm (onA a t k).2 := by
  unfold onA
  split
  · exact begin_small a
  · split
    · exact ⟨by simp, by simp⟩
    · exact hk _ _

theorem chg_small (c : Chg) (a : ASt) (f : AFile) : Sm (chgA c a f).2 := by
  unfold chgA Sm
  split <;> simp

theorem do_small (a : ASt) (o : AOp) : Sm (doA a o).2 := by
  unfold doA
  split
  · unfold createA
    split
    · exact begin_small a
    · unfold Sm; split
      · simp
      · split
        · simp
        · split
          · simp
          · split <;> simp
  split
  · refine on_small _ _ _ fun b f => ?_
    split
    · exact ⟨by simp, by simp⟩
    · exact chg_small _ _ _
  split
  · refine on_small _ _ _ fun b f => ?_
    split
    · exact ⟨by simp, by simp⟩
    · split
      · exact ⟨by simp, by simp⟩
      · exact chg_small _ _ _
  split
  · refine on_small _ _ _ fun b f => ?_
    split
    · exact ⟨by simp, by simp⟩
    · split
      · exact ⟨by simp, by simp⟩
      · exact chg_small _ _ _
  split
  · exact on_small _ _ _ fun b f => ⟨by simp, by simp⟩
  split
  · refine on_small _ _ _ fun b f => ?_
    unfold Sm
    split
    · simp
    · split <;> simp
  split
  · exact on_small _ _ _ fun b f => ⟨by simp, by simp⟩
  split
  · exact ⟨by simp, by simp⟩
  · unfold readA Sm
    split
    · simp
    · split
      · simp
      · split <;> simp

/-- An operation's value, and what it reads in memory. -/
structure OpAt (w : World) (a a1 a2 a3 : Option Addr) (c c1 c2 c3 : Nat) (o : AOp) : Prop where
  nil : a = none → o.data = [] ∧ c = 0
  lt : ∀ b, a = some b → o.data ≠ [] → b.block < w.heap.size
  cell : ∀ b, a = some b → ∀ (j : Nat) (u : UInt8), o.data[j]? = some u → w.cell? (b.add j) = some (byteV u)
  len : o.data.length ≤ 140737488351232
  keep : RdS w a1 c1 (o.keep.map (Value.int .i64)) 8
  fail : RdS w a2 c2 (o.fail.map (Value.int .i64)) 8
  full : RdS w a3 c3 (o.full.map (Value.int .i64)) 8
  iAt : I64 o.at_
  iLong : I64 o.long
  iC : I64 o.crash
  iR : I64 o.room
  iK : ∀ x ∈ o.keep, I64 x
  iF : ∀ x ∈ o.fail, I64 x
  iU : ∀ x ∈ o.full, I64 x
  lK : o.keep.length * 8 ≤ 140737488351232
  lF : o.fail.length * 8 ≤ 140737488351232
  lU : o.full.length * 8 ≤ 140737488351232
  cap : o.data.length ≤ c

abbrev opV (a a1 a2 a3 : Option Addr) (c c1 c2 c3 : Nat) (o : AOp) : Value :=
  .agg #[.int .i64 o.kind, .string o.name, .string o.to, .int .i64 o.at_, .int .i64 o.long, .slice a o.data.length c, .int .i64 o.crash, .slice a1 o.keep.length c1, .slice a2 o.fail.length c2, .slice a3 o.full.length c3, .int .i64 o.room]

/-- Where Do's loop over its own bytes is. -/
structure LoopI (w wr : World) (role : Role) (D B : Nat) (x : ASt) (v : Value) (n : Nat) (ys : List Value) : Prop where
  own : wr.ownsRow B 5 1 v n ys
  ex : ∃ role' s', DiskOK wr role' D s' ∧ Stp role role' w wr ∧ abs s' = x ∧ ∀ g, v.ownBlock = some g → role' g = none

theorem LoopI.of {w W1 w' : World} {role : Role} {D B : Nat} {s : DSt} {x : ASt × Int} {v : Value} {n : Nat} {ys : List Value} {r : Ending} (h : DiskOK w role D s) (hb : Below w.heap.size w W1) (hB : w.heap.size ≤ B) (ho : W1.ownsRow B 5 1 v n ys) (hd : Done W1 role D x r w') :
    r = .returned (.int .i64 x.2) ∧ Hid (LoopI w w' role D B x.1 v n ys) := by
  obtain ⟨h1, role', s', h2, h3, h4⟩ := hd
  have hnone : ∀ g, v.ownBlock = some g → role g = none := fun g e => no_role h (Nat.le_trans hB (ho.lt g e).1)
  refine ⟨h1, ?_, role', s', h2, (Stp.still hb).trans h3, h4, fun g e => ?_⟩
  · refine row_to ho (Nat.le_refl _) fun k hk hl => h3.keep k hl (.inl (no_role h (Nat.le_trans hB hk)))
  · rw [h3.ext g (ho.lt g e).2]; exact hnone g e

theorem LoopI.store {w wr : World} {role : Role} {D B g n cap j : Nat} {x : ASt} {ys : List Value} (h : LoopI w wr role D B x (.slice (some ⟨g, 0, none⟩) n cap) n ys) (hB : w.heap.size ≤ B) (u : Value) : LoopI w (wr.setCell ⟨g, j, none⟩ u) role D B x (.slice (some ⟨g, 0, none⟩) n cap) n (ys.set j u) := by
  obtain ⟨role', s', h1, h2, h3, h4⟩ := h.ex
  have hg := h4 g rfl
  exact ⟨(h.own.stored j u).1, role', s', h1.poke hg u, h2.poke (Nat.le_trans hB (h.own.lt g rfl).1) u, h3, h4⟩

end Go.Proofs.Ytcceaokldphfgaa
