/- YtcceaokldphfgaaDiskDoesC11 -/
import Derived.Test.YtcceaokldphfgaaDiskDoesC10
namespace Go.Proofs.Ytcceaokldphfgaa
open Go.RowKit Go.Shelf

/-- Integers in new memory. -/
def NewI (w w' : World) (v : Value) (l : List Int) : Prop := RdI w' v l ∧ ∀ a n c, v = .slice (some a) n c → w.heap.size ≤ a.block ∧ a.block < w'.heap.size

theorem NewI.later {w w1 w2 : World} {v : Value} {l : List Int} (h : NewI w w1 v l) (hb : Below w1.heap.size w1 w2) : NewI w w2 v l := by
  refine ⟨h.1.same hb.size (fun a n c e hc => hb.block _ (h.2 a n c e).2), fun a n c e => ⟨(h.2 a n c e).1, Nat.lt_of_lt_of_le (h.2 a n c e).2 hb.size⟩⟩

theorem NewI.poke {w w1 : World} {v u : Value} {l : List Int} {b o : Nat} (h : NewI w w1 v l) (hb : ∀ a n c, v = .slice (some a) n c → a.block ≠ b) : NewI w (w1.setCell ⟨b, o, none⟩ u) v l := by
  have hz : (w1.setCell ⟨b, o, none⟩ u).heap.size = w1.heap.size := by simp [World.setCell]
  exact ⟨h.1.same (by omega) (fun a n c e _ => Below.heap_setCell w1 _ u _ (hb a n c e)), fun a n c e => by rw [hz]; exact h.2 a n c e⟩

theorem clone_new (v : Value) (l : List Int) (w : World) (h : RdI w v l) (hl : l.length * 8 ≤ 140737488351232) :
    Calls Try.prog 63 #[v] w fun e w' => ∃ a c, e = .returned (.slice a l.length c) ∧ Hid (NewI w w' (.slice a l.length c) l) ∧ Below w.heap.size w w' := by
  refine (clone_any v l w h hl).mono ?_
  rintro e w' ⟨v', rfl, ho, hb⟩
  obtain ⟨a, c, rfl, _⟩ := own_slice ho
  refine ⟨a, c, rfl, ⟨RdI.of_own ho, fun a' n c' e => ?_⟩, hb⟩
  cases e
  exact ho.lt a'.block rfl

set_option maxHeartbeats 1000000 in
set_option maxRecDepth 100000 in
theorem copyPlan_any (crash room : Int) (keepV failV fullV : Value) (keep fail full : List Int) (w : World) (h1 : RdI w keepV keep) (h2 : RdI w failV fail) (h3 : RdI w fullV full)
    (l1 : keep.length * 8 ≤ 140737488351232) (l2 : fail.length * 8 ≤ 140737488351232) (l3 : full.length * 8 ≤ 140737488351232)
    (b1 : ∀ a n c, keepV = .slice (some a) n c → a.block < w.heap.size) (b2 : ∀ a n c, failV = .slice (some a) n c → a.block < w.heap.size) (b3 : ∀ a n c, fullV = .slice (some a) n c → a.block < w.heap.size) :
    Calls Try.prog 31 #[.agg #[.int .i64 crash, keepV, failV, fullV, .int .i64 room]] w fun e w' => ∃ v1 v2 v3, e = .returned (.agg #[.int .i64 crash, v1, v2, v3, .int .i64 room]) ∧ NewI w w' v1 keep ∧ NewI w w' v2 fail ∧ NewI w w' v3 full ∧ Below w.heap.size w w' := by
  obtain ⟨a1, n1, c1, e1⟩ : ∃ a n c, keepV = .slice a n c := by rcases h1 with ⟨e, _⟩ | ⟨b, o, c, e, _⟩ <;> exact ⟨_, _, _, e⟩
  obtain ⟨a2, n2, c2, e2⟩ : ∃ a n c, failV = .slice a n c := by rcases h2 with ⟨e, _⟩ | ⟨b, o, c, e, _⟩ <;> exact ⟨_, _, _, e⟩
  obtain ⟨a3, n3, c3, e3⟩ : ∃ a n c, fullV = .slice a n c := by rcases h3 with ⟨e, _⟩ | ⟨b, o, c, e, _⟩ <;> exact ⟨_, _, _, e⟩
  subst e1 e2 e3
  have H2 := hideP h2
  have H3 := hideP h3
  have B2 := hideP b2
  have B3 := hideP b3
  obtain ⟨W0, hW0⟩ : ∃ W0, W0 = (w.alloc (.cells #[.int .i64 crash, .slice a1 n1 c1, .slice a2 n2 c2, .slice a3 n3 c3, .int .i64 room] 24)).alloc (.cells #[.int .i64 0, .slice none 0 0, .slice none 0 0, .slice none 0 0, .int .i64 0] 24) := ⟨_, rfl⟩
  have hb0 : Below w.heap.size w W0 := by rw [hW0]; exact ((Below.refl _ w).alloc (Nat.le_refl _) _).alloc (by simp) _
  have hcl := clone_new _ keep W0 (h1.same hb0.size (fun a n c e _ => hb0.block _ (b1 a n c e))) l1
  have hsz0 : W0.heap.size = w.heap.size + 2 := by rw [hW0]; simp
  have hB0 : W0.heap[w.heap.size]? = some (.cells #[.int .i64 crash, .slice a1 n1 c1, .slice a2 n2 c2, .slice a3 n3 c3, .int .i64 room] 24 (0, 0)) := by
    rw [hW0]; exact (Below.heap_alloc _ _ _ (by simp)).trans (World.alloc_heap_new w _)
  have hR0 : W0.heap[w.heap.size + 1]? = some (.cells #[.int .i64 0, .slice none 0 0, .slice none 0 0, .slice none 0 0, .int .i64 0] 24 (0, 0)) := by
    rw [hW0]
    have := World.alloc_heap_new (w.alloc (.cells #[.int .i64 crash, .slice a1 n1 c1, .slice a2 n2 c2, .slice a3 n3 c3, .int .i64 room] 24)) (.cells #[.int .i64 0, .slice none 0 0, .slice none 0 0, .slice none 0 0, .int .i64 0] 24)
    rwa [World.size_alloc] at this
  have HW0 := hideP hW0
  have HB0 := hideP hB0
  have HR0 := hideP hR0
  have HBL0 := hideP hb0
  clear h1 h2 h3 b1 b2 b3 hW0 hB0 hR0 hb0
  go_enter Try.func31, Try.ntmps31
  go_wp2_with fail
  rw [← HW0.out]
  refine hcl.mono ?_
  rintro e w1 ⟨a4, c4, rfl, HN1, hb1⟩
  -- the first slice is stored
  have hB1 := (hb1.block w.heap.size (by omega)).trans HB0.out
  have k1 : w1.cell? ⟨w.heap.size, 1, none⟩ = some (.slice a1 n1 c1) := blk_cell hB1 rfl
  have k2 : w1.frozen? ⟨w.heap.size, 1, none⟩ = false := blk_free hB1
  have hB1' := blk_set (o := 1) hB1 (.slice a4 keep.length c4)
  have k3 : (w1.setCell ⟨w.heap.size, 1, none⟩ (.slice a4 keep.length c4)).cell? ⟨w.heap.size, 2, none⟩ = some (.slice a2 n2 c2) := blk_cell hB1' rfl
  have hbl1 : Below w.heap.size w (w1.setCell ⟨w.heap.size, 1, none⟩ (.slice a4 keep.length c4)) := (HBL0.out.trans (hb1.mono (by omega))).setCell (p := ⟨w.heap.size, 1, none⟩) (Nat.le_refl _) _
  have hsz1 : w.heap.size + 2 ≤ (w1.setCell ⟨w.heap.size, 1, none⟩ (.slice a4 keep.length c4)).heap.size := by
    have := hb1.size
    simp [World.setCell]; omega
  have hR1 : (w1.setCell ⟨w.heap.size, 1, none⟩ (.slice a4 keep.length c4)).heap[w.heap.size + 1]? = some (.cells #[.int .i64 0, .slice none 0 0, .slice none 0 0, .slice none 0 0, .int .i64 0] 24 (0, 0)) :=
    (Below.heap_setCell w1 _ _ _ (fun e => by have : w.heap.size + 1 = w.heap.size := e; omega)).trans ((hb1.block _ (by omega)).trans HR0.out)
  have hN1 : NewI W0 (w1.setCell ⟨w.heap.size, 1, none⟩ (.slice a4 keep.length c4)) (.slice a4 keep.length c4) keep := HN1.out.poke (fun a n c e => by have := (HN1.out.2 a n c e).1; omega)
  obtain ⟨W1, hW1⟩ : ∃ W1, W1 = w1.setCell ⟨w.heap.size, 1, none⟩ (.slice a4 keep.length c4) := ⟨_, rfl⟩
  rw [← hW1] at hB1' k3 hbl1 hsz1 hR1 hN1
  have hcl2 := clone_new _ fail W1 (H2.out.same hbl1.size (fun a n c e _ => hbl1.block _ (B2.out a n c e))) l2
  have HW1 := hideP hW1
  have HB1 := hideP hB1'
  have HR1 := hideP hR1
  have HBL1 := hideP hbl1
  have HNN1 := hideP hN1
  rw [hW1] at k3
  clear hW1 hB1' hR1 hbl1 hN1 hB1 hb1 hcl HN1 HW0 HB0 HR0 HBL0
  go_wp2_with fail
  rw [← HW1.out]
  refine hcl2.mono ?_
  rintro e w2 ⟨a5, c5, rfl, HN2, hb2⟩
  clear k1 k2 k3
  have hB2 := (hb2.block w.heap.size (by omega)).trans HB1.out
  have k1 : w2.cell? ⟨w.heap.size, 2, none⟩ = some (.slice a2 n2 c2) := blk_cell hB2 rfl
  have k2 : w2.frozen? ⟨w.heap.size, 2, none⟩ = false := blk_free hB2
  have hB2' := blk_set (o := 2) hB2 (.slice a5 fail.length c5)
  have k3 : (w2.setCell ⟨w.heap.size, 2, none⟩ (.slice a5 fail.length c5)).cell? ⟨w.heap.size, 3, none⟩ = some (.slice a3 n3 c3) := blk_cell hB2' rfl
  have hbl2 : Below w.heap.size w (w2.setCell ⟨w.heap.size, 2, none⟩ (.slice a5 fail.length c5)) := (HBL1.out.trans (hb2.mono (by omega))).setCell (p := ⟨w.heap.size, 2, none⟩) (Nat.le_refl _) _
  have hsz2 : w.heap.size + 2 ≤ (w2.setCell ⟨w.heap.size, 2, none⟩ (.slice a5 fail.length c5)).heap.size := by
    have := hb2.size
    simp [World.setCell]; omega
  have hR2 : (w2.setCell ⟨w.heap.size, 2, none⟩ (.slice a5 fail.length c5)).heap[w.heap.size + 1]? = some (.cells #[.int .i64 0, .slice none 0 0, .slice none 0 0, .slice none 0 0, .int .i64 0] 24 (0, 0)) :=
    (Below.heap_setCell w2 _ _ _ (fun e => by have : w.heap.size + 1 = w.heap.size := e; omega)).trans ((hb2.block _ (by omega)).trans HR1.out)
  have hN1 : NewI W0 (w2.setCell ⟨w.heap.size, 2, none⟩ (.slice a5 fail.length c5)) (.slice a4 keep.length c4) keep := (HNN1.out.later hb2).poke (fun a n c e => by have := (HNN1.out.2 a n c e).1; omega)
  have hN2 : NewI W1 (w2.setCell ⟨w.heap.size, 2, none⟩ (.slice a5 fail.length c5)) (.slice a5 fail.length c5) fail := HN2.out.poke (fun a n c e => by have := (HN2.out.2 a n c e).1; omega)
  obtain ⟨W2, hW2⟩ : ∃ W2, W2 = w2.setCell ⟨w.heap.size, 2, none⟩ (.slice a5 fail.length c5) := ⟨_, rfl⟩
  rw [← hW2] at hB2' k3 hbl2 hsz2 hR2 hN1 hN2
  have hcl3 := clone_new _ full W2 (H3.out.same hbl2.size (fun a n c e _ => hbl2.block _ (B3.out a n c e))) l3
  have HW2 := hideP hW2
  have HB2 := hideP hB2'
  have HR2 := hideP hR2
  have HBL2 := hideP hbl2
  have HNM1 := hideP hN1
  have HNM2 := hideP hN2
  rw [hW2] at k3
  clear hW2 hB2' hR2 hbl2 hN1 hN2 hB2 hb2 hcl2 HN2 HB1 HR1 HBL1 HW1 HNN1
  go_wp2_with fail
  rw [← HW2.out]
  refine hcl3.mono ?_
  rintro e w3 ⟨a6, c6, rfl, HN3, hb3⟩
  clear k1 k2 k3
  have hB3 := (hb3.block w.heap.size (by omega)).trans HB2.out
  have k1 : w3.cell? ⟨w.heap.size, 3, none⟩ = some (.slice a3 n3 c3) := blk_cell hB3 rfl
  have k2 : w3.frozen? ⟨w.heap.size, 3, none⟩ = false := blk_free hB3
  have hB3' := blk_set (o := 3) hB3 (.slice a6 full.length c6)
  have hbl3 : Below w.heap.size w (w3.setCell ⟨w.heap.size, 3, none⟩ (.slice a6 full.length c6)) := (HBL2.out.trans (hb3.mono (by omega))).setCell (p := ⟨w.heap.size, 3, none⟩) (Nat.le_refl _) _
  have hR3 : (w3.setCell ⟨w.heap.size, 3, none⟩ (.slice a6 full.length c6)).heap[w.heap.size + 1]? = some (.cells #[.int .i64 0, .slice none 0 0, .slice none 0 0, .slice none 0 0, .int .i64 0] 24 (0, 0)) :=
    (Below.heap_setCell w3 _ _ _ (fun e => by have : w.heap.size + 1 = w.heap.size := e; omega)).trans ((hb3.block _ (by omega)).trans HR2.out)
  have hN1 : NewI W0 (w3.setCell ⟨w.heap.size, 3, none⟩ (.slice a6 full.length c6)) (.slice a4 keep.length c4) keep := (HNM1.out.later hb3).poke (fun a n c e => by have := (HNM1.out.2 a n c e).1; omega)
  have hN2 : NewI W1 (w3.setCell ⟨w.heap.size, 3, none⟩ (.slice a6 full.length c6)) (.slice a5 fail.length c5) fail := (HNM2.out.later hb3).poke (fun a n c e => by have := (HNM2.out.2 a n c e).1; omega)
  have hN3 : NewI W2 (w3.setCell ⟨w.heap.size, 3, none⟩ (.slice a6 full.length c6)) (.slice a6 full.length c6) full := HN3.out.poke (fun a n c e => by have := (HN3.out.2 a n c e).1; omega)
  have q0 : (w3.setCell ⟨w.heap.size, 3, none⟩ (.slice a6 full.length c6)).cell? ⟨w.heap.size, 0, none⟩ = some (.int .i64 crash) := blk_cell hB3' rfl
  have q1 : (w3.setCell ⟨w.heap.size, 3, none⟩ (.slice a6 full.length c6)).cell? ⟨w.heap.size, 1, none⟩ = some (.slice a4 keep.length c4) := blk_cell hB3' rfl
  have q2 : (w3.setCell ⟨w.heap.size, 3, none⟩ (.slice a6 full.length c6)).cell? ⟨w.heap.size, 2, none⟩ = some (.slice a5 fail.length c5) := blk_cell hB3' rfl
  have q3 : (w3.setCell ⟨w.heap.size, 3, none⟩ (.slice a6 full.length c6)).cell? ⟨w.heap.size, 3, none⟩ = some (.slice a6 full.length c6) := blk_cell hB3' rfl
  have q4 : (w3.setCell ⟨w.heap.size, 3, none⟩ (.slice a6 full.length c6)).cell? ⟨w.heap.size, 4, none⟩ = some (.int .i64 room) := blk_cell hB3' rfl
  have HQ : Hid (NewI W0 (w3.setCell ⟨w.heap.size, 3, none⟩ (.slice a6 full.length c6)) (.slice a4 keep.length c4) keep ∧ NewI W1 (w3.setCell ⟨w.heap.size, 3, none⟩ (.slice a6 full.length c6)) (.slice a5 fail.length c5) fail ∧ NewI W2 (w3.setCell ⟨w.heap.size, 3, none⟩ (.slice a6 full.length c6)) (.slice a6 full.length c6) full ∧
      (w3.setCell ⟨w.heap.size, 3, none⟩ (.slice a6 full.length c6)).heap[w.heap.size + 1]? = some (.cells #[.int .i64 0, .slice none 0 0, .slice none 0 0, .slice none 0 0, .int .i64 0] 24 (0, 0)) ∧ Below w.heap.size w (w3.setCell ⟨w.heap.size, 3, none⟩ (.slice a6 full.length c6))) := ⟨hN1, hN2, hN3, hR3, hbl3⟩
  have hr0 : ∀ o, o < 5 → (w3.setCell ⟨w.heap.size, 3, none⟩ (.slice a6 full.length c6)).cell? ⟨w.heap.size + 1, o, none⟩ = #[Value.int .i64 0, .slice none 0 0, .slice none 0 0, .slice none 0 0, .int .i64 0][o]? := fun o ho => by
    simp only [World.cell?, hR3]
    rfl
  have hr1 : ∀ o, (w3.setCell ⟨w.heap.size, 3, none⟩ (.slice a6 full.length c6)).frozen? ⟨w.heap.size + 1, o, none⟩ = false := fun o => blk_free hR3
  have p0 := hr0 0 (by decide)
  have p1 := hr0 1 (by decide)
  have p2 := hr0 2 (by decide)
  have p3 := hr0 3 (by decide)
  have p4 := hr0 4 (by decide)
  have f0 := hr1 0
  have f1 := hr1 1
  have f2 := hr1 2
  have f3 := hr1 3
  have f4 := hr1 4
  simp only [List.getElem?_toArray, List.getElem?_cons_zero, List.getElem?_cons_succ] at p0 p1 p2 p3 p4
  clear hr0 hr1 hN1 hN2 hN3 hR3 hbl3 hB3' hB3 hb3 hcl3 HN3 HB2 HR2 HBL2 HNM1 HNM2 HW2
  go_wp2
  obtain ⟨m1, m2, m3, m4, m5⟩ := HQ.out
  generalize w3.setCell ⟨w.heap.size, 3, none⟩ (.slice a6 full.length c6) = V3 at *
  have g := blk_set (o := 4) (blk_set (o := 3) (blk_set (o := 2) (blk_set (o := 1) (blk_set (o := 0) m4 (.int .i64 crash)) (.slice a4 keep.length c4)) (.slice a5 fail.length c5)) (.slice a6 full.length c6)) (.int .i64 room)
  have nN : ∀ (b : Nat) (v : Value) (l : List Int) (W V : World), w.heap.size + 2 ≤ W.heap.size → NewI W V v l → NewI w (((((V.setCell ⟨w.heap.size + 1, 0, none⟩ (.int .i64 crash)).setCell ⟨w.heap.size + 1, 1, none⟩ (.slice a4 keep.length c4)).setCell ⟨w.heap.size + 1, 2, none⟩ (.slice a5 fail.length c5)).setCell ⟨w.heap.size + 1, 3, none⟩ (.slice a6 full.length c6)).setCell ⟨w.heap.size + 1, 4, none⟩ (.int .i64 room)) v l := by
    intro b v l W V hW hN
    have hne : ∀ a n c, v = .slice (some a) n c → a.block ≠ w.heap.size + 1 := fun a n c e => by have := (hN.2 a n c e).1; omega
    have := ((((hN.poke (o := 0) (u := .int .i64 crash) hne).poke (o := 1) (u := .slice a4 keep.length c4) hne).poke (o := 2) (u := .slice a5 fail.length c5) hne).poke (o := 3) (u := .slice a6 full.length c6) hne).poke (o := 4) (u := .int .i64 room) hne
    exact ⟨this.1, fun a n c e => ⟨by have := (this.2 a n c e).1; omega, (this.2 a n c e).2⟩⟩
  have hbf := ((((m5.setCell (p := ⟨w.heap.size + 1, 0, none⟩) (by simp) (.int .i64 crash)).setCell (p := ⟨w.heap.size + 1, 1, none⟩) (by simp) (.slice a4 keep.length c4)).setCell (p := ⟨w.heap.size + 1, 2, none⟩) (by simp) (.slice a5 fail.length c5)).setCell (p := ⟨w.heap.size + 1, 3, none⟩) (by simp) (.slice a6 full.length c6)).setCell (p := ⟨w.heap.size + 1, 4, none⟩) (by simp) (.int .i64 room)
  have z1 := nN 0 _ _ W0 _ (by omega) m1
  have z2 := nN 0 _ _ W1 _ hsz1 m2
  have z3 := nN 0 _ _ W2 _ hsz2 m3
  clear nN m1 m2 m3 m4 m5 p0 p1 p2 p3 p4 f0 f1 f2 f3 f4 q0 q1 q2 q3 q4 HQ
  generalize ((((V3.setCell ⟨w.heap.size + 1, 0, none⟩ (.int .i64 crash)).setCell ⟨w.heap.size + 1, 1, none⟩ (.slice a4 keep.length c4)).setCell ⟨w.heap.size + 1, 2, none⟩ (.slice a5 fail.length c5)).setCell ⟨w.heap.size + 1, 3, none⟩ (.slice a6 full.length c6)).setCell ⟨w.heap.size + 1, 4, none⟩ (.int .i64 room) = V4 at *
  have c0 : V4.cell? ⟨w.heap.size + 1, 0, none⟩ = some (.int .i64 crash) := blk_cell g rfl
  have c1' : V4.cell? ⟨w.heap.size + 1, 1, none⟩ = some (.slice a4 keep.length c4) := blk_cell g rfl
  have c2' : V4.cell? ⟨w.heap.size + 1, 2, none⟩ = some (.slice a5 fail.length c5) := blk_cell g rfl
  have c3' : V4.cell? ⟨w.heap.size + 1, 3, none⟩ = some (.slice a6 full.length c6) := blk_cell g rfl
  have c4' : V4.cell? ⟨w.heap.size + 1, 4, none⟩ = some (.int .i64 room) := blk_cell g rfl
  refine bodyPost_ret (v := .agg #[.int .i64 crash, .slice a4 keep.length c4, .slice a5 fail.length c5, .slice a6 full.length c6, .int .i64 room]) (by simp [results, Try.results31, go_sem, c0, c1', c2', c3', c4']) rfl ⟨_, _, _, rfl, z1, z2, z3, hbf⟩

end Go.Proofs.Ytcceaokldphfgaa

namespace Go.Proofs.Ytcceaokldphfgaa
open Go.RowKit Go.Shelf

def noRole : Role := fun _ => none

def roleD (w w' : World) (D : Nat) : Role := fun k => if k < w.heap.size then none else if k = D then some (0, D) else if k < w'.heap.size then some (6, 0) else none

/-- A disk that has just been made. -/
theorem disk_made {w w' : World} {D : Nat} {s : DSt} (hb : Below w.heap.size w w') (hD : w.heap.size ≤ D) (hblk : w'.heap[D]? = some (.cells #[.bool true, .bool s.dead, .int .i64 s.crash, s.keepV, s.failV, s.fullV, .int .i64 s.room, .int .i64 s.ops, s.filesV] 51 (0, 0)))
    (h1 : NewI w w' s.keepV s.keep) (h2 : NewI w w' s.failV s.fail) (h3 : NewI w w' s.fullV s.full) (g1 : ∀ a n c, s.keepV = .slice (some a) n c → a.block ≠ D) (g2 : ∀ a n c, s.failV = .slice (some a) n c → a.block ≠ D) (g3 : ∀ a n c, s.fullV = .slice (some a) n c → a.block ≠ D)
    (l1 : s.keep.length * 8 ≤ 140737488351232) (l2 : s.fail.length * 8 ≤ 140737488351232) (l3 : s.full.length * 8 ≤ 140737488351232) (e1 : ∀ x ∈ s.keep, I64 x) (e2 : ∀ x ∈ s.fail, I64 x) (e3 : ∀ x ∈ s.full, I64 x)
    (hC : I64 s.crash) (hR : I64 s.room) (hO : s.ops = 0) (hfv : s.filesV = .slice none 0 0) (hfs : s.fs = []) :
    DiskOK w' (roleD w w' D) D s ∧ Stp noRole (roleD w w' D) w w' := by
  have hro : ∀ (v : Value) (l : List Int), NewI w w' v l → (∀ a n c, v = .slice (some a) n c → a.block ≠ D) → RoV (roleD w w' D) v := by
    intro v l hN hne a n c e
    have := hN.2 a n c e
    unfold roleD
    rw [if_neg (by omega), if_neg (hne a n c e), if_pos this.2]
  refine ⟨?_, ?_⟩
  · exact {
      rD := by unfold roleD; rw [if_neg (by omega), if_pos rfl]
      blk := hblk
      keep := ⟨h1.1, hro _ _ h1 g1, l1, e1⟩
      fail := ⟨h2.1, hro _ _ h2 g2, l2, e2⟩
      full := ⟨h3.1, hro _ _ h3 g3, l3, e3⟩
      files := by rw [hfv, hfs]; exact World.ownsRow_nil _ _ _ _
      rfiles := by rw [hfv]; intro g e; simp [Value.ownBlock] at e
      each := by rw [hfs]; intro f hf; simp at hf
      nodup := by rw [hfs]; simp
      sorted := by rw [hfs]; exact List.Pairwise.nil
      dom := by
        intro k q e
        unfold roleD at e
        split at e
        · cases e
        · split at e
          · rename_i hk
            rw [hk]
            exact (Array.getElem?_eq_some_iff.1 hblk).1
          · split at e
            · assumption
            · cases e
      few := by rw [hfs]; simp
      iC := hC
      iR := hR
      iO := by rw [hO]; omega
      nch := by rw [hfs, hO]; simp [nchs] }
  · exact ⟨hb.os, hb.tape, hb.output, hb.size, fun k hk => by unfold roleD noRole; rw [if_pos hk], fun k hk _ => hb.block k hk, fun k hk _ => hb.block k hk⟩

set_option maxHeartbeats 1000000 in
set_option maxRecDepth 100000 in
theorem new_any (crash room : Int) (keepV failV fullV : Value) (keep fail full : List Int) (w : World) (h1 : RdI w keepV keep) (h2 : RdI w failV fail) (h3 : RdI w fullV full)
    (l1 : keep.length * 8 ≤ 140737488351232) (l2 : fail.length * 8 ≤ 140737488351232) (l3 : full.length * 8 ≤ 140737488351232)
    (b1 : ∀ a n c, keepV = .slice (some a) n c → a.block < w.heap.size) (b2 : ∀ a n c, failV = .slice (some a) n c → a.block < w.heap.size) (b3 : ∀ a n c, fullV = .slice (some a) n c → a.block < w.heap.size)
    (e1 : ∀ x ∈ keep, I64 x) (e2 : ∀ x ∈ fail, I64 x) (e3 : ∀ x ∈ full, I64 x) (hC : I64 crash) (hR : I64 room) :
    Calls Try.prog 12 #[.agg #[.int .i64 crash, keepV, failV, fullV, .int .i64 room]] w fun r w' => ∃ D, r = .returned (.pointer (some ⟨D, 0, none⟩)) ∧ w.heap.size ≤ D ∧
      Hid (∃ role s, DiskOK w' role D s ∧ Stp noRole role w w' ∧ s.dead = false ∧ s.crash = crash ∧ s.room = room ∧ s.keep = keep ∧ s.fail = fail ∧ s.full = full ∧ s.ops = 0 ∧ s.fs = []) := by
  have hb0 : Below w.heap.size w (w.alloc (.cells #[.int .i64 crash, keepV, failV, fullV, .int .i64 room] 24)) := (Below.refl _ w).alloc (Nat.le_refl _) _
  have hcp := copyPlan_any crash room keepV failV fullV keep fail full (w.alloc (.cells #[.int .i64 crash, keepV, failV, fullV, .int .i64 room] 24)) (h1.same hb0.size (fun a n c e _ => hb0.block _ (b1 a n c e))) (h2.same hb0.size (fun a n c e _ => hb0.block _ (b2 a n c e))) (h3.same hb0.size (fun a n c e _ => hb0.block _ (b3 a n c e))) l1 l2 l3
    (fun a n c e => by have := b1 a n c e; simp; omega) (fun a n c e => by have := b2 a n c e; simp; omega) (fun a n c e => by have := b3 a n c e; simp; omega)
  have hcp2 : Calls Try.prog 31 #[.agg #[.int .i64 crash, keepV, failV, fullV, .int .i64 room]] (w.alloc (.cells #[.int .i64 crash, keepV, failV, fullV, .int .i64 room] 24)) fun e w' => ∃ v1 v2 v3, e = .returned (.agg #[.int .i64 crash, v1, v2, v3, .int .i64 room]) ∧
      Hid (w.heap.size ≤ w'.heap.size ∧ ∃ role s, DiskOK (w'.alloc (.cells #[.bool true, .bool false, .int .i64 crash, v1, v2, v3, .int .i64 room, .int .i64 0, .slice none 0 0] 51)) role w'.heap.size s ∧ Stp noRole role w (w'.alloc (.cells #[.bool true, .bool false, .int .i64 crash, v1, v2, v3, .int .i64 room, .int .i64 0, .slice none 0 0] 51)) ∧ s.dead = false ∧ s.crash = crash ∧ s.room = room ∧ s.keep = keep ∧ s.fail = fail ∧ s.full = full ∧ s.ops = 0 ∧ s.fs = []) := by
    refine hcp.mono ?_
    rintro e w' ⟨v1, v2, v3, rfl, n1, n2, n3, hb⟩
    have hbw : Below w.heap.size w w' := hb0.trans (hb.mono (by simp))
    have hb2 : Below w'.heap.size w' (w'.alloc (.cells #[.bool true, .bool false, .int .i64 crash, v1, v2, v3, .int .i64 room, .int .i64 0, .slice none 0 0] 51)) := (Below.refl _ w').alloc (Nat.le_refl _) _
    have hbw2 := hbw.trans (hb2.mono hbw.size)
    have hN : ∀ (v : Value) (l : List Int), NewI (w.alloc (.cells #[.int .i64 crash, keepV, failV, fullV, .int .i64 room] 24)) w' v l → NewI w (w'.alloc (.cells #[.bool true, .bool false, .int .i64 crash, v1, v2, v3, .int .i64 room, .int .i64 0, .slice none 0 0] 51)) v l ∧ (∀ a n c, v = .slice (some a) n c → a.block ≠ w'.heap.size) := by
      intro v l hN
      have hN2 := hN.later hb2
      exact ⟨⟨hN2.1, fun a n c e => ⟨by have := (hN2.2 a n c e).1; simp at this; omega, (hN2.2 a n c e).2⟩⟩, fun a n c e => by have := (hN.2 a n c e).2; omega⟩
    obtain ⟨m1, k1⟩ := hN _ _ n1
    obtain ⟨m2, k2⟩ := hN _ _ n2
    obtain ⟨m3, k3⟩ := hN _ _ n3
    obtain ⟨q1, q2⟩ := disk_made (D := w'.heap.size) (s := { dead := false, crash := crash, keepV := v1, failV := v2, fullV := v3, room := room, ops := 0, filesV := .slice none 0 0, keep := keep, fail := fail, full := full, fs := [] }) hbw2 hbw.size (World.alloc_heap_new w' _) m1 m2 m3 k1 k2 k3 l1 l2 l3 e1 e2 e3 hC hR rfl rfl rfl
    exact ⟨v1, v2, v3, rfl, hbw.size, _, _, q1, q2, rfl, rfl, rfl, rfl, rfl, rfl, rfl, rfl⟩
  have HC := hideP hcp2
  obtain ⟨a1, n1, c1, e1⟩ : ∃ a n c, keepV = .slice a n c := by rcases h1 with ⟨e, _⟩ | ⟨b, o, c, e, _⟩ <;> exact ⟨_, _, _, e⟩
  obtain ⟨a2, n2, c2, e2⟩ : ∃ a n c, failV = .slice a n c := by rcases h2 with ⟨e, _⟩ | ⟨b, o, c, e, _⟩ <;> exact ⟨_, _, _, e⟩
  obtain ⟨a3, n3, c3, e3⟩ : ∃ a n c, fullV = .slice a n c := by rcases h3 with ⟨e, _⟩ | ⟨b, o, c, e, _⟩ <;> exact ⟨_, _, _, e⟩
  subst e1 e2 e3
  clear hcp hcp2 h1 h2 h3 b1 b2 b3 hb0
  go_enter Try.func12, Try.ntmps12
  go_wp2_with fail
  refine HC.out.mono ?_
  rintro e w1 ⟨v1, v2, v3, rfl, HF⟩
  go_wp2
  go_ret
  exact ⟨_, rfl, HF.out.1, HF.out.2⟩

end Go.Proofs.Ytcceaokldphfgaa
