/- YtcceaokldphfgaaDiskDoesC12 -/
import Derived.Test.YtcceaokldphfgaaDiskDoesC11
namespace Go.Proofs.Ytcceaokldphfgaa
open Go.RowKit Go.Shelf

/-- The disk's own block is another; all else stands. -/
theorem DiskOK.newHead {w w' : World} {role : Role} {D : Nat} {s s' : DSt} (h : DiskOK w role D s) (ho : w'.os = w.os ∧ w'.tape = w.tape ∧ w'.output = w.output) (hz : w'.heap.size = w.heap.size) (hs : ∀ k, k ≠ D → w'.heap[k]? = w.heap[k]?)
    (hblk : w'.heap[D]? = some (.cells #[.bool true, .bool s'.dead, .int .i64 s'.crash, s'.keepV, s'.failV, s'.fullV, .int .i64 s'.room, .int .i64 s'.ops, s'.filesV] 51 (0, 0)))
    (p1 : PlanOK w role s'.keepV s'.keep) (p2 : PlanOK w role s'.failV s'.fail) (p3 : PlanOK w role s'.fullV s'.full) (e1 : s'.filesV = s.filesV) (e2 : s'.fs = s.fs) (hC : I64 s'.crash) (hR : I64 s'.room) (hO : 0 ≤ s'.ops ∧ s'.ops ≤ 1099511627776) (hN : (nchs s.fs : Int) ≤ s'.ops) :
    DiskOK w' role D s' ∧ Stp role role w w' := by
  have hne : ∀ k q, role k = some q → q ≠ (0, D) → k ≠ D := fun k q e hq e' => by subst e'; rw [h.rD] at e; cases e; exact hq rfl
  have h6 : ∀ k, role k = some (6, 0) → isC w k → w'.heap[k]? = w.heap[k]? := fun k e _ => hs k (hne k _ e (by simp))
  have hF : ∀ f ∈ s.fs, FileOK w' role f := fun f hf => (h.each f hf).kept (fun k hk _ => by
    rcases hk with ⟨i, hk⟩ | hk
    · refine hs k (hne k _ hk (fun e => ?_))
      simp only [Prod.mk.injEq] at e
      have h1 := (h.each f hf).rp
      rw [e.2, h.rD] at h1
      simp at h1
    · exact hs k (hne k _ hk (by simp))) (fun _ _ e => e)
  refine ⟨?_, ?_⟩
  · exact {
      rD := h.rD
      blk := hblk
      keep := p1.same (by omega) h6 (fun _ e => e)
      fail := p2.same (by omega) h6 (fun _ e => e)
      full := p3.same (by omega) h6 (fun _ e => e)
      files := by rw [e1, e2]; exact own_same h.files (fun k e _ => hs k (hne k _ (h.rfiles k e) (by simp)))
      rfiles := by rw [e1]; exact h.rfiles
      each := by rw [e2]; exact hF
      nodup := by rw [e2]; exact h.nodup
      sorted := by rw [e2]; exact h.sorted
      dom := fun k q e => by rw [hz]; exact h.dom k q e
      few := by rw [e2]; exact h.few
      iC := hC
      iR := hR
      iO := hO
      nch := by rw [e2]; exact hN }
  · refine ⟨ho.1, ho.2.1, ho.2.2, by omega, fun _ _ => rfl, fun k _ hn => hs k (fun e => ?_), fun k _ hn => hs k (fun e => hn ?_)⟩
    · subst e
      rw [h.rD] at hn
      simp at hn
    · subst e
      exact ⟨_, _, _, h.blk⟩

theorem PlanOK.of_new {w w' : World} {role : Role} {v : Value} {l : List Int} (h : NewI w w' v l) (hl : l.length * 8 ≤ 140737488351232) (he : ∀ x ∈ l, I64 x) : PlanOK w' (extR role w w' (6, 0)) v l :=
  ⟨h.1, fun a n c e => extR_new (h.2 a n c e).1 (h.2 a n c e).2, hl, he⟩

/-- A cell of the disk's own block is stored: the block, and all others. -/
theorem poke_facts (w : World) (D o : Nat) (v : Value) : (w.setCell ⟨D, o, none⟩ v).os = w.os ∧ (w.setCell ⟨D, o, none⟩ v).tape = w.tape ∧ (w.setCell ⟨D, o, none⟩ v).output = w.output ∧ (w.setCell ⟨D, o, none⟩ v).heap.size = w.heap.size ∧ ∀ k, k ≠ D → (w.setCell ⟨D, o, none⟩ v).heap[k]? = w.heap[k]? :=
  ⟨rfl, rfl, rfl, by simp [World.setCell], fun k hk => Below.heap_setCell w _ v k hk⟩

theorem six_facts (w : World) (D : Nat) (v2 v3 v4 v5 v6 v7 : Value) : ∃ W, W = (((((w.setCell ⟨D, 2, none⟩ v2).setCell ⟨D, 3, none⟩ v3).setCell ⟨D, 4, none⟩ v4).setCell ⟨D, 5, none⟩ v5).setCell ⟨D, 6, none⟩ v6).setCell ⟨D, 7, none⟩ v7 ∧
    (W.os = w.os ∧ W.tape = w.tape ∧ W.output = w.output) ∧ W.heap.size = w.heap.size ∧ (∀ k, k ≠ D → W.heap[k]? = w.heap[k]?) ∧
    ∀ c0 c1 d2 d3 d4 d5 d6 d7 c8 t, w.heap[D]? = some (.cells #[c0, c1, d2, d3, d4, d5, d6, d7, c8] t (0, 0)) → W.heap[D]? = some (.cells #[c0, c1, v2, v3, v4, v5, v6, v7, c8] t (0, 0)) := by
  refine ⟨_, rfl, ?_⟩
  generalize h2 : w.setCell ⟨D, 2, none⟩ v2 = W2
  generalize h3 : W2.setCell ⟨D, 3, none⟩ v3 = W3
  generalize h4 : W3.setCell ⟨D, 4, none⟩ v4 = W4
  generalize h5 : W4.setCell ⟨D, 5, none⟩ v5 = W5
  generalize h6 : W5.setCell ⟨D, 6, none⟩ v6 = W6
  generalize h7 : W6.setCell ⟨D, 7, none⟩ v7 = W7
  have f2 := poke_facts w D 2 v2
  have f3 := poke_facts W2 D 3 v3
  have f4 := poke_facts W3 D 4 v4
  have f5 := poke_facts W4 D 5 v5
  have f6 := poke_facts W5 D 6 v6
  have f7 := poke_facts W6 D 7 v7
  rw [h2] at f2
  rw [h3] at f3
  rw [h4] at f4
  rw [h5] at f5
  rw [h6] at f6
  rw [h7] at f7
  refine ⟨⟨?_, ?_, ?_⟩, ?_, ?_, ?_⟩
  · rw [f7.1, f6.1, f5.1, f4.1, f3.1, f2.1]
  · rw [f7.2.1, f6.2.1, f5.2.1, f4.2.1, f3.2.1, f2.2.1]
  · rw [f7.2.2.1, f6.2.2.1, f5.2.2.1, f4.2.2.1, f3.2.2.1, f2.2.2.1]
  · rw [f7.2.2.2.1, f6.2.2.2.1, f5.2.2.2.1, f4.2.2.2.1, f3.2.2.2.1, f2.2.2.2.1]
  · intro k hk
    rw [f7.2.2.2.2 k hk, f6.2.2.2.2 k hk, f5.2.2.2.2 k hk, f4.2.2.2.2 k hk, f3.2.2.2.2 k hk, f2.2.2.2.2 k hk]
  · intro c0 c1 d2 d3 d4 d5 d6 d7 c8 t hb
    have b2 := blk_set (o := 2) hb v2
    rw [h2] at b2
    have b3 := blk_set (o := 3) b2 v3
    rw [h3] at b3
    have b4 := blk_set (o := 4) b3 v4
    rw [h4] at b4
    have b5 := blk_set (o := 5) b4 v5
    rw [h5] at b5
    have b6 := blk_set (o := 6) b5 v6
    rw [h6] at b6
    have b7 := blk_set (o := 7) b6 v7
    rw [h7] at b7
    exact b7

theorem start_done {w0 w : World} {role0 role : Role} {D : Nat} {s : DSt} {crash room : Int} {x1 x2 x3 : Value} {keep fail full : List Int} (h : DiskOK w role D { s with dead := false }) (hst : Stp role0 role w0 w) (hnc : nchs s.fs = 0) (p1 : PlanOK w role x1 keep) (p2 : PlanOK w role x2 fail) (p3 : PlanOK w role x3 full) (hC : I64 crash) (hR : I64 room) :
    ∃ role' s', DiskOK ((((((w.setCell ⟨D, 2, none⟩ (.int .i64 crash)).setCell ⟨D, 3, none⟩ x1).setCell ⟨D, 4, none⟩ x2).setCell ⟨D, 5, none⟩ x3).setCell ⟨D, 6, none⟩ (.int .i64 room)).setCell ⟨D, 7, none⟩ (.int .i64 0)) role' D s' ∧ Stp role0 role' w0 ((((((w.setCell ⟨D, 2, none⟩ (.int .i64 crash)).setCell ⟨D, 3, none⟩ x1).setCell ⟨D, 4, none⟩ x2).setCell ⟨D, 5, none⟩ x3).setCell ⟨D, 6, none⟩ (.int .i64 room)).setCell ⟨D, 7, none⟩ (.int .i64 0)) ∧
      s'.dead = false ∧ s'.crash = crash ∧ s'.room = room ∧ s'.keep = keep ∧ s'.fail = fail ∧ s'.full = full ∧ s'.ops = 0 ∧ s'.fs = s.fs := by
  obtain ⟨W, hW, ho, hz, hs, hb⟩ := six_facts w D (.int .i64 crash) x1 x2 x3 (.int .i64 room) (.int .i64 0)
  rw [← hW]
  obtain ⟨q1, q2⟩ := h.newHead (w' := W) (s' := { s with dead := false, crash := crash, keepV := x1, failV := x2, fullV := x3, room := room, ops := 0, keep := keep, fail := fail, full := full }) ho hz hs (hb _ _ _ _ _ _ _ _ _ _ h.blk) p1 p2 p3 rfl rfl hC hR (by simp) (by simp [hnc])
  exact ⟨_, _, q1, hst.trans q2, rfl, rfl, rfl, rfl, rfl, rfl, rfl, rfl⟩

set_option maxHeartbeats 1000000 in
set_option maxRecDepth 100000 in
/-- Start of a disk that has died. -/
theorem start_dead {w : World} {role : Role} {D : Nat} {s : DSt} (h : DiskOK w role D s) (hdd : s.dead = true) (hnc : nchs s.fs = 0) (crash room : Int) (keepV failV fullV : Value) (keep fail full : List Int) (h1 : RdI w keepV keep) (h2 : RdI w failV fail) (h3 : RdI w fullV full)
    (l1 : keep.length * 8 ≤ 140737488351232) (l2 : fail.length * 8 ≤ 140737488351232) (l3 : full.length * 8 ≤ 140737488351232)
    (b1 : ∀ a n c, keepV = .slice (some a) n c → a.block < w.heap.size ∧ a.block ≠ D) (b2 : ∀ a n c, failV = .slice (some a) n c → a.block < w.heap.size ∧ a.block ≠ D) (b3 : ∀ a n c, fullV = .slice (some a) n c → a.block < w.heap.size ∧ a.block ≠ D)
    (e1 : ∀ x ∈ keep, I64 x) (e2 : ∀ x ∈ fail, I64 x) (e3 : ∀ x ∈ full, I64 x) (hC : I64 crash) (hR : I64 room) :
    Calls Try.prog 27 #[.pointer (some ⟨D, 0, none⟩), .agg #[.int .i64 crash, keepV, failV, fullV, .int .i64 room]] w fun r w' => r = .returned (.int .i64 0) ∧
      ∃ role' s', DiskOK w' role' D s' ∧ Stp role role' w w' ∧ s'.dead = false ∧ s'.crash = crash ∧ s'.room = room ∧ s'.keep = keep ∧ s'.fail = fail ∧ s'.full = full ∧ s'.ops = 0 ∧ s'.fs = s.fs := by
  obtain ⟨a1, n1, c1, q1⟩ : ∃ a n c, keepV = .slice a n c := by rcases h1 with ⟨e, _⟩ | ⟨b, o, c, e, _⟩ <;> exact ⟨_, _, _, e⟩
  obtain ⟨a2, n2, c2, q2⟩ : ∃ a n c, failV = .slice a n c := by rcases h2 with ⟨e, _⟩ | ⟨b, o, c, e, _⟩ <;> exact ⟨_, _, _, e⟩
  obtain ⟨a3, n3, c3, q3⟩ : ∃ a n c, fullV = .slice a n c := by rcases h3 with ⟨e, _⟩ | ⟨b, o, c, e, _⟩ <;> exact ⟨_, _, _, e⟩
  subst q1 q2 q3
  obtain ⟨W0, hW0⟩ : ∃ W0, W0 = w.alloc (.cells #[.int .i64 crash, .slice a1 n1 c1, .slice a2 n2 c2, .slice a3 n3 c3, .int .i64 room] 24) := ⟨_, rfl⟩
  have hb0 : Below w.heap.size w W0 := by rw [hW0]; exact (Below.refl _ w).alloc (Nat.le_refl _) _
  have hbx : W0.heap[w.heap.size]? = some (.cells #[.int .i64 crash, .slice a1 n1 c1, .slice a2 n2 c2, .slice a3 n3 c3, .int .i64 room] 24 (0, 0)) := by rw [hW0]; exact World.alloc_heap_new w _
  have hd0 := h.still hb0
  obtain ⟨hd1, hs1⟩ := hd0.setHead (s' := { s with dead := false }) (o := 1) (v := .bool false) rfl ⟨rfl, rfl, rfl, rfl⟩ ⟨rfl, rfl, rfl, rfl⟩ h.iC h.iR h.iO h.nch
  have hDlt := h.dom _ _ h.rD
  obtain ⟨W1, hW1⟩ : ∃ W1, W1 = W0.setCell ⟨D, 1, none⟩ (.bool false) := ⟨_, rfl⟩
  rw [← hW1] at hd1 hs1
  have hz1 : W1.heap.size = w.heap.size + 1 := by rw [hW1, hW0]; simp [World.setCell]
  have hsame1 : ∀ k, k ≠ D → k < w.heap.size → W1.heap[k]? = w.heap[k]? := fun k hk hlt => by
    rw [hW1]
    exact (Below.heap_setCell W0 _ _ k hk).trans (hb0.block k hlt)
  have hbx1 : W1.heap[w.heap.size]? = some (.cells #[.int .i64 crash, .slice a1 n1 c1, .slice a2 n2 c2, .slice a3 n3 c3, .int .i64 room] 24 (0, 0)) := by
    rw [hW1]
    exact (Below.heap_setCell W0 _ _ _ (fun e => by have : w.heap.size = D := e; omega)).trans hbx
  have hcp := copyPlan_any crash room (.slice a1 n1 c1) (.slice a2 n2 c2) (.slice a3 n3 c3) keep fail full W1
    (h1.same (by omega) (fun a n c e _ => hsame1 _ (b1 a n c e).2 (b1 a n c e).1)) (h2.same (by omega) (fun a n c e _ => hsame1 _ (b2 a n c e).2 (b2 a n c e).1)) (h3.same (by omega) (fun a n c e _ => hsame1 _ (b3 a n c e).2 (b3 a n c e).1)) l1 l2 l3
    (fun a n c e => by have := (b1 a n c e).1; omega) (fun a n c e => by have := (b2 a n c e).1; omega) (fun a n c e => by have := (b3 a n c e).1; omega)
  have u0 : w.cell? ⟨D, 0, none⟩ = some (.bool true) := h.cells.1
  have u1 : w.cell? ⟨D, 1, none⟩ = some (.bool true) := by rw [← hdd]; exact h.cells.2.1
  have u2 : W0.cell? ⟨D, 1, none⟩ = some (.bool true) := by rw [← hdd]; exact hd0.cells.2.1
  have u3 : W0.frozen? ⟨D, 1, none⟩ = false := blk_free hd0.blk
  have v0 : W1.cell? ⟨w.heap.size, 0, none⟩ = some (.int .i64 crash) := blk_cell hbx1 rfl
  have v1 : W1.cell? ⟨w.heap.size, 1, none⟩ = some (.slice a1 n1 c1) := blk_cell hbx1 rfl
  have v2 : W1.cell? ⟨w.heap.size, 2, none⟩ = some (.slice a2 n2 c2) := blk_cell hbx1 rfl
  have v3 : W1.cell? ⟨w.heap.size, 3, none⟩ = some (.slice a3 n3 c3) := blk_cell hbx1 rfl
  have v4 : W1.cell? ⟨w.heap.size, 4, none⟩ = some (.int .i64 room) := blk_cell hbx1 rfl
  rw [hW1, hW0] at v0 v1 v2 v3 v4
  rw [hW0] at u2 u3
  have HW : Hid (W1 = (w.alloc (.cells #[.int .i64 crash, .slice a1 n1 c1, .slice a2 n2 c2, .slice a3 n3 c3, .int .i64 room] 24)).setCell ⟨D, 1, none⟩ (.bool false)) := by rw [← hW0]; exact hW1
  clear hW0 hW1
  have HD1 := hideP hd1
  have HST : Hid (Stp role role w W1) := (Stp.still hb0).trans hs1
  have HCP := hideP hcp
  clear h1 h2 h3 b1 b2 b3 h hd0 hd1 hs1 hb0 hbx hbx1 hcp hsame1 hdd
  have HW2 : Hid (W1 = (w.setCell ⟨D, 1, none⟩ (.bool false)).alloc (.cells #[.int .i64 crash, .slice a1 n1 c1, .slice a2 n2 c2, .slice a3 n3 c3, .int .i64 room] 24)) := by
    show W1 = _
    rw [HW.out]
    exact World.setCell_alloc_past _ _ _ _ hDlt
  go_enter Try.func27, Try.ntmps27
  go_wp2_with fail
  rw [← HW2.out]
  refine HCP.out.mono ?_
  rintro r w2 ⟨x1, x2, x3, rfl, n1', n2', n3', hb2⟩
  have hd2 := HD1.out.below hb2 (6, 0)
  have hb := hd2.blk
  have hDlt2 : D < w2.heap.size := (Array.getElem?_eq_some_iff.1 hb).1
  obtain ⟨y1, z1, t1, g1⟩ : ∃ a n c, x1 = .slice a n c := by rcases n1'.1 with ⟨e, _⟩ | ⟨b, o, c, e, _⟩ <;> exact ⟨_, _, _, e⟩
  obtain ⟨y2, z2, t2, g2⟩ : ∃ a n c, x2 = .slice a n c := by rcases n2'.1 with ⟨e, _⟩ | ⟨b, o, c, e, _⟩ <;> exact ⟨_, _, _, e⟩
  obtain ⟨y3, z3, t3, g3⟩ : ∃ a n c, x3 = .slice a n c := by rcases n3'.1 with ⟨e, _⟩ | ⟨b, o, c, e, _⟩ <;> exact ⟨_, _, _, e⟩
  subst g1 g2 g3
  have j2 : w2.cell? ⟨D, 2, none⟩ = some (.int .i64 s.crash) := blk_cell hb rfl
  have j3 : w2.cell? ⟨D, 3, none⟩ = some s.keepV := blk_cell hb rfl
  have j4 : w2.cell? ⟨D, 4, none⟩ = some s.failV := blk_cell hb rfl
  have j5 : w2.cell? ⟨D, 5, none⟩ = some s.fullV := blk_cell hb rfl
  have j6 : w2.cell? ⟨D, 6, none⟩ = some (.int .i64 s.room) := blk_cell hb rfl
  have j7 : w2.cell? ⟨D, 7, none⟩ = some (.int .i64 s.ops) := blk_cell hb rfl
  have i2 : w2.frozen? ⟨D, 2, none⟩ = false := blk_free hb
  have i3 : w2.frozen? ⟨D, 3, none⟩ = false := blk_free hb
  have i4 : w2.frozen? ⟨D, 4, none⟩ = false := blk_free hb
  have i5 : w2.frozen? ⟨D, 5, none⟩ = false := blk_free hb
  have i6 : w2.frozen? ⟨D, 6, none⟩ = false := blk_free hb
  have i7 : w2.frozen? ⟨D, 7, none⟩ = false := blk_free hb
  have hfin := start_done (crash := crash) (room := room) hd2 (HST.out.trans (Stp.ofBelow (6, 0) hb2)) hnc (PlanOK.of_new n1' l1 e1) (PlanOK.of_new n2' l2 e2) (PlanOK.of_new n3' l3 e3) hC hR
  have HF := hideP hfin
  clear hfin hb hd2 hb2 n1' n2' n3' u0 u1 u2 u3 v0 v1 v2 v3 v4
  go_wp2
  go_ret
  exact ⟨rfl, HF.out⟩

end Go.Proofs.Ytcceaokldphfgaa

namespace Go.Proofs.Ytcceaokldphfgaa
open Go.RowKit Go.Shelf

theorem Rd.cut {w : World} {g cap n : Nat} {l : List UInt8} (h : w.ownsRow 0 5 1 (.slice (some ⟨g, 0, none⟩) l.length cap) l.length (l.map byteV)) (hn : n ≤ l.length) : Rd w (.slice (some ⟨g, 0, none⟩) n cap) (l.take n) := by
  obtain ⟨a, c, e, _⟩ := own_slice h
  cases e
  exact (Rd.of_own h).take n hn

set_option maxHeartbeats 1000000 in
set_option maxRecDepth 100000 in
/-- Read from the beginning of a file that is there. -/
theorem read_head {w : World} {role : Role} {D : Nat} {s : DSt} {f : FRep} {t : ByteArray} {n : Nat} (h : DiskOK w role D s) (hd : s.dead = false) (hf : findF s.fs t = some f) (hm : f ∈ s.fs) (h0 : 0 < f.a.data.length) (hn : n ≤ f.a.data.length) :
    Calls Try.prog 17 #[.pointer (some ⟨D, 0, none⟩), .string t, .int .i64 0, .int .i64 n] w fun r w' => ∃ b, r = .returned (.tuple #[.slice (some ⟨b, 0, none⟩) n n, .int .i64 0]) ∧ w'.ownsRow w.heap.size 5 1 (.slice (some ⟨b, 0, none⟩) n n) n ((f.a.data.take n).map byteV) ∧ Below w.heap.size w w' := by
  have hl := look_live h hd t
  rw [hf] at hl
  simp only [fileV, ptrV, Option.isSome_some, if_true] at hl
  have hF := h.each f hm
  have hld := hF.ldata
  have hcd : w.cell? ⟨f.p, 3, none⟩ = some f.dataV := blk_cell hF.blk rfl
  rcases hF.odata.2 with ⟨_, e0⟩ | ⟨g, cap, cur, hv, _, _, hnc, hcm, _⟩
  · omega
  have hrd : Rd w (.slice (some ⟨g, 0, none⟩) n cap) (f.a.data.take n) := by
    have ho := hF.odata
    rw [hv] at ho
    exact Rd.cut ho hn
  have hcp := copyBytes_any _ _ w hrd (by simp; omega)
  have e : (f.a.data.take n).length = n := by simp; omega
  rw [e] at hcp
  rw [hv] at hcd
  simp only [maxLen] at hcm
  have hcap : ¬ cap = 0 := by omega
  have HL := hideP hl
  have HC := hideP hcp
  clear h hd hf hm hF hrd hl hcp e hv
  go_enter Try.func17, Try.ntmps17
  go_wp2_with fail
  refine HL.out.mono ?_
  rintro r w1 ⟨rfl, rfl⟩
  go_wp2_with fail
  refine HC.out.mono ?_
  rintro r w2 ⟨rfl, ho, hb⟩
  have HQ := hideP (And.intro ho hb)
  clear ho hb
  go_wp2
  go_ret2
  exact ⟨_, rfl, HQ.out⟩

set_option maxHeartbeats 400000 in
set_option maxRecDepth 100000 in
/-- Sync of a file that is not there. -/
theorem sync_none {w : World} {role : Role} {D : Nat} {s : DSt} {t : ByteArray} (h : DiskOK w role D s) (hd : s.dead = false) (ho : s.ops < 1099511627776) (hcr : s.ops + 1 ≠ s.crash) (hfa : ¬ s.ops + 1 ∈ s.fail) (hf : findF s.fs t = none) :
    Calls Try.prog 26 #[.pointer (some ⟨D, 0, none⟩), .string t] w fun r w' => r = .returned (.int .i64 13) ∧ ∃ role', DiskOK w' role' D (bump s) ∧ Stp role role' w w' := by
  have hb := beginOn_any h ho t
  have hb2 : Calls Try.prog 54 #[.pointer (some ⟨D, 0, none⟩), .string t] w fun r w' => r = .returned (.tuple #[.pointer none, .int .i64 13]) ∧ Hid (∃ role', DiskOK w' role' D (bump s) ∧ Stp role role' w w') := by
    refine hb.mono ?_
    rintro r w' ⟨role', s', v, e, rfl, h1, h2, h3⟩
    rcases h3 with ⟨e', hbr, hne, rfl, rfl⟩ | ⟨hbr, rfl, rfl⟩
    · rcases hbr with ⟨g, _⟩ | ⟨_, g, _⟩ | ⟨_, _, g, _⟩
      · rw [hd] at g; cases g
      · exact absurd g hcr
      · rw [if_neg hfa] at g; exact absurd g hne
    · obtain ⟨_, e⟩ := hbr.live
      subst e
      have : findF (bump s).fs t = none := hf
      rw [this]
      exact ⟨rfl, role', h1, h2⟩
  clear hb h hd ho hcr hfa hf
  go_enter Try.func26, Try.ntmps26
  go_wp2_with fail
  refine hb2.mono ?_
  rintro r w1 ⟨rfl, HF⟩
  go_wp2
  go_ret
  exact ⟨rfl, HF.out⟩

end Go.Proofs.Ytcceaokldphfgaa
