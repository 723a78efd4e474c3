/- YtcceaokldphfgaaDiskDoesC49 -/
import Derived.Test.YtcceaokldphfgaaDiskDoesC45
import Derived.Test.YtcceaokldphfgaaDiskDoesC48
namespace Go.Proofs.Ytcceaokldphfgaa
open Go.RowKit Go.Shelf

theorem cells5 {V : World} {b t : Nat} {x0 x1 x2 x3 x4 : Value} (h : V.heap[b]? = some (.cells #[x0, x1, x2, x3, x4] t (0, 0))) : V.cell? ⟨b, 0, none⟩ = some x0 ∧ V.cell? ⟨b, 1, none⟩ = some x1 ∧ V.cell? ⟨b, 2, none⟩ = some x2 ∧ V.cell? ⟨b, 3, none⟩ = some x3 ∧ V.cell? ⟨b, 4, none⟩ = some x4 :=
  ⟨blk_cell h rfl, blk_cell h rfl, blk_cell h rfl, blk_cell h rfl, blk_cell h rfl⟩

theorem cells11 {V : World} {b t : Nat} {x0 x1 x2 x3 x4 x5 x6 x7 x8 x9 x10 : Value} (h : V.heap[b]? = some (.cells #[x0, x1, x2, x3, x4, x5, x6, x7, x8, x9, x10] t (0, 0))) : V.cell? ⟨b, 0, none⟩ = some x0 ∧ V.cell? ⟨b, 1, none⟩ = some x1 ∧ V.cell? ⟨b, 2, none⟩ = some x2 ∧ V.cell? ⟨b, 3, none⟩ = some x3 ∧ V.cell? ⟨b, 4, none⟩ = some x4 ∧ V.cell? ⟨b, 5, none⟩ = some x5 ∧ V.cell? ⟨b, 6, none⟩ = some x6 ∧ V.cell? ⟨b, 7, none⟩ = some x7 ∧ V.cell? ⟨b, 8, none⟩ = some x8 ∧ V.cell? ⟨b, 9, none⟩ = some x9 ∧ V.cell? ⟨b, 10, none⟩ = some x10 :=
  ⟨blk_cell h rfl, blk_cell h rfl, blk_cell h rfl, blk_cell h rfl, blk_cell h rfl, blk_cell h rfl, blk_cell h rfl, blk_cell h rfl, blk_cell h rfl, blk_cell h rfl, blk_cell h rfl⟩

theorem looks_any {w U WB : World} {H : Nat → Prop} {D M nn : Nat} {a : ASt} (h : PairD U WB H D M a a nn w) (hnn : nn ≤ 998) :
    Calls Try.prog 19 #[.pointer (some ⟨D, 0, none⟩), .pointer (some ⟨M, 0, none⟩)] w fun e w' => e = .returned (.bool true) ∧ Below w.heap.size w w' := by
  obtain ⟨⟨r1, s1, r2, rs, fv, kv, lv, uv, h1, rfl, h3, _⟩, e1, e2, e3, e4, e5, e6, e7⟩ := h
  exact callsIn_wide.1 (looks_in h1 h3 e3 e6 hnn 20 (by omega))

/-- Both disks are made. -/
theorem both_new {w W : World} {a1 a2 a3 : Option Addr} {c1 c2 c3 : Nat} {cr ro : Int} {keep fail full : List Int} {v1 v2 v3 : Value} {B : Nat} (hp : PlanAt w a1 a2 a3 c1 c2 c3 cr ro keep fail full) (hb : Below w.heap.size w W)
    (o1 : W.ownsRow B 3 1 v1 keep.length (keep.map (Value.int .i64))) (o2 : W.ownsRow B 3 1 v2 fail.length (fail.map (Value.int .i64))) (o3 : W.ownsRow B 3 1 v3 full.length (full.map (Value.int .i64))) :
    Calls Try.prog 12 #[.agg #[.int .i64 cr, v1, v2, v3, .int .i64 ro]] W fun r W4 => ∃ D, r = .returned (.pointer (some ⟨D, 0, none⟩)) ∧ (∀ k, k < W.heap.size → W4.heap[k]? = W.heap[k]?) ∧
      Hid (Calls Try.prog 13 #[planV a1 a2 a3 c1 c2 c3 cr ro keep fail full] W4 fun r W5 => ∃ M, r = .returned (.pointer (some ⟨M, 0, none⟩)) ∧ (∀ k, k < W.heap.size → W5.heap[k]? = W.heap[k]?) ∧ Hid (PairD W W (fun _ => False) D M (newS cr ro keep fail full) (newS cr ro keep fail full) 0 W5)) := by
  have hri : ∀ {v : Value} {l : List Int}, W.ownsRow B 3 1 v l.length (l.map (Value.int .i64)) → RdI W v l ∧ ∀ a n c, v = .slice (some a) n c → a.block < W.heap.size := fun {v l} ho => by
    refine ⟨RdI.of_own ho, fun a n c e => ?_⟩
    rcases ho.2 with ⟨e0, _⟩ | ⟨g, cap, cur, e0, _, hg, _⟩
    · rw [e0] at e; simp at e
    · rw [e0] at e
      simp only [Value.slice.injEq, Option.some.injEq] at e
      rw [← e.1]
      exact (Array.getElem?_eq_some_iff.1 hg).1
  obtain ⟨q1, p1⟩ := hri o1
  obtain ⟨q2, p2⟩ := hri o2
  obtain ⟨q3, p3⟩ := hri o3
  refine (new_any cr ro v1 v2 v3 keep fail full W q1 q2 q3 hp.lK hp.lF hp.lU p1 p2 p3 hp.iK hp.iF hp.iU hp.iC hp.iR).mono ?_
  rintro r W4 ⟨D, rfl, _, role, s, g1, g2, g3, g4, g5, g6, g7, g8, g9, g10⟩
  have hk4 : ∀ k, k < W.heap.size → W4.heap[k]? = W.heap[k]? := fun k hk => g2.keep k hk (.inl rfl)
  have hb4 : Below W.heap.size W W4 := ⟨g2.os, g2.tape, g2.output, g2.size, hk4⟩
  have hb04 := hb.trans (hb4.mono hb.size)
  refine ⟨D, rfl, hk4, ?_⟩
  refine (rnew_any (hp.later hb04)).mono ?_
  rintro r W5 ⟨M, rfl, HN⟩
  obtain ⟨r2, rs, fv, kv, lv, uv, d1, d2, d3⟩ := HN.out
  have hz4 := g2.size
  have habs : abs s = newS cr ro keep fail full := by simp [abs, newS, g3, g4, g5, g6, g7, g8, g9, g10]
  have hcoh : Coh (newS cr ro keep fail full) := ⟨fun f hf => by simp [newS] at hf, fun e => by simp [newS] at e⟩
  have hfew : FewA 0 (newS cr ro keep fail full) := ⟨by simp [newS], fun f hf => by simp [newS] at hf, ⟨by simp [newS], by simp [newS]⟩, by have := hp.lK; show keep.length ≤ _; omega, by have := hp.lF; show fail.length ≤ _; omega, by have := hp.lU; show full.length ≤ _; omega⟩
  refine ⟨M, rfl, fun k hk => (d2.block k (by omega)).trans (hk4 k hk), ⟨⟨role, s, r2, rs, fv, kv, lv, uv, g1.still d2, habs, d1, fun k q e => ?_, fun k q e => ?_, fun k e => ?_, fun k hk => hk.elim⟩, hb4.trans (d2.mono hz4), fun k hk => hk.elim, hcoh, hcoh, List.Pairwise.nil, hfew, hfew⟩⟩
  · have h9 := g1.dom k q e
    by_cases h0 : r2 k = 0
    · exact h0
    · have := d3 k h0; omega
  · rcases Nat.lt_or_ge k W.heap.size with hl | hl
    · have := g2.ext k hl
      rw [e] at this
      cases this
    · exact hl
  · have := d3 k e; omega

/-- One step of both. -/
theorem both_step {U wr : World} {D M n : Nat} {a : ASt} {p p1 p2 p3 : Option Addr} {c c1 c2 c3 : Nat} {o : AOp} (h : PairD U U (fun _ => False) D M a a n wr) (hn : n ≤ 900) (hop : OpAt U p p1 p2 p3 c c1 c2 c3 o) (ob : Obj) :
    Calls Try.prog 14 #[.pointer (some ⟨D, 0, none⟩), opV p p1 p2 p3 c c1 c2 c3 o] (wr.alloc ob).drew fun r w5 => r = .returned (.int .i64 (doA a o).2) ∧ w5.heap[wr.heap.size]? = some ob ∧
      Hid (Calls Try.prog 15 #[.pointer (some ⟨M, 0, none⟩), opV p p1 p2 p3 c c1 c2 c3 o] w5 fun r w6 => r = .returned (.int .i64 (doA a o).2) ∧ w6.heap[wr.heap.size]? = some ob ∧ w6.cell? ⟨M, 6, none⟩ = some (.int .i64 (doA a o).1.ops) ∧
        Hid (Calls Try.prog 16 #[.pointer (some ⟨D, 0, none⟩)] w6 fun r w' => r = .returned (.int .i64 (doA a o).1.ops) ∧ w6 = w') ∧ Hid (PairD U U (fun _ => False) D M (doA a o).1 (doA a o).1 (n + 1) w6)) := by
  have hba : Below wr.heap.size wr (wr.alloc ob).drew := ((Below.refl _ wr).alloc (Nat.le_refl _) ob).drew
  have hob : (wr.alloc ob).drew.heap[wr.heap.size]? = some ob := World.alloc_heap_new wr ob
  have hlt := (Array.getElem?_eq_some_iff.1 hob).1
  have hh := h.hold hba
  refine (hh.does (by omega) hop).mono ?_
  rintro r w5 ⟨rfl, HP⟩
  refine ⟨rfl, (HP.out.same _ ⟨Nat.le_refl _, hlt⟩).trans hob, ?_⟩
  refine (HP.out.model (by omega) hop).mono ?_
  rintro r w6 ⟨rfl, HQ⟩
  exact ⟨rfl, (HQ.out.same _ ⟨Nat.le_refl _, hlt⟩).trans hob, HQ.out.cell6, HQ.out.ops, HQ.out.drop (Nat.le_refl _)⟩

set_option maxHeartbeats 8000000 in
set_option maxRecDepth 100000 in
theorem does_any {w : World} {a1 a2 a3 : Option Addr} {c1 c2 c3 : Nat} {cr ro : Int} {keep fail full : List Int} {v : Value} {L : List AOp} (hp : PlanAt w a1 a2 a3 c1 c2 c3 cr ro keep fail full) (hL : OpsAt w v L) :
    Calls Try.prog 3 #[planV a1 a2 a3 c1 c2 c3 cr ro keep fail full, v] w fun r w' => r = .returned (.bool true) ∧ Below w.heap.size w w' := by
  have hboth := fun (W : World) (B : Nat) (v1 v2 v3 : Value) => both_new (w := w) (W := W) (B := B) (v1 := v1) (v2 := v2) (v3 := v3) hp
  unfold planV at hboth ⊢
  obtain ⟨av, cv, hv⟩ := hL.shape
  have htw := fun (W : World) (hb : Below w.heap.size w W) => planTwin_new W cr ro a1 a2 a3 c1 c2 c3 _ _ _ (hp.later hb).rK (hp.later hb).rF (hp.later hb).rU
  simp only [List.length_map] at htw
  generalize hn1 : keep.length = n1 at htw hboth ⊢
  generalize hn2 : fail.length = n2 at htw hboth ⊢
  generalize hn3 : full.length = n3 at htw hboth ⊢
  obtain ⟨W0, hW0⟩ : ∃ W0, W0 = w.alloc (.cells #[.int .i64 cr, .slice a1 n1 c1, .slice a2 n2 c2, .slice a3 n3 c3, .int .i64 ro] 24) := ⟨_, rfl⟩
  have hb0 : Below w.heap.size w W0 := by rw [hW0]; exact (Below.refl _ w).alloc (Nat.le_refl _) _
  have hB0 : W0.heap[w.heap.size]? = some (.cells #[.int .i64 cr, .slice a1 n1 c1, .slice a2 n2 c2, .slice a3 n3 c3, .int .i64 ro] 24 (0, 0)) := by rw [hW0]; exact World.alloc_heap_new w _
  have hz0 : w.heap.size < W0.heap.size := (Array.getElem?_eq_some_iff.1 hB0).1
  have haw := awake_any W0
  have HLL := hideP hL
  have HTW := hideP htw
  have HBO := hideP hboth
  have HW0 := hideP hW0
  have HB0 := hideP hB0
  have HBW0 := hideP hb0
  have HZ0 := hideP hz0
  have HN1 : Hid (n1 * 8 ≤ 140737488351232) := (by rw [← hn1]; exact hp.lK : n1 * 8 ≤ 140737488351232)
  clear hp hL hW0 hB0 hb0 hz0 hn1 hn2 hn3 htw hboth
  subst hv
  go_enter Try.func3, Try.ntmps3
  go_wp2_with fail
  rw [← HW0.out]
  refine haw.mono ?_
  rintro r W1 ⟨rfl, hb1⟩
  clear haw
  have HBW1 := hideP (HBW0.out.trans (hb1.mono (Nat.le_of_lt HZ0.out)))
  have HB1 := hideP ((hb1.block _ HZ0.out).trans HB0.out)
  have hfew := few_D W1 _ L (HLL.out.later HBW1.out)
  clear hb1
  go_wp2_with fail
  refine hfew.mono ?_
  rintro r W2 ⟨⟨b, rfl, hb60⟩, hbx⟩
  clear hfew
  have HBW2 := hideP (HBW1.out.trans (hbx.mono HBW1.out.size))
  have HB2 := hideP ((hbx.block _ (Array.getElem?_eq_some_iff.1 HB1.out).1).trans HB1.out)
  clear hbx
  cases b with
  | false =>
    go_wp2
    go_ret
    exact ⟨rfl, HBW2.out⟩
  | true =>
  have H60 := hideP (hb60 rfl)
  clear hb60
  obtain ⟨u0, u1, u2, u3, u4⟩ := cells5 HB2.out
  have HT2 := hideP (HTW.out W2 HBW2.out)
  clear HTW
  go_wp2_with fail
  refine HT2.out.mono ?_
  rintro r W3 ⟨v1, v2, v3, rfl, hb3, o1, o2, o3⟩
  clear u0 u1 u2 u3 u4 HT2
  obtain ⟨k1, e1, rfl⟩ := own_shape o1
  obtain ⟨k2, e2, rfl⟩ := own_shape o2
  obtain ⟨k3, e3, rfl⟩ := own_shape o3
  obtain ⟨W3b, hW3b⟩ : ∃ W3b, W3b = W3.alloc (.cells #[.int .i64 cr, .slice k1 n1 e1, .slice k2 n2 e2, .slice k3 n3 e3, .int .i64 ro] 24) := ⟨_, rfl⟩
  have hal : Below W3.heap.size W3 W3b := by rw [hW3b]; exact (Below.refl _ W3).alloc (Nat.le_refl _) _
  have hbox : W3b.heap[W3.heap.size]? = some (.cells #[.int .i64 cr, .slice k1 n1 e1, .slice k2 n2 e2, .slice k3 n3 e3, .int .i64 ro] 24 (0, 0)) := by rw [hW3b]; exact World.alloc_heap_new W3 _
  have hb3w : Below w.heap.size w W3b := (HBW2.out.trans (hb3.mono HBW2.out.size)).trans (hal.mono (Nat.le_trans HBW2.out.size hb3.size))
  have hB3 : W3b.heap[w.heap.size]? = some (.cells #[.int .i64 cr, .slice a1 n1 c1, .slice a2 n2 c2, .slice a3 n3 c3, .int .i64 ro] 24 (0, 0)) := (hal.block _ (by have := hb3.size; have := (Array.getElem?_eq_some_iff.1 HB2.out).1; omega)).trans ((hb3.block _ (Array.getElem?_eq_some_iff.1 HB2.out).1).trans HB2.out)
  have hdr : Below W3b.heap.size W3b W3b.drew := (Below.refl _ _).drew
  have HROW : Hid (W3b.drew.ownsRow W2.heap.size 3 1 (.slice k1 n1 e1) n1 (keep.map (Value.int .i64))) := own_below (own_below o1 hal) hdr
  have HN := hideP (HBO.out W3b.drew W2.heap.size _ _ _ (hb3w.trans (hdr.mono hb3w.size)) (own_below (own_below o1 hal) hdr) (own_below (own_below o2 hal) hdr) (own_below (own_below o3 hal) hdr))
  have HS6 : Hid (W3b.drew.heap[w.heap.size]? = some (.cells #[.int .i64 cr, .slice a1 n1 c1, .slice a2 n2 c2, .slice a3 n3 c3, .int .i64 ro] 24 (0, 0)) ∧ W3b.drew.heap[W3.heap.size]? = some (.cells #[.int .i64 cr, .slice k1 n1 e1, .slice k2 n2 e2, .slice k3 n3 e3, .int .i64 ro] 24 (0, 0))) := ⟨hB3, hbox⟩
  have HKS : Hid (∀ V : World, (∀ k, k < W3b.drew.heap.size → V.heap[k]? = W3b.drew.heap[k]?) → V.heap[w.heap.size]? = some (.cells #[.int .i64 cr, .slice a1 n1 c1, .slice a2 n2 c2, .slice a3 n3 c3, .int .i64 ro] 24 (0, 0)) ∧ V.heap[W3.heap.size]? = some (.cells #[.int .i64 cr, .slice k1 n1 e1, .slice k2 n2 e2, .slice k3 n3 e3, .int .i64 ro] 24 (0, 0))) := fun V hV => ⟨(hV _ (Array.getElem?_eq_some_iff.1 hB3).1).trans hB3, (hV _ (Array.getElem?_eq_some_iff.1 hbox).1).trans hbox⟩
  have HU0 : Hid (Below w.heap.size w W3b.drew ∧ W3b.drew.heap[W3.heap.size]? = some (.cells #[.int .i64 cr, .slice k1 n1 e1, .slice k2 n2 e2, .slice k3 n3 e3, .int .i64 ro] 24 (0, 0)) ∧ w.heap.size ≤ W2.heap.size) := ⟨hb3w.trans (hdr.mono hb3w.size), hbox, HBW2.out.size⟩
  have HW3 := hideP hW3b
  clear hb3 o1 o2 o3 hal hbox hb3w hB3 hdr hW3b HBO
  go_wp2
  rw [← HW3.out]
  refine wp_region_heldS (S := fun V => V.heap[w.heap.size]? = some (.cells #[.int .i64 cr, .slice a1 n1 c1, .slice a2 n2 c2, .slice a3 n3 c3, .int .i64 ro] 24 (0, 0)) ∧ V.heap[W3.heap.size]? = some (.cells #[.int .i64 cr, .slice k1 n1 e1, .slice k2 n2 e2, .slice k3 n3 e3, .int .i64 ro] 24 (0, 0))) (by kernel_rfl) HS6.out (fun hS => ?_)
  refine wpAnyH_takeL (i := 0) (v := ?_) rfl (by kernel_rfl) (by kernel_rfl) (by kernel_rfl) (fun _ _ _ h => h) (Or.inl ⟨by kernel_rfl, ?_⟩) hS ?_
  rotate_left
  · intro V hV
    obtain ⟨x0, x1, x2, x3, x4⟩ := cells5 hV.1
    obtain ⟨y0, y1, y2, y3, y4⟩ := cells5 hV.2
    go_simp
    (try with_reducible rfl)
  simp only [put_list, List.set_cons_succ, List.set_cons_zero]
  refine wpAnyH_takeL (i := 2) (v := ?_) rfl (by kernel_rfl) (by kernel_rfl) (by kernel_rfl) (fun _ _ _ h => h) (Or.inl ⟨by kernel_rfl, ?_⟩) hS ?_
  rotate_left
  · intro V hV
    obtain ⟨x0, x1, x2, x3, x4⟩ := cells5 hV.1
    obtain ⟨y0, y1, y2, y3, y4⟩ := cells5 hV.2
    go_simp
    (try with_reducible rfl)
  simp only [put_list, List.set_cons_succ, List.set_cons_zero]
  refine wpAnyH_ready (rs := [1]) (by kernel_rfl) (by simp) (AllReadyH.cons rfl (fun K hK => ?_) (AllReadyH.nil))
  go_simp
  refine HN.out.mono ?_
  rintro r W4 ⟨D, rfl, hk4, HN2⟩
  have hz4 := HKS.out W4 hk4
  refine hK.out _ _ (by (first | exact hS | exact hz4)) (fun hS => ?_)
  clear hK K
  refine wpAnyH_ready (rs := [3]) (by kernel_rfl) (by simp) (AllReadyH.cons rfl (fun K hK => ?_) (AllReadyH.nil))
  go_simp
  refine HN2.out.mono ?_
  rintro r W5 ⟨M, rfl, hk5, HPD⟩
  have hz4 := HKS.out W5 hk5
  refine hK.out _ _ (by (first | exact hS | exact hz4)) (fun hS => ?_)
  clear hK K
  refine wpAnyH_ready (rs := [4]) (by kernel_rfl) (by simp) (AllReadyH.cons rfl (fun K hK => ?_) (AllReadyH.nil))
  go_simp
  refine hK.out _ _ (by (first | exact hS | exact hz4)) (fun hS => ?_)
  clear hK K
  refine wpAnyH_ready (rs := [5]) (by kernel_rfl) (by simp) (AllReadyH.cons rfl (fun K hK => ?_) (AllReadyH.nil))
  go_simp
  refine hK.out _ _ (by (first | exact hS | exact hz4)) (fun hS => ?_)
  clear hK K
  refine wpAnyH_done (by kernel_rfl) ?_ _
  have HS5 := hideP hS
  clear hS hz4 hk4 hk5 HN HN2 HKS HS6
  obtain ⟨y0, y1, y2, y3, y4⟩ := cells5 HS5.out.2
  have hin0 : Hid (∃ U x, Below w.heap.size w U ∧ U.heap[W3.heap.size]? = some (.cells #[.int .i64 cr, .slice k1 n1 e1, .slice k2 n2 e2, .slice k3 n3 e3, .int .i64 ro] 24 (0, 0)) ∧ U.ownsRow W2.heap.size 3 1 (.slice k1 n1 e1) n1 x ∧ PairD U U (fun _ => False) D M (newS cr ro keep fail full) (newS cr ro keep fail full) 0 W5) := ⟨_, _, HU0.out.1, HU0.out.2.1, HROW.out, HPD.out⟩
  have HZ2 := hideP HU0.out.2.2
  clear HU0 HROW HPD HS5
  go_wp2
  clear y0 y1 y2 y3 y4
  go_loopw [8, 31] (fun _ i wr => ∃ j : Nat, j ≤ n1 ∧ i = .int .i64 j ∧ Hid (∃ U x, Below w.heap.size w U ∧ U.heap[W3.heap.size]? = some (.cells #[.int .i64 cr, .slice k1 n1 e1, .slice k2 n2 e2, .slice k3 n3 e3, .int .i64 ro] 24 (0, 0)) ∧ U.ownsRow W2.heap.size 3 1 (.slice k1 n1 e1) n1 x ∧ PairD U U (fun _ => False) D M (newS cr ro keep fail full) (newS cr ro keep fail full) 0 wr)) (fun _ i _ => n1 - (intOf i).toNat)
  case atStart => exact ⟨0, Nat.zero_le _, rfl, hin0⟩
  case round =>
    obtain ⟨j, hj, rfl, hin⟩ := hrel
    obtain ⟨U, x, hbU, hbox, hrow, hpr⟩ := hin.out
    clear hin0 hin
    by_cases hjl : j < n1
    · have hn18 := HN1.out
      have hjl' : (j : Int) < (n1 : Int) := by omega
      have hxl : x.length = n1 * 1 := hrow.1
      obtain ⟨g, cap, ek, hcp, hgl, cg, cf⟩ := own_cell hrow (k := j) (u := x[j]'(by omega)) (List.getElem?_eq_getElem _)
      have ek1 : k1 = some ⟨g, 0, none⟩ := by cases ek; rfl
      have hob : (Value.slice k1 n1 e1).ownBlock = some g := by rw [ek1]; rfl
      have hgU : g < U.heap.size := World.block_lt_of_cell? U _ cg
      have hgB : g ≠ W3.heap.size := fun e => by
        obtain ⟨cur, h9, _⟩ := own_block hrow hob
        rw [e, hbox] at h9
        simp at h9
      have y1 : wr.cell? ⟨W3.heap.size, 1, none⟩ = some (.slice k1 n1 e1) := (hpr.below.cell (p := ⟨W3.heap.size, 1, none⟩) (Array.getElem?_eq_some_iff.1 hbox).1).trans (cells5 hbox).2.1
      have y2 := (hpr.below.cell (p := ⟨g, j, none⟩) hgU).trans cg
      have y3 : wr.frozen? ⟨g, j, none⟩ = false := by
        obtain ⟨cur, h9, _⟩ := own_block hrow hob
        exact blk_free ((hpr.below.block g hgU).trans h9)
      have HNX : Hid (∃ U x, Below w.heap.size w U ∧ U.heap[W3.heap.size]? = some (.cells #[.int .i64 cr, .slice k1 n1 e1, .slice k2 n2 e2, .slice k3 n3 e3, .int .i64 ro] 24 (0, 0)) ∧ U.ownsRow W2.heap.size 3 1 (.slice k1 n1 e1) n1 x ∧ PairD U U (fun _ => False) D M (newS cr ro keep fail full) (newS cr ro keep fail full) 0 (wr.setCell ⟨g, j, none⟩ (.int .i64 7))) := by
        refine ⟨U.setCell ⟨g, j, none⟩ (.int .i64 7), x.set j (.int .i64 7), hbU.setCell (p := ⟨g, j, none⟩) ?_ _, (Below.heap_setCell _ _ _ _ (Ne.symm hgB)).trans hbox, ?_, hpr.write hgU _⟩
        · have := (hrow.lt g hob).1
          have := HZ2.out
          show w.heap.size ≤ g
          omega
        · have hrow' := hrow
          rw [ek1] at hrow' ⊢
          exact (hrow'.stored j (.int .i64 7)).1
      have t2 : IntKind.i64.wrap ((j : Int) + 1) = (j : Int) + 1 := by rw [IntKind.wrap_i64]; omega
      generalize x[j] = xj at *
      clear hbU hbox hrow hpr hgU hgB cg cf hxl ek hob
      subst ek1
      go_wp2
      go_roundw
      case rel => exact ⟨j + 1, by omega, by go_num, HNX⟩
      case measure => simp [intOf]; omega
    · have hjl' : ¬ (j : Int) < (n1 : Int) := by omega
      have HBU := hideP hbU
      have hin1 : Hid (∃ a, PairD U U (fun _ => False) D M a a 0 wr) := ⟨_, hpr⟩
      clear hbU hbox hrow hpr
      go_wp2
      go_loopw [11, 12, 13, 14, 41] (fun _ _ _ _ i wr => ∃ j : Nat, j ≤ L.length ∧ i = .int .i64 j ∧ Hid (∃ a, PairD U U (fun _ => False) D M a a j wr)) (fun _ _ _ _ i _ => L.length - (intOf i).toNat)
      case atStart => exact ⟨0, Nat.zero_le _, rfl, hin1⟩
      case round =>
        obtain ⟨j, hj, rfl, hin⟩ := hrel
        have h60 := H60.out
        obtain ⟨a, hpr⟩ := hin.out
        clear hin1 hin
        by_cases hjl : j < L.length
        · obtain ⟨blk, off, rfl, b0, b1, b2, b3, d0, d1, d2, d3, hop, hcell⟩ := (HLL.out.later HBU.out).at_ hjl
          have hup : ∀ (i : Nat) (u : Value), (opC b0 b1 b2 b3 d0 d1 d2 d3 L[j])[i]? = some u → wr.cell? ⟨blk, off + j * 11 + i, none⟩ = some u := fun i u hu => (hpr.below.cell (p := ⟨blk, off + j * 11 + i, none⟩) (World.block_lt_of_cell? U _ (hcell i u hu))).trans (hcell i u hu)
          have m0 := hup 0 _ rfl
          have m1 := hup 1 _ rfl
          have m2 := hup 2 _ rfl
          have m3 := hup 3 _ rfl
          have m4 := hup 4 _ rfl
          have m5 := hup 5 _ rfl
          have m6 := hup 6 _ rfl
          have m7 := hup 7 _ rfl
          have m8 := hup 8 _ rfl
          have m9 := hup 9 _ rfl
          have m10 := hup 10 _ rfl
          simp only [Nat.add_zero] at m0
          generalize L[j] = o at *
          have hst := both_step hpr (by omega) hop (.cells #[.int .i64 o.kind, .string o.name, .string o.to, .int .i64 o.at_, .int .i64 o.long, .slice b0 o.data.length d0, .int .i64 o.crash, .slice b1 o.keep.length d1, .slice b2 o.fail.length d2, .slice b3 o.full.length d3, .int .i64 o.room] 35 (0, 0))
          unfold opV at hst
          have HDO := hideP hst
          have HBX : Hid ((wr.alloc (.cells #[.int .i64 o.kind, .string o.name, .string o.to, .int .i64 o.at_, .int .i64 o.long, .slice b0 o.data.length d0, .int .i64 o.crash, .slice b1 o.keep.length d1, .slice b2 o.fail.length d2, .slice b3 o.full.length d3, .int .i64 o.room] 35)).drew.heap[wr.heap.size]? = some (.cells #[.int .i64 o.kind, .string o.name, .string o.to, .int .i64 o.at_, .int .i64 o.long, .slice b0 o.data.length d0, .int .i64 o.crash, .slice b1 o.keep.length d1, .slice b2 o.fail.length d2, .slice b3 o.full.length d3, .int .i64 o.room] 35 (0, 0))) := World.alloc_heap_new wr _
          have HIO : Hid (I64 o.at_ ∧ I64 o.long) := ⟨hop.iAt, hop.iLong⟩
          generalize hee : (doA a o).2 = e at *
          generalize hoo : (doA a o).1.ops = o6 at *
          have hne1 : (e != e) = false := by simp
          have hne2 : (o6 != o6) = false := by simp
          have t2 : IntKind.i64.wrap ((j : Int) + 1) = (j : Int) + 1 := by rw [IntKind.wrap_i64]; omega
          clear hcell hup hop hpr hst hee hoo
          go_wp2
          refine wp_region_heldS (S := fun V => V.heap[wr.heap.size]? = some (.cells #[.int .i64 o.kind, .string o.name, .string o.to, .int .i64 o.at_, .int .i64 o.long, .slice b0 o.data.length d0, .int .i64 o.crash, .slice b1 o.keep.length d1, .slice b2 o.fail.length d2, .slice b3 o.full.length d3, .int .i64 o.room] 35 (0, 0))) (by kernel_rfl) HBX.out (fun hS => ?_)
          refine wpAnyH_takeL (i := 0) (v := ?_) rfl (by kernel_rfl) (by kernel_rfl) (by kernel_rfl) (fun _ _ _ h => h) (Or.inl ⟨by kernel_rfl, ?_⟩) hS ?_
          rotate_left
          · intro V hV
            obtain ⟨x0, x1, x2, x3, x4, x5, x6, x7, x8, x9, x10⟩ := cells11 hV
            go_simp
            (try with_reducible rfl)
          simp only [put_list, List.set_cons_succ, List.set_cons_zero]
          refine wpAnyH_takeL (i := 1) (v := ?_) rfl (by kernel_rfl) (by kernel_rfl) (by kernel_rfl) (fun _ _ _ h => h) (Or.inl ⟨by kernel_rfl, ?_⟩) hS ?_
          rotate_left
          · intro V hV
            obtain ⟨x0, x1, x2, x3, x4, x5, x6, x7, x8, x9, x10⟩ := cells11 hV
            go_simp
            (try with_reducible rfl)
          simp only [put_list, List.set_cons_succ, List.set_cons_zero]
          refine wpAnyH_takeL (i := 3) (v := ?_) rfl (by kernel_rfl) (by kernel_rfl) (by kernel_rfl) (fun _ _ _ h => h) (Or.inl ⟨by kernel_rfl, ?_⟩) hS ?_
          rotate_left
          · intro V hV
            obtain ⟨x0, x1, x2, x3, x4, x5, x6, x7, x8, x9, x10⟩ := cells11 hV
            go_simp
            (try with_reducible rfl)
          simp only [put_list, List.set_cons_succ, List.set_cons_zero]
          refine wpAnyH_takeL (i := 4) (v := ?_) rfl (by kernel_rfl) (by kernel_rfl) (by kernel_rfl) (fun _ _ _ h => h) (Or.inl ⟨by kernel_rfl, ?_⟩) hS ?_
          rotate_left
          · intro V hV
            obtain ⟨x0, x1, x2, x3, x4, x5, x6, x7, x8, x9, x10⟩ := cells11 hV
            go_simp
            (try with_reducible rfl)
          simp only [put_list, List.set_cons_succ, List.set_cons_zero]
          refine wpAnyH_ready (rs := [2]) (by kernel_rfl) (by simp) (AllReadyH.cons rfl (fun K hK => ?_) (AllReadyH.nil))
          go_simp
          refine HDO.out.mono ?_
          rintro r w5 ⟨rfl, hk5, HMO⟩
          refine hK.out _ _ (by (first | exact hS | exact hk5 | exact hk6)) (fun hS => ?_)
          clear hK K
          refine wpAnyH_ready (rs := [5]) (by kernel_rfl) (by simp) (AllReadyH.cons rfl (fun K hK => ?_) (AllReadyH.nil))
          go_simp
          refine HMO.out.mono ?_
          rintro r w6 ⟨rfl, hk6, hc6, HOP, HPN⟩
          refine hK.out _ _ (by (first | exact hS | exact hk5 | exact hk6)) (fun hS => ?_)
          clear hK K
          refine wpAnyH_takeL (i := 6) (v := ?_) rfl (by kernel_rfl) (by kernel_rfl) (by kernel_rfl) (fun _ _ _ h => h) (Or.inl ⟨by kernel_rfl, ?_⟩) hS ?_
          rotate_left
          · intro V hV
            obtain ⟨x0, x1, x2, x3, x4, x5, x6, x7, x8, x9, x10⟩ := cells11 hV
            go_simp
            (try with_reducible rfl)
          simp only [put_list, List.set_cons_succ, List.set_cons_zero]
          refine wpAnyH_takeL (i := 7) (v := ?_) rfl (by kernel_rfl) (by kernel_rfl) (by kernel_rfl) (fun _ _ _ h => h) (Or.inl ⟨by kernel_rfl, ?_⟩) hS ?_
          rotate_left
          · intro V hV
            obtain ⟨x0, x1, x2, x3, x4, x5, x6, x7, x8, x9, x10⟩ := cells11 hV
            go_simp
            (try with_reducible rfl)
          simp only [put_list, List.set_cons_succ, List.set_cons_zero]
          refine wpAnyH_takeL (i := 8) (v := ?_) rfl (by kernel_rfl) (by kernel_rfl) (by kernel_rfl) (fun _ _ _ h => h) (Or.inl ⟨by kernel_rfl, ?_⟩) hS ?_
          rotate_left
          · intro V hV
            obtain ⟨x0, x1, x2, x3, x4, x5, x6, x7, x8, x9, x10⟩ := cells11 hV
            go_simp
            (try with_reducible rfl)
          simp only [put_list, List.set_cons_succ, List.set_cons_zero]
          refine wpAnyH_takeL (i := 10) (v := ?_) rfl (by kernel_rfl) (by kernel_rfl) (by kernel_rfl) (fun _ _ _ h => h) (Or.inl ⟨by kernel_rfl, ?_⟩) hS ?_
          rotate_left
          · intro V hV
            obtain ⟨x0, x1, x2, x3, x4, x5, x6, x7, x8, x9, x10⟩ := cells11 hV
            go_simp
            (try with_reducible rfl)
          simp only [put_list, List.set_cons_succ, List.set_cons_zero]
          refine wpAnyH_takeL (i := 11) (v := ?_) rfl (by kernel_rfl) (by kernel_rfl) (by kernel_rfl) (fun _ _ _ h => h) (Or.inl ⟨by kernel_rfl, ?_⟩) hS ?_
          rotate_left
          · intro V hV
            obtain ⟨x0, x1, x2, x3, x4, x5, x6, x7, x8, x9, x10⟩ := cells11 hV
            go_simp
            (try with_reducible rfl)
          simp only [put_list, List.set_cons_succ, List.set_cons_zero]
          refine wpAnyH_takeL (i := 12) (v := ?_) rfl (by kernel_rfl) (by kernel_rfl) (by kernel_rfl) (fun _ _ _ h => h) (Or.inl ⟨by kernel_rfl, ?_⟩) hS ?_
          rotate_left
          · intro V hV
            obtain ⟨x0, x1, x2, x3, x4, x5, x6, x7, x8, x9, x10⟩ := cells11 hV
            go_simp
            (try with_reducible rfl)
          simp only [put_list, List.set_cons_succ, List.set_cons_zero]
          refine wpAnyH_ready (rs := [9, 13]) (by kernel_rfl) (by simp) (AllReadyH.cons rfl (fun K hK => ?_) (AllReadyH.cons rfl (fun K hK => ?_) (AllReadyH.nil)))
          · go_simp
            refine HOP.out.mono ?_
            rintro r w7 ⟨rfl, rfl⟩
            refine hK.out _ _ (by (first | exact hS | exact hk5 | exact hk6)) (fun hS => ?_)
            clear hK K
            refine wpAnyH_ready (rs := [13]) (by kernel_rfl) (by simp) (AllReadyH.cons rfl (fun K hK => ?_) (AllReadyH.nil))
            go_simp
            refine hK.out _ _ (by (first | exact hS | exact hk5 | exact hk6)) (fun hS => ?_)
            clear hK K
            refine wpAnyH_takeL (i := 14) (v := ?_) rfl (by kernel_rfl) (by kernel_rfl) (by kernel_rfl) (fun _ _ _ h => h) (Or.inl ⟨by kernel_rfl, ?_⟩) hS ?_
            rotate_left
            · intro V hV
              obtain ⟨x0, x1, x2, x3, x4, x5, x6, x7, x8, x9, x10⟩ := cells11 hV
              go_simp
              (try with_reducible rfl)
            simp only [put_list, List.set_cons_succ, List.set_cons_zero]
            refine wpAnyH_takeL (i := 15) (v := ?_) rfl (by kernel_rfl) (by kernel_rfl) (by kernel_rfl) (fun _ _ _ h => h) (Or.inl ⟨by kernel_rfl, ?_⟩) hS ?_
            rotate_left
            · intro V hV
              obtain ⟨x0, x1, x2, x3, x4, x5, x6, x7, x8, x9, x10⟩ := cells11 hV
              go_simp
              (try with_reducible rfl)
            simp only [put_list, List.set_cons_succ, List.set_cons_zero]
            refine wpAnyH_done (by kernel_rfl) ?_ _
            have HB6 := hideP hS
            clear hS HOP HMO HDO hc6 HBX
            have HB17 := hideP (cells11 HB6.out)
            obtain ⟨x0, x1, x2, x3, x4, _⟩ := HB17.out
            by_cases hk8 : o.kind = 8
            · have qk : (o.kind == 8) = true := by simpa using hk8
              obtain ⟨i1, i2⟩ := HIO.out
              have hrd := HPN.out.reads o.name o.at_ o.long i1 i2
              have HR2 : Hid (∀ V, Below w6.heap.size w6 V → (V.cell? ⟨wr.heap.size, 1, none⟩ = some (.string o.name) ∧ V.cell? ⟨wr.heap.size, 3, none⟩ = some (.int .i64 o.at_) ∧ V.cell? ⟨wr.heap.size, 4, none⟩ = some (.int .i64 o.long)) ∧ Hid (Calls Try.prog 18 #[.pointer (some ⟨M, 0, none⟩), .string o.name, .int .i64 o.at_, .int .i64 o.long] V fun r w' => ∃ q m c, r = .returned (.tuple #[.slice q m c, .int .i64 (readA (doA a o).1 o.name o.at_ o.long).2]) ∧ Hid (Out V (readA (doA a o).1 o.name o.at_ o.long).1 (.slice q m c) w'))) := fun V hV => by
                have hbk := (hV.block _ (Array.getElem?_eq_some_iff.1 HB6.out).1).trans HB6.out
                obtain ⟨z0, z1, z2, z3, z4, _⟩ := cells11 hbk
                exact ⟨⟨z1, z3, z4⟩, (HPN.out.still hV).readsM (by omega) o.name o.at_ o.long i1 i2⟩
              have HPS : Hid (∀ V, Below w6.heap.size w6 V → ∃ a, PairD U U (fun _ => False) D M a a (j + 1) V) := fun V hV => ⟨_, HPN.out.still hV⟩
              obtain ⟨X, hX⟩ : ∃ X, X = readA (doA a o).1 o.name o.at_ o.long := ⟨_, rfl⟩
              rw [← hX] at hrd HR2
              have hse : ((⟨X.1.toArray⟩ : ByteArray).toList == (⟨X.1.toArray⟩ : ByteArray).toList) = true := by simp
              obtain ⟨X1, X2⟩ := X
              dsimp only at hrd HR2 hse
              clear HPN hX i1 i2 HB17 HB6
              go_wp2_with fail
              refine hrd.mono ?_
              rintro r V7 ⟨q7, m7, c7, rfl, HO7⟩
              clear hrd x0 x1 x2 x3 x4
              obtain ⟨⟨x1, x3, x4⟩, HRM⟩ := HR2.out V7 HO7.out.2
              go_wp2_with fail
              refine HRM.out.mono ?_
              rintro r V8 ⟨q8, m8, c8, rfl, HO8⟩
              have cv7 := conv_out (own_below HO7.out.1 HO8.out.2)
              have cv8 := conv_out HO8.out.1
              have HPF := hideP (HPS.out V8 (HO7.out.2.trans (HO8.out.2.mono HO7.out.2.size)))
              clear HRM HR2 HPS x1 x3 x4 HO7 HO8
              go_wp2
              go_roundw
              case rel => exact ⟨j + 1, by omega, by go_num, HPF⟩
              case measure => simp [intOf]; omega
            · have qk : (o.kind == 8) = false := by simpa using hk8
              have HPF : Hid (∃ a, PairD U U (fun _ => False) D M a a (j + 1) w6) := ⟨_, HPN.out⟩
              clear HPN HB17 HB6 HIO
              go_wp2
              go_roundw
              case rel => exact ⟨j + 1, by omega, by go_num, HPF⟩
              case measure => simp [intOf]; omega
          · go_simp
            refine hK.out _ _ (by (first | exact hS | exact hk5 | exact hk6)) (fun hS => ?_)
            clear hK K
            refine wpAnyH_ready (rs := [9]) (by kernel_rfl) (by simp) (AllReadyH.cons rfl (fun K hK => ?_) (AllReadyH.nil))
            go_simp
            refine HOP.out.mono ?_
            rintro r w7 ⟨rfl, rfl⟩
            refine hK.out _ _ (by (first | exact hS | exact hk5 | exact hk6)) (fun hS => ?_)
            clear hK K
            refine wpAnyH_takeL (i := 14) (v := ?_) rfl (by kernel_rfl) (by kernel_rfl) (by kernel_rfl) (fun _ _ _ h => h) (Or.inl ⟨by kernel_rfl, ?_⟩) hS ?_
            rotate_left
            · intro V hV
              obtain ⟨x0, x1, x2, x3, x4, x5, x6, x7, x8, x9, x10⟩ := cells11 hV
              go_simp
              (try with_reducible rfl)
            simp only [put_list, List.set_cons_succ, List.set_cons_zero]
            refine wpAnyH_takeL (i := 15) (v := ?_) rfl (by kernel_rfl) (by kernel_rfl) (by kernel_rfl) (fun _ _ _ h => h) (Or.inl ⟨by kernel_rfl, ?_⟩) hS ?_
            rotate_left
            · intro V hV
              obtain ⟨x0, x1, x2, x3, x4, x5, x6, x7, x8, x9, x10⟩ := cells11 hV
              go_simp
              (try with_reducible rfl)
            simp only [put_list, List.set_cons_succ, List.set_cons_zero]
            refine wpAnyH_done (by kernel_rfl) ?_ _
            have HB6 := hideP hS
            clear hS HOP HMO HDO hc6 HBX
            have HB17 := hideP (cells11 HB6.out)
            obtain ⟨x0, x1, x2, x3, x4, _⟩ := HB17.out
            by_cases hk8 : o.kind = 8
            · have qk : (o.kind == 8) = true := by simpa using hk8
              obtain ⟨i1, i2⟩ := HIO.out
              have hrd := HPN.out.reads o.name o.at_ o.long i1 i2
              have HR2 : Hid (∀ V, Below w6.heap.size w6 V → (V.cell? ⟨wr.heap.size, 1, none⟩ = some (.string o.name) ∧ V.cell? ⟨wr.heap.size, 3, none⟩ = some (.int .i64 o.at_) ∧ V.cell? ⟨wr.heap.size, 4, none⟩ = some (.int .i64 o.long)) ∧ Hid (Calls Try.prog 18 #[.pointer (some ⟨M, 0, none⟩), .string o.name, .int .i64 o.at_, .int .i64 o.long] V fun r w' => ∃ q m c, r = .returned (.tuple #[.slice q m c, .int .i64 (readA (doA a o).1 o.name o.at_ o.long).2]) ∧ Hid (Out V (readA (doA a o).1 o.name o.at_ o.long).1 (.slice q m c) w'))) := fun V hV => by
                have hbk := (hV.block _ (Array.getElem?_eq_some_iff.1 HB6.out).1).trans HB6.out
                obtain ⟨z0, z1, z2, z3, z4, _⟩ := cells11 hbk
                exact ⟨⟨z1, z3, z4⟩, (HPN.out.still hV).readsM (by omega) o.name o.at_ o.long i1 i2⟩
              have HPS : Hid (∀ V, Below w6.heap.size w6 V → ∃ a, PairD U U (fun _ => False) D M a a (j + 1) V) := fun V hV => ⟨_, HPN.out.still hV⟩
              obtain ⟨X, hX⟩ : ∃ X, X = readA (doA a o).1 o.name o.at_ o.long := ⟨_, rfl⟩
              rw [← hX] at hrd HR2
              have hse : ((⟨X.1.toArray⟩ : ByteArray).toList == (⟨X.1.toArray⟩ : ByteArray).toList) = true := by simp
              obtain ⟨X1, X2⟩ := X
              dsimp only at hrd HR2 hse
              clear HPN hX i1 i2 HB17 HB6
              go_wp2_with fail
              refine hrd.mono ?_
              rintro r V7 ⟨q7, m7, c7, rfl, HO7⟩
              clear hrd x0 x1 x2 x3 x4
              obtain ⟨⟨x1, x3, x4⟩, HRM⟩ := HR2.out V7 HO7.out.2
              go_wp2_with fail
              refine HRM.out.mono ?_
              rintro r V8 ⟨q8, m8, c8, rfl, HO8⟩
              have cv7 := conv_out (own_below HO7.out.1 HO8.out.2)
              have cv8 := conv_out HO8.out.1
              have HPF := hideP (HPS.out V8 (HO7.out.2.trans (HO8.out.2.mono HO7.out.2.size)))
              clear HRM HR2 HPS x1 x3 x4 HO7 HO8
              go_wp2
              go_roundw
              case rel => exact ⟨j + 1, by omega, by go_num, HPF⟩
              case measure => simp [intOf]; omega
            · have qk : (o.kind == 8) = false := by simpa using hk8
              have HPF : Hid (∃ a, PairD U U (fun _ => False) D M a a (j + 1) w6) := ⟨_, HPN.out⟩
              clear HPN HB17 HB6 HIO
              go_wp2
              go_roundw
              case rel => exact ⟨j + 1, by omega, by go_num, HPF⟩
              case measure => simp [intOf]; omega
        · have hje : j = L.length := by omega
          subst hje
          have hlk := looks_any hpr (by omega)
          have HBR := hideP (HBU.out.trans (hpr.below.mono HBU.out.size))
          clear hpr hj hjl
          go_wp2_with fail
          refine hlk.mono ?_
          rintro r W9 ⟨rfl, hb9⟩
          clear hlk
          go_wp2
          go_ret
          exact ⟨rfl, HBR.out.trans (hb9.mono HBR.out.size)⟩

end Go.Proofs.Ytcceaokldphfgaa
