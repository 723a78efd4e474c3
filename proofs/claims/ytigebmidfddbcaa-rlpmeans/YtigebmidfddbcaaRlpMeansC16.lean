/-
  Items in memory that nobody else holds; texts and lists.
-/
import Derived.Deep.DeepAppendWide
import Derived.Deep.AppendLies
import Derived.Test.YtigebmidfddbcaaRlpMeansC14
import Derived.Test.YtigebmidfddbcaaRlpMeansC15
namespace Go.Proofs.Ytigebmidfddbcaa
open Go.RowKit Go.Shelf

/-- A world without its older blocks. -/
def cut (N : Nat) (w : World) : World := { w with heap := w.heap.mapIdx fun i o => if i < N then .deferred none else o }

theorem cut_cell {N : Nat} {w : World} {a : Addr} {v : Value} : (cut N w).cell? a = some v ↔ N ≤ a.block ∧ w.cell? a = some v := by
  unfold World.cell? cut
  simp only [Array.getElem?_mapIdx]
  cases h : w.heap[a.block]? with
  | none => simp
  | some o =>
    by_cases hl : a.block < N
    · simp [hl]
      intro h'
      omega
    · simp [hl, Nat.le_of_not_lt hl]

theorem cut_le {N M : Nat} {w : World} (h : N ≤ M) {a : Addr} {v : Value} (hc : (cut M w).cell? a = some v) : (cut N w).cell? a = some v := by
  obtain ⟨h1, h2⟩ := cut_cell.1 hc
  exact cut_cell.2 ⟨Nat.le_trans h h1, h2⟩

theorem BS.mono {w w' : World} (hc : ∀ a v, w.cell? a = some v → w'.cell? a = some v) {ao : Option Addr} {n c : Nat} {bs : Nat → Nat} (h : BS w ao n c bs) : BS w' ao n c bs :=
  ⟨h.lt, h.le, h.room, fun j hj => by
    obtain ⟨ad, e, hv⟩ := h.cell j hj
    exact ⟨ad, e, hc _ _ hv⟩, h.nil⟩

theorem BS.congr {w : World} {ao : Option Addr} {n c : Nat} {bs bs' : Nat → Nat} (h : BS w ao n c bs) (hl : ∀ j, bs' j < 256) (he : ∀ j, j < n → bs' j = bs j) : BS w ao n c bs' :=
  ⟨hl, h.le, h.room, fun j hj => by
    obtain ⟨ad, e, hv⟩ := h.cell j hj
    exact ⟨ad, e, by rw [he j hj]; exact hv⟩, h.nil⟩

theorem BS.cut {N : Nat} {w : World} {ao : Option Addr} {n c : Nat} {bs : Nat → Nat} (h : BS w ao n c bs) (ha : ∀ ad, ao = some ad → N ≤ ad.block) : BS (cut N w) ao n c bs :=
  ⟨h.lt, h.le, h.room, fun j hj => by
    obtain ⟨ad, e, hv⟩ := h.cell j hj
    exact ⟨ad, e, cut_cell.2 ⟨by rw [add_block]; exact ha ad e, hv⟩⟩, h.nil⟩

mutual
theorem IsItem.mono {w w' : World} (hc : ∀ a v, w.cell? a = some v → w'.cell? a = some v) : ∀ {t : Tree} {v : Value}, IsItem w t v → IsItem w' t v
  | .node l b k, v, h => by
    unfold IsItem at h ⊢
    obtain ⟨ao, c, ao', c', rfl, h1, h2, h3⟩ := h
    exact ⟨ao, c, ao', c', rfl, h1.mono hc, ⟨h2.le, h2.room, h2.at_⟩, IsKids.mono hc h3⟩

theorem IsKids.mono {w w' : World} (hc : ∀ a v, w.cell? a = some v → w'.cell? a = some v) : ∀ {ts : List Tree} {ao : Option Addr} {i : Nat}, IsKids w ts ao i → IsKids w' ts ao i
  | [], _, _, _ => by unfold IsKids; trivial
  | t :: ts, ao, i, h => by
    unfold IsKids at h ⊢
    obtain ⟨⟨g, v0, v1, v2, e, c0, c1, c2, hi⟩, hr⟩ := h
    exact ⟨⟨g, v0, v1, v2, e, hc _ _ c0, hc _ _ c1, hc _ _ c2, IsItem.mono hc hi⟩, IsKids.mono hc hr⟩

end

theorem IsItem.uncut {N : Nat} {w : World} {t : Tree} {v : Value} (h : IsItem (cut N w) t v) : IsItem w t v := h.mono fun _ _ hc => (cut_cell.1 hc).2

/-- What has the same cells from a place on. -/
theorem IsItem.same {N : Nat} {w w' : World} (hs : ∀ b, N ≤ b → b < w.heap.size → w'.heap[b]? = w.heap[b]?) {t : Tree} {v : Value} (h : IsItem (cut N w) t v) : IsItem (cut N w') t v :=
  h.mono fun a u hc => by
    obtain ⟨h1, h2⟩ := cut_cell.1 hc
    exact cut_cell.2 ⟨h1, by rw [cell_congr (hs _ h1 (World.block_lt_of_cell? w _ h2)), h2]⟩

/-- A list's bytes by their places, laid out. -/
def pay (bs : Nat → Nat) (n : Nat) : List Nat := (List.range n).map bs

theorem pay_length (bs : Nat → Nat) (n : Nat) : (pay bs n).length = n := by simp [pay]

theorem lb_pay {bs : Nat → Nat} {n j : Nat} (h : j < n) : lb (pay bs n) j = bs j := by
  unfold lb pay
  simp [h]

theorem lb_pay_lt {bs : Nat → Nat} (hl : ∀ j, bs j < 256) (n j : Nat) : lb (pay bs n) j < 256 := by
  unfold lb pay
  by_cases h : j < n
  · simp [h, hl]
  · simp [h]

theorem Own.same {N : Nat} {w w' : World} {v : Value} {n : Nat} {bs : Nat → Nat} (h : Own N w v n bs) (hs : ∀ b, N ≤ b → b < w.heap.size → w'.heap[b]? = w.heap[b]?) (hz : w.heap.size ≤ w'.heap.size) {M : Nat} (hM : M ≤ N) : Own M w' v n bs := by
  obtain ⟨ao, c, rfl, hB, hg⟩ := h.ex
  refine ⟨ao, c, rfl, ⟨hB.lt, hB.le, hB.room, fun j hj => ?_, hB.nil⟩, ?_⟩
  · obtain ⟨ad, e, hv⟩ := hB.cell j hj
    subst e
    rcases hg with h | ⟨g, e, h1, h2⟩
    · cases h
    · cases e
      exact ⟨_, rfl, by rw [cell_congr (w := w) (W := w') (a := (⟨g, 0, none⟩ : Addr).add j) (by rw [add_block]; exact hs _ h1 h2), hv]⟩
  · rcases hg with h | ⟨g, e, h1, h2⟩
    · exact Or.inl h
    · exact Or.inr ⟨g, e, by omega, by omega⟩

theorem Own.item {N : Nat} {w : World} {v : Value} {n : Nat} {bs : Nat → Nat} (h : Own N w v n bs) : IsItem (cut N w) (.node 0 (pay bs n) []) (.agg #[.int .i64 0, v, .slice none 0 0]) := by
  obtain ⟨ao, c, rfl, hB, hg⟩ := h.ex
  unfold IsItem
  refine ⟨ao, c, none, 0, by rw [pay_length]; rfl, ?_, ⟨Nat.le_refl _, Nat.zero_le _, Or.inl ⟨rfl, rfl⟩⟩, by unfold IsKids; trivial⟩
  rw [pay_length]
  refine (hB.cut ?_).congr (lb_pay_lt hB.lt n) (fun j hj => lb_pay hj)
  rintro ad rfl
  rcases hg with h | ⟨g, e, h1, _⟩
  · cases h
  · cases e; exact h1

set_option maxHeartbeats 1000000 in
set_option maxRecDepth 100000 in
theorem text_any {ao : Option Addr} {n c : Nat} {bs : Nat → Nat} (hn : n ≤ 140737488355328) (w : World) (h : BS w ao n c bs) :
    Calls Try.prog 40 #[.slice ao n c] w fun e w' => (∃ s, e = .returned (.agg #[.int .i64 0, s, .slice none 0 0]) ∧ Own w.heap.size w' s n bs) ∧ Below w.heap.size w w' := by
  have hb1 : Below w.heap.size w (w.alloc (.cells #[.int .i64 0, .slice none 0 0, .slice none 0 0] 26 (0, 0))) := (Below.refl _ w).alloc (Nat.le_refl _) _
  have HC := hideP (copyBytes_any hn _ (h.moved hb1))
  have HB := hideP hb1
  have hbx := heap_new w (.cells #[.int .i64 0, .slice none 0 0, .slice none 0 0] 26 (0, 0))
  have HBX := hideP hbx
  clear h hn hb1 hbx
  go_enter Try.func40, Try.ntmps40
  go_wp2_with fail
  refine HC.out.mono ?_
  rintro e w' ⟨⟨s, rfl, hO⟩, hb⟩
  have hbx' := (hb.block _ (by simp)).trans HBX.out
  obtain ⟨y0, y1, y2⟩ := cells3 hbx'
  have yf : ∀ o, w'.frozen? ⟨w.heap.size, o, none⟩ = false := fun o => blk_free hbx'
  have HO := hideP hO
  obtain ⟨ao', cap, rfl, _, _⟩ := hO.ex
  have HL : Hid (Below w.heap.size w w') := HB.out.trans (hb.mono (by simp))
  clear hb hO hbx'
  go_wp2_with fail
  refine bodyPost_ret (v := .agg #[.int .i64 0, .slice ao' n cap, .slice none 0 0]) (by simp [results, Try.results40, go_sem, y0, y1, y2, World.cell?_setCell_same]) rfl ⟨⟨_, rfl, HO.out.same (fun b hb _ => ?_) (by simp) (by simp)⟩, ?_⟩
  · have hb' : b ≠ w.heap.size := by
      rw [World.size_alloc] at hb
      omega
    repeat first | rfl | (refine (Below.heap_setCell _ _ _ _ hb').trans ?_)
  · repeat first | exact HL.out | (refine Below.setCell ?_ (by simp <;> omega) _)

set_option maxHeartbeats 1000000 in
set_option maxRecDepth 100000 in
theorem list_any (ao : Option Addr) (n c : Nat) (w : World) :
    Calls Try.prog 67 #[.slice ao n c] w fun e w' => e = .returned (.agg #[.int .i64 1, .slice none 0 0, .slice ao n c]) ∧ Below w.heap.size w w' := by
  go_enter Try.func67, Try.ntmps67
  go_wp2_with fail
  refine bodyPost_ret (v := .agg #[.int .i64 1, .slice none 0 0, .slice ao n c]) (by simp [results, Try.results67, go_sem]) rfl ⟨rfl, ?_⟩
  repeat first | exact Below.refl _ _ | (refine Below.alloc ?_ (by simp <;> omega) _) | (refine Below.setCell ?_ (by simp <;> omega) _)

/-- A world without its older blocks and without a row. -/
def cutR (N : Nat) (r : Option Nat) (w : World) : World := { w with heap := w.heap.mapIdx fun i o => if i < N ∨ r = some i then .deferred none else o }

theorem cutR_cell {N : Nat} {r : Option Nat} {w : World} {a : Addr} {v : Value} : (cutR N r w).cell? a = some v ↔ N ≤ a.block ∧ r ≠ some a.block ∧ w.cell? a = some v := by
  unfold World.cell? cutR
  simp only [Array.getElem?_mapIdx]
  cases h : w.heap[a.block]? with
  | none => simp
  | some o =>
    by_cases hl : a.block < N ∨ r = some a.block
    · simp [hl]
      intro h1 h2
      rcases hl with h | h
      · omega
      · exact absurd h h2
    · simp only [not_or, Nat.not_lt] at hl
      simp [hl.1, hl.2, Nat.not_lt.2 hl.1]

/-- Kids in a row of their own, which none of them is kept in. -/
def KR (N : Nat) (w : World) (kv : Value) (ks : List Tree) : Prop :=
  ∃ vs : List Value, w.ownsRow N 26 3 kv ks.length vs ∧ ∀ j t, ks[j]? = some t → ∃ v0 v1 v2, vs[j * 3]? = some v0 ∧ vs[j * 3 + 1]? = some v1 ∧ vs[j * 3 + 2]? = some v2 ∧ IsItem (cutR N kv.ownBlock w) t (.agg #[v0, v1, v2])

theorem KR.nil (N : Nat) (w : World) : KR N w (.slice none 0 0) [] := ⟨[], World.ownsRow_nil w N _ 3, fun j t h => by simp at h⟩

theorem KR.same {N : Nat} {w w' : World} {kv : Value} {ks : List Tree} (h : KR N w kv ks) (hs : ∀ b o, N ≤ b → w.heap[b]? = some o → o.isCells = true → w'.heap[b]? = some o) : KR N w' kv ks := by
  obtain ⟨vs, ⟨h1, h2⟩, h3⟩ := h
  refine ⟨vs, ⟨h1, ?_⟩, fun j t ht => ?_⟩
  · rcases h2 with h | ⟨g, cap, cur, rfl, hb, hg, rest⟩
    · exact Or.inl h
    · exact Or.inr ⟨g, cap, cur, rfl, hb, hs _ _ hb hg rfl, rest⟩
  · obtain ⟨v0, v1, v2, e0, e1, e2, hi⟩ := h3 j t ht
    refine ⟨v0, v1, v2, e0, e1, e2, hi.mono fun a u hc => ?_⟩
    obtain ⟨c1, c3, c2⟩ := cutR_cell.1 hc
    obtain ⟨o, ho, hoc⟩ := isCells_of_cell c2
    exact cutR_cell.2 ⟨c1, c3, by rw [cell_congr ((hs _ _ c1 ho hoc).trans ho.symm), c2]⟩

theorem KR.lt {N : Nat} {w : World} {kv : Value} {ks : List Tree} (h : KR N w kv ks) {g : Nat} (hg : kv.ownBlock = some g) : N ≤ g ∧ g < w.heap.size := by
  obtain ⟨vs, hO, _⟩ := h
  exact hO.lt g hg

theorem KR.len {N : Nat} {w : World} {kv : Value} {ks : List Tree} (h : KR N w kv ks) : ∃ ao c, kv = .slice ao ks.length c := by
  obtain ⟨vs, hO, _⟩ := h
  rcases hO.2 with ⟨rfl, h0⟩ | ⟨g, cap, cur, rfl, _⟩
  · rw [h0]; exact ⟨_, _, rfl⟩
  · exact ⟨_, _, rfl⟩

/-- The kids of a list. -/
theorem KR.kids {N : Nat} {w : World} {kv : Value} {ks : List Tree} (h : KR N w kv ks) : ∃ ao c, kv = .slice ao ks.length c ∧ KS (cut N w) ao ks.length c ∧ IsKids (cut N w) ks ao 0 := by
  obtain ⟨vs, hO, h3⟩ := h
  rcases hO.2 with ⟨rfl, h0⟩ | ⟨g, cap, cur, rfl, hb, hg, hle, hroom, hcs, htake⟩
  · obtain rfl := List.eq_nil_of_length_eq_zero h0
    exact ⟨none, 0, rfl, ⟨Nat.le_refl _, Nat.zero_le _, Or.inl ⟨rfl, rfl⟩⟩, by unfold IsKids; trivial⟩
  · have hcell : ∀ i u, vs[i]? = some u → (cut N w).cell? ⟨g, i, none⟩ = some u := fun i u hu => by
      refine cut_cell.2 ⟨hb, blk_cell hg ?_⟩
      rw [← htake] at hu
      have hlt : i < ks.length * 3 := by
        have := (List.getElem?_eq_some_iff.1 hu).1
        rw [List.length_take] at this
        omega
      rw [List.getElem?_take_of_lt hlt] at hu
      rw [← Array.getElem?_toList]
      exact hu
    refine ⟨_, cap, rfl, ⟨hle, hroom, Or.inr ⟨g, rfl⟩⟩, ?_⟩
    have hgo : ∀ (ts : List Tree) (i : Nat), (∀ j t, ts[j]? = some t → ks[i + j]? = some t) → IsKids (cut N w) ts (some ⟨g, 0, none⟩) i := by
      intro ts
      induction ts with
      | nil => intro i _; unfold IsKids; trivial
      | cons t ts ih =>
        intro i hi
        obtain ⟨v0, v1, v2, e0, e1, e2, hit⟩ := h3 i t (hi 0 t rfl)
        unfold IsKids
        exact ⟨⟨g, v0, v1, v2, rfl, hcell _ _ e0, hcell _ _ e1, hcell _ _ e2, hit.mono fun a u hc => cut_cell.2 ⟨(cutR_cell.1 hc).1, (cutR_cell.1 hc).2.2⟩⟩, ih (i + 1) fun j u hu => by
          rw [show i + 1 + j = i + (j + 1) by omega]
          exact hi (j + 1) u hu⟩
    exact hgo ks 0 fun j t ht => by rw [Nat.zero_add]; exact ht

theorem KR.item {N : Nat} {w : World} {kv : Value} {ks : List Tree} (h : KR N w kv ks) : IsItem (cut N w) (.node 1 [] ks) (.agg #[.int .i64 1, .slice none 0 0, kv]) := by
  obtain ⟨ao, c, rfl, h1, h2⟩ := h.kids
  unfold IsItem
  exact ⟨none, 0, ao, c, rfl, BS.empty _ _ _ (fun j => by simp [lb]), h1, h2⟩

/-- An item's words are one cell each. -/
theorem IsItem.one {w : World} {t : Tree} {v0 v1 v2 : Value} (h : IsItem w t (.agg #[v0, v1, v2])) : ∀ u ∈ [v0, v1, v2], u.oneCell' = true := by
  cases t with
  | node l b k =>
  obtain ⟨ao, c, ao', c', e, _⟩ := h.form
  cases e
  intro u hu
  simp only [List.mem_cons, List.not_mem_nil, or_false] at hu
  rcases hu with rfl | rfl | rfl <;> rfl

theorem Try.infoItem : (Try.prog.info? 26).map (fun i => (i.zero, i.size, i.bytes)) = some (some (.agg #[.int .i64 0, .slice none 0 0, .slice none 0 0]), 3, 56) := by kernel_rfl

theorem ok_slice_block {g g' n c n' c' : Nat} {w w' : World} (h : (Result.ok (Value.slice (some ⟨g, 0, none⟩) n c) w : Result Value) = .ok (.slice (some ⟨g', 0, none⟩) n' c') w') : g = g' := by
  cases h
  rfl

/-- One more kid. -/
theorem KR.append {N : Nat} {w : World} {kv : Value} {ks : List Tree} (h : KR N w kv ks) (hN : N ≤ w.heap.size) (hb : (ks.length + 1 + (ks.length + 1) / 4 + 192) * 56 ≤ 281474976710656) {t : Tree} {v0 v1 v2 : Value} (hi : IsItem (cutR N kv.ownBlock w) t (.agg #[v0, v1, v2]))
    (ad : Addr) (c ty : Nat) (h0 : w.cell? ad = some v0) (h1 : w.cell? (ad.add 1) = some v1) (h2 : w.cell? (ad.add 2) = some v2) :
    ∃ g cap w', (Builtin.append_ #[24, 24] ty #[kv, .slice (some ad) 1 c]).run Try.prog w = .ok (.slice (some ⟨g, 0, none⟩) (ks.length + 1) cap) w' ∧ KR N w' (.slice (some ⟨g, 0, none⟩) (ks.length + 1) cap) (ks ++ [t]) ∧
      w.grownBy w' kv.ownBlock ∧ (kv.ownBlock = some g ∨ g = w.heap.size) ∧ g < w'.heap.size ∧ Below N w w' := by
  obtain ⟨i0, hif, hz0, hz1, hz2⟩ := info_parts Try.infoItem
  have hT : Try.prog.underlying 24 = some (.slice 26) := by kernel_rfl
  obtain ⟨vs, hO, h3⟩ := h
  have hnews : ∀ j u, [v0, v1, v2][j]? = some u → w.cell? (ad.add j) = some u := by
    intro j u hu
    match j, hu with
    | 0, hu => cases hu; simpa [Addr.add] using h0
    | 1, hu => cases hu; exact h1
    | 2, hu => cases hu; exact h2
    | (j + 3), hu => simp at hu
  have hm : ks.length + 1 ≤ maxLen := by unfold maxLen; omega
  obtain ⟨v', w', hr, hO', hG, _⟩ := run_append_own_wide (P := Try.prog) w N 24 ty 26 i0 (.agg #[.int .i64 0, .slice none 0 0, .slice none 0 0]) 3 56 hT hif hz0 hz1 hz2 rfl (by omega) kv ks.length vs hO ad 1 c [v0, v1, v2] rfl hnews hi.one hm hb hN
  obtain ⟨g, cap, rfl, hgN, hgl⟩ := hO'.form (by omega)
  have hat : kv.ownBlock = some g ∨ g = w.heap.size := by
    rcases hO.2 with ⟨rfl, hn0⟩ | ⟨g0, cap0, cur, rfl, hb0, hg0, hle, hroom, hcs, htake⟩
    · right
      have hs : Src Try.prog i0.size 24 (.slice (some ad) 1 c) 1 [v0, v1, v2] w := Src.ofSlice w hT ad 1 c _ (by rw [hz1]; rfl) hnews hi.one
      have hr2 := run_append_grow_src (P := Try.prog) w 24 24 ty 26 i0 _ hT hif hz0 none 0 0 [] (run_firstCells_none w.drew i0.size 0 0 0) (.slice (some ad) 1 c) 1 _ hs (by omega) (by omega) (by rw [hz2]; decide)
      exact ok_slice_block (hr.symm.trans hr2)
    · by_cases hrm : ks.length + 1 ≤ cap0
      · left
        have hr2 := run_append_room (P := Try.prog) w 24 ty 26 i0 hT hif g0 ks.length cap0 cur hg0 ad 1 c [v0, v1, v2] (by rw [hz1]; rfl) hnews hi.one hrm (by rw [hz1, hcs]; simp only [List.length_cons, List.length_nil]; omega)
        rw [ok_slice_block (hr.symm.trans hr2)]; rfl
      · right
        have hs : Src Try.prog i0.size 24 (.slice (some ad) 1 c) 1 [v0, v1, v2] w := Src.ofSlice w hT ad 1 c _ (by rw [hz1]; rfl) hnews hi.one
        have hold : (Builtin.firstCells i0.size ks.length (.slice (some ⟨g0, 0, none⟩) ks.length cap0)).run Try.prog w.drew = .ok vs.toArray w.drew := by
          refine run_firstCells_some w.drew i0.size ks.length ⟨g0, 0, none⟩ ks.length cap0 vs (by rw [hz1]; exact hO.1) (fun j u hu => ?_)
          exact hO.cells rfl j u hu
        have hr2 := run_append_grow_src (P := Try.prog) w 24 24 ty 26 i0 _ hT hif hz0 (some ⟨g0, 0, none⟩) ks.length cap0 vs hold (.slice (some ad) 1 c) 1 _ hs (by omega) (by omega) (by rw [hz2]; exact growslice_fits_wide (by omega) hb)
        exact ok_slice_block (hr.symm.trans hr2)
  have hkeep : ∀ a u, (cutR N kv.ownBlock w).cell? a = some u → (cutR N (some g) w').cell? a = some u := by
    intro a u hc
    obtain ⟨c1, c2, c3⟩ := cutR_cell.1 hc
    have hlt := World.block_lt_of_cell? w _ c3
    refine cutR_cell.2 ⟨c1, fun e => ?_, by rw [hG.cell_far a hlt (fun e => c2 e.symm)]; exact c3⟩
    cases e
    rcases hat with e | e
    · exact c2 e
    · omega
  refine ⟨g, cap, w', hr, ⟨vs ++ [v0, v1, v2], by rw [List.length_append]; exact hO', fun j t' ht => ?_⟩, hG, hat, hgl, ?_⟩
  · have hvl := hO.1
    by_cases hj : j < ks.length
    · rw [List.getElem?_append_left hj] at ht
      obtain ⟨u0, u1, u2, e0, e1, e2, hit⟩ := h3 j t' ht
      exact ⟨u0, u1, u2, by rw [List.getElem?_append_left (by omega)]; exact e0, by rw [List.getElem?_append_left (by omega)]; exact e1, by rw [List.getElem?_append_left (by omega)]; exact e2, hit.mono hkeep⟩
    · have hjl : j = ks.length := by
        have := (List.getElem?_eq_some_iff.1 ht).1
        rw [List.length_append, List.length_cons, List.length_nil] at this
        omega
      subst hjl
      rw [List.getElem?_append_right (Nat.le_refl _), Nat.sub_self] at ht
      cases ht
      refine ⟨v0, v1, v2, ?_, ?_, ?_, hi.mono hkeep⟩
      · rw [List.getElem?_append_right (by omega), show ks.length * 3 - vs.length = 0 by omega]; rfl
      · rw [List.getElem?_append_right (by omega), show ks.length * 3 + 1 - vs.length = 1 by omega]; rfl
      · rw [List.getElem?_append_right (by omega), show ks.length * 3 + 2 - vs.length = 2 by omega]; rfl
  · exact (Below.refl _ w).grown hG hN (fun k hk => (hO.lt k hk).1)

end Go.Proofs.Ytigebmidfddbcaa
