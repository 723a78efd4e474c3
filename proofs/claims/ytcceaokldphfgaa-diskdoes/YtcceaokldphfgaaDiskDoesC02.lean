/- YtcceaokldphfgaaDiskDoesC02 -/
import Derived.Lib.AppendZerosOnto
import Derived.Test.YtcceaokldphfgaaDiskDoesC01
namespace Go.Proofs.Ytcceaokldphfgaa
open Go.RowKit

/-- The row of v was written or grown, v' lies in it or in new memory; nothing else has turned. -/
structure Grew (w w' : World) (v v' : Value) : Prop where
  by_ : w.grownBy w' v.ownBlock
  at_ : ∀ k, v'.ownBlock = some k → v.ownBlock = some k ∨ w.heap.size ≤ k

theorem add_block (a : Addr) (j : Nat) : (a.add j).block = a.block := by
  unfold Addr.add
  split <;> simp_all

/-- 'append' onto a row of the program's own: where the value lies behind it. -/
theorem app_run {P : Program} (w : World) (t ty e : TypeId) (i : TypeInfo) (z : Value) (bytes : Nat) (ht : P.underlying t = some (.slice e)) (hi : P.info? e = some i) (hz : i.zero = some z)
    (hsize : i.size = 1) (hby : i.bytes = bytes) (hzs : z.cells.size = 1)
    (v : Value) (n : Nat) (xs : List Value) (hown : w.ownsRow 0 e 1 v n xs)
    (a : Addr) (m c : Nat) (news : List Value) (hl : news.length = m) (hnews : ∀ j u, news[j]? = some u → w.cell? (a.add j) = some u) (h1 : ∀ u ∈ news, u.oneCell' = true)
    (h63 : n + m ≤ maxLen) (hbytes : (n + m) * bytes ≤ 140737488355328) :
    ∃ v' w', (Builtin.append_ #[t, t] ty #[v, .slice (some a) m c]).run P w = .ok v' w' ∧ w'.ownsRow 0 e 1 v' (n + m) (xs ++ news) ∧ Grew w w' v v' := by
  obtain ⟨v', w', hrun, h2, h3, h4⟩ := run_append_own (P := P) w 0 t ty e i z 1 bytes ht hi hz hsize hby hzs (by decide) v n xs hown a m c news (by simpa using hl) hnews h1 h63 hbytes (Nat.zero_le _)
  refine ⟨v', w', hrun, h2, h3, ?_⟩
  have hl' : news.length = m * i.size := by rw [hsize]; simpa using hl
  simp only [maxLen] at h63
  rcases hown.2 with ⟨rfl, rfl⟩ | ⟨g, cap, cur, rfl, hbg, hg, hnc, hcm, hcs, htake⟩
  · by_cases hm : m = 0
    · have := h4.2 ⟨rfl, hm⟩
      rw [this]
      intro k hk
      exact .inl hk
    · have hr := run_append_nil (P := P) w t ty e i z ht hi hz a m c news hl' hnews (by omega) (by omega) (by rw [hby]; rw [Nat.zero_add] at hbytes; omega)
      rw [hr] at hrun
      cases hrun
      intro k hk
      simp only [Value.ownBlock, Option.some.injEq] at hk
      exact .inr (by omega)
  · by_cases hroom : n + m ≤ cap
    · have hfit : n * i.size + news.length ≤ cur.size := by rw [hl, hcs, hsize]; omega
      have hr := run_append_room (P := P) w t ty e i ht hi g n cap cur hg a m c news hl' hnews h1 hroom hfit
      rw [hr] at hrun
      cases hrun
      intro k hk
      exact .inl hk
    · have holds : ∀ j u, xs[j]? = some u → w.cell? ((⟨g, 0, none⟩ : Addr).add j) = some u := hown.cells (g := g) rfl
      have hr := run_append_grow (P := P) w t ty e i z ht hi hz ⟨g, 0, none⟩ n cap xs (by rw [hsize]; exact hown.1) holds a m c news hl' hnews (by omega) (by omega) (growslice_fits (by omega) (by rw [hby]; exact hbytes))
      rw [hr] at hrun
      cases hrun
      intro k hk
      simp only [Value.ownBlock, Option.some.injEq] at hk
      exact .inr (by omega)

theorem zeroCells_one (z : Value) (n : Nat) : Builtin.zeroCells #[z] n = (List.replicate n z).toArray := by
  unfold Builtin.zeroCells
  apply Array.ext
  · simp
  · intro i h1 h2
    simp [Nat.mod_one]

/-- 'append(data, make([]byte, k)...)' onto a row of the program's own. -/
theorem zeros_run (w : World) (ty : TypeId) (v : Value) (n k : Nat) (xs : List Value) (hown : w.ownsRow 0 5 1 v n xs) (hb : n + k ≤ 140737488355328) :
    ∃ v' w', (Builtin.append_ #[33, 3] ty #[v, .int .i64 k]).run Try.prog w = .ok v' w' ∧ w'.ownsRow 0 5 1 v' (n + k) (xs ++ List.replicate k (.int .u8 0)) ∧ Grew w w' v v' := by
  obtain ⟨i0, hi, hz0, hz1, hz2⟩ := info_parts Try.info5
  have hlen : xs.length = n := by simpa using hown.1
  have grown : ∀ (old : Nat), ∀ (row : Option Nat),
      (w.drew.alloc (.cells (xs.toArray ++ Builtin.zeroCells #[.int .u8 0] k ++ Builtin.zeroCells #[.int .u8 0] (grownCap w (n + k) old 5 - (n + k))) 5)).ownsRow 0 5 1
        (.slice (some ⟨w.heap.size, 0, none⟩) (n + k) (grownCap w (n + k) old 5)) (n + k) (xs ++ List.replicate k (.int .u8 0)) ∧
      w.grownBy (w.drew.alloc (.cells (xs.toArray ++ Builtin.zeroCells #[.int .u8 0] k ++ Builtin.zeroCells #[.int .u8 0] (grownCap w (n + k) old 5 - (n + k))) 5)) row := by
    intro old row
    have hge := grownCap_ge w (n + k) old 5
    have hcm : grownCap w (n + k) old 5 ≤ maxLen := grownCap_le_maxLen w (n + k) old 5 (by unfold maxLen; omega)
    refine ⟨⟨by simp [hlen], .inr ⟨w.heap.size, _, _, rfl, Nat.zero_le _, heap_alloc_new w.drew _, hge, hcm, ?_, ?_⟩⟩, ⟨rfl, rfl, rfl, by simp, fun j hj _ => Below.heap_alloc w.drew _ j hj⟩⟩
    · simp [zeroCells_one, hlen]; omega
    · rw [zeroCells_one, zeroCells_one]
      simp only [Array.toList_append, Nat.mul_one]
      exact List.take_left' (by simp [hlen])
  rcases hown.2 with ⟨rfl, rfl⟩ | ⟨g, cap, cur, rfl, hbg, hg, hnc, hcm, hcs, htake⟩
  · have hx : xs = [] := List.eq_nil_of_length_eq_zero hlen
    subst hx
    by_cases hk : k = 0
    · subst hk
      refine ⟨.slice none 0 0, w, ?_, by simpa using World.ownsRow_nil w 0 5 1, World.grownBy.refl _ _, fun k hk => .inl hk⟩
      have hw : IntKind.i64.wrap 0 = 0 := by decide
      simp [Builtin.append_, run_underlying Try.underlying33, run_underlying Try.underlying3, sizeOf, typeInfo, hi, asInt, asIntOf, hw]
    · have hr := Lib.run_append_nil_zeros (P := Try.prog) w 33 3 ty 5 i0 (.int .u8 0) .i64 .i64 Try.underlying33 Try.underlying3 hi hz0 k (by omega) (by omega) (by omega) (by rw [hz2]; omega)
      have hgr := grown 0 (Value.ownBlock (.slice none 0 0))
      simp only [Nat.zero_add] at hgr
      refine ⟨_, _, hr, ?_, ?_⟩
      · simpa [Value.cells] using hgr.1
      · exact ⟨by simpa [Value.cells] using hgr.2, fun k hk => .inr (by simp only [Value.ownBlock, Option.some.injEq] at hk; omega)⟩
  · by_cases hroom : n + k ≤ cap
    · have hw : IntKind.i64.wrap (k : Int) = k := by rw [IntKind.wrap_i64]; omega
      have hneg : ¬ ((k : Int) < 0) := by omega
      have h48i : ¬ (281474976710656 < (k : Int) * (i0.bytes : Int)) := by rw [hz2]; omega
      have hst := run_storeCells_at Try.prog g (n * i0.size) 5 (List.replicate k (.int .u8 0)) 0 cur w hg (by rw [hz1, hcs]; simp; omega) (by intro u hu; rw [List.mem_replicate] at hu; rw [hu.2]; rfl)
      have hlr : (List.replicate k (Value.int .u8 0)).length = k := by simp
      refine ⟨.slice (some ⟨g, 0, none⟩) (n + k) cap, w.setRow g (cur.toList.take n ++ List.replicate k (Value.int .u8 0) ++ cur.toList.drop (n + k)).toArray, ?_, ?_, ?_⟩
      · rw [hz1] at hst
        simp only [Nat.mul_one, Nat.add_zero, hlr] at hst
        by_cases hk : k = 0
        · subst hk
          simp only [List.replicate_zero, List.append_nil] at hst ⊢
          simp [Builtin.append_, run_underlying Try.underlying33, run_underlying Try.underlying3, sizeOf, typeInfo, hi, asInt, asIntOf, hnc, show IntKind.i64.wrap 0 = 0 by decide, Addr.add_lit, storeCells]
          exact (setRow_self w g cur 5 (0, 0) hg).symm
        · have hks : ¬ k * i0.size = 0 := by rw [hz1]; omega
          simp [Builtin.append_, run_underlying Try.underlying33, run_underlying Try.underlying3, sizeOf, typeInfo, hi, hz0, hz1, zeroValue, asInt, asIntOf, hw, hneg, h48i, hk, hroom, Addr.add_lit, hst, Value.cells, zeroCells_one]
      · refine own_mk (cur := cur.toList.take n ++ List.replicate k (.int .u8 0) ++ cur.toList.drop (n + k)) (setRow_heap w g cur _ 5 _ hg) hbg hroom hcm ?_ ?_
        · have : cur.toList.length = cap := by simpa using hcs
          simp; omega
        · simp only [Nat.mul_one] at htake
          rw [htake]
          exact List.take_left' (by simp [hlen])
      · exact ⟨⟨rfl, rfl, rfl, by simp [World.setRow], fun j _ hj => setRow_other w g j _ (fun e => hj (by simp [Value.ownBlock, e]))⟩, fun k hk => .inl hk⟩
    · have holds : ∀ j u, xs[j]? = some u → w.cell? ((⟨g, 0, none⟩ : Addr).add j) = some u := hown.cells (g := g) rfl
      have hf := run_firstCells_some (P := Try.prog) w.drew 1 n ⟨g, 0, none⟩ n cap xs (by simpa using hlen) holds
      rw [← hz1] at hf
      have hr := Lib.run_append_grow_zeros (P := Try.prog) w 33 3 ty 5 i0 (.int .u8 0) .i64 .i64 Try.underlying33 Try.underlying3 hi hz0 (some ⟨g, 0, none⟩) n cap xs hf k (by omega) (by omega) (by omega) (by omega) (by rw [hz2]; omega) (by rw [hz2]; exact growslice_fits (by omega) (by omega))
      have hgr := grown cap (Value.ownBlock (.slice (some ⟨g, 0, none⟩) n cap))
      exact ⟨_, _, hr, by simpa [Value.cells] using hgr.1, by simpa [Value.cells] using hgr.2, fun k hk => .inr (by simp only [Value.ownBlock, Option.some.injEq] at hk; omega)⟩

theorem own_slice {w : World} {base e n : Nat} {v : Value} {xs : List Value} (h : w.ownsRow base e 1 v n xs) : ∃ a c, v = .slice a n c ∧ n ≤ c := by
  rcases h.2 with ⟨rfl, rfl⟩ | ⟨g, cap, cur, rfl, _, _, h, _⟩
  · exact ⟨_, _, rfl, Nat.le_refl _⟩
  · exact ⟨_, _, rfl, h⟩

set_option maxHeartbeats 400000 in
set_option maxRecDepth 100000 in
theorem lengthen_any (v : Value) (n long : Nat) (xs : List Value) (w : World) (hown : w.ownsRow 0 5 1 v n xs) (hn : n ≤ long) (hb : long ≤ 140737488355328) :
    Calls Try.prog 109 #[v, .int .i64 long] w fun e w' => ∃ v', e = .returned v' ∧ w'.ownsRow 0 5 1 v' long (xs ++ List.replicate (long - n) (.int .u8 0)) ∧ Grew w w' v v' := by
  obtain ⟨a, c, rfl, _⟩ := own_slice hown
  obtain ⟨v', w', hrun, hown', hgrow⟩ := zeros_run w 33 (.slice a n c) n (long - n) xs hown (by omega)
  rw [show n + (long - n) = long from by omega] at hown'
  rw [show ((long - n : Nat) : Int) = (long : Int) - (n : Int) from by omega] at hrun
  clear hown
  have HR : Hid ((Builtin.append_ #[33, 3] 33 #[.slice a n c, .int .i64 ((long : Int) - (n : Int))]).run Try.prog w = .ok v' w') := hrun
  clear hrun
  go_enter Try.func109, Try.ntmps109
  go_wp2_with (at_builtin; refine Lib.wpList_append_run _ rfl _ _ 33 3 rfl _ _ rfl rfl v' w' HR.out ?_)
  go_ret
  exact ⟨_, rfl, hown', hgrow⟩

/-- What a write does to bytes. -/
def applyW (at_ : Nat) (l xs : List UInt8) : List UInt8 := splice (xs ++ List.replicate (at_ + l.length - xs.length) 0) at_ l

theorem length_applyW (at_ : Nat) (l xs : List UInt8) : (applyW at_ l xs).length = max xs.length (at_ + l.length) := by
  unfold applyW
  rw [length_splice _ _ _ (by simp; omega)]
  simp; omega

theorem take_splice {α : Type} (L cs : List α) (off n : Nat) (h : off + cs.length ≤ n) (h2 : off ≤ L.length) : (splice L off cs).take n = splice (L.take n) off cs := by
  unfold splice
  apply List.ext_getElem?
  intro i
  simp only [List.getElem?_take, List.getElem?_append, List.getElem?_drop, List.length_take]
  repeat' split
  all_goals first
    | rfl
    | omega
    | (congr 1; omega)

theorem map_splice {α β : Type} (f : α → β) (L cs : List α) (off : Nat) : (splice L off cs).map f = splice (L.map f) off (cs.map f) := by
  simp [splice, List.map_take, List.map_drop]

set_option maxHeartbeats 400000 in
set_option maxRecDepth 100000 in
theorem applyW_long (v bv : Value) (at_ : Nat) (l xs : List UInt8) (w : World) (hown : w.ownsRow 0 5 1 v xs.length (xs.map byteV)) (hr : Rd w bv l) (hne : ∀ a n c, bv = .slice (some a) n c → v.ownBlock ≠ some a.block)
    (hle : at_ + l.length ≤ xs.length) (hb : xs.length ≤ 140737488355328) :
    Calls Try.prog 106 #[.agg #[.int .i64 at_, bv], v] w fun e w' => ∃ v', e = .returned v' ∧ w'.ownsRow 0 5 1 v' (applyW at_ l xs).length ((applyW at_ l xs).map byteV) ∧ Grew w w' v v' := by
  obtain ⟨a, c, rfl, _, hr⟩ := hr
  rcases hown.2 with ⟨rfl, h0⟩ | ⟨g, cap, cur, rfl, hbg, hg, hnc, hcm, hcs, htake⟩
  · have hx : xs = [] := List.eq_nil_of_length_eq_zero h0
    subst hx
    obtain rfl : at_ = 0 := by simp at hle; omega
    obtain rfl : l = [] := by simpa using hle
    have hrun := fun (w : World) => run_copy_none (P := Try.prog) w 33 33 3 5 none a 0 0 0 c Try.underlying33 Try.size5 rfl
    clear hr hne h0 hown
    go_enter Try.func106, Try.ntmps106
    go_wp2
    go_region
    go_wp2
    go_ret
    refine ⟨_, rfl, by simpa [applyW, splice] using World.ownsRow_nil _ 0 5 1, ?_, fun k hk => .inl hk⟩
    exact ⟨rfl, rfl, rfl, by simp, fun k hk _ => Below.heap_alloc w _ k hk⟩
  · have hgw : g < w.heap.size := (Array.getElem?_eq_some_iff.1 hg).1
    have hg1 : ((w.alloc (.cells #[.int .i64 at_, .slice a l.length c] 106)).drew).heap[g]? = some (.cells cur.toList.toArray 5 (0, 0)) := by
      rw [Array.toArray_toList]
      exact (Below.heap_alloc w _ g hgw).trans hg
    have hr1 : ∀ j x, l[j]? = some x → ∃ ad, a = some ad ∧ ((w.alloc (.cells #[.int .i64 at_, .slice a l.length c] 106)).drew).cell? (ad.add j) = some (byteV x) := by
      intro j x hx
      obtain ⟨ad, e, hc⟩ := hr j x hx
      exact ⟨ad, e, (World.grownBy_alloc w _ none).cell hc (by simp)⟩
    obtain ⟨w2, hrun, hg2, hgrow2⟩ := copy_run (P := Try.prog) ((w.alloc (.cells #[.int .i64 at_, .slice a l.length c] 106)).drew) 33 3 5 Try.underlying33 Try.size5
      (if cap = at_ then some ⟨g, 0, none⟩ else some ⟨g, at_, none⟩) a (xs.length - at_) (cap - at_) l.length c g at_ cur.toList 5 hg1 (l.map byteV) (by simp only [List.length_map, Nat.min_def]; split <;> omega)
      (fun h => ⟨by simp at h; rw [if_neg (by omega)], Rd.src hr1 h⟩) (by simp; omega) (byteV_one l)
    have e : (applyW at_ l xs).length = xs.length := by rw [length_applyW]; omega
    have hfin : w2.ownsRow 0 5 1 (.slice (some ⟨g, 0, none⟩) xs.length cap) (applyW at_ l xs).length ((applyW at_ l xs).map byteV) ∧ w.grownBy w2 (some g) := by
      refine ⟨?_, hgrow2.os, hgrow2.tape, hgrow2.output, Nat.le_trans (by simp) hgrow2.size, fun k hk hne => (hgrow2.block k (by simp; omega) hne).trans (Below.heap_alloc w _ k hk)⟩
      rw [e]
      refine own_mk hg2 hbg hnc hcm ?_ ?_
      · rw [length_splice _ _ _ (by simp; omega)]; simpa using hcs
      · rw [take_splice _ _ _ _ (by simpa using hle) (by simp; omega)]
        simp only [Nat.mul_one] at htake
        rw [htake]
        unfold applyW
        rw [map_splice, show at_ + l.length - xs.length = 0 from by omega]
        simp
    have HF : Hid (w2.ownsRow 0 5 1 (.slice (some ⟨g, 0, none⟩) xs.length cap) (applyW at_ l xs).length ((applyW at_ l xs).map byteV) ∧ w.grownBy w2 (some g)) := hfin
    clear hr hr1 hg1 hne htake hfin e hg2 hgrow2 hg hcs hown
    by_cases hca : cap = at_
    · subst hca
      simp only [if_true] at hrun
      rw [show xs.length - cap = 0 from by omega, Nat.sub_self] at hrun
      go_enter Try.func106, Try.ntmps106
      go_wp2
      go_region
      go_wp2
      go_ret
      exact ⟨_, rfl, HF.out.1, HF.out.2, fun k hk => .inl hk⟩
    · simp only [if_neg hca] at hrun
      go_enter Try.func106, Try.ntmps106
      go_wp2
      go_region
      go_wp2
      go_ret
      exact ⟨_, rfl, HF.out.1, HF.out.2, fun k hk => .inl hk⟩

set_option maxHeartbeats 400000 in
set_option maxRecDepth 100000 in
theorem applyW_short (v bv : Value) (at_ : Nat) (l xs : List UInt8) (w : World) (hown : w.ownsRow 0 5 1 v xs.length (xs.map byteV)) (hr : Rd w bv l) (hne : ∀ a n c, bv = .slice (some a) n c → v.ownBlock ≠ some a.block)
    (hlt : xs.length < at_ + l.length) (hb : at_ + l.length ≤ 140737488355328) :
    Calls Try.prog 106 #[.agg #[.int .i64 at_, bv], v] w fun e w' => ∃ v', e = .returned v' ∧ w'.ownsRow 0 5 1 v' (applyW at_ l xs).length ((applyW at_ l xs).map byteV) ∧ Grew w w' v v' := by
  obtain ⟨a, c, rfl, _, hr⟩ := hr
  obtain ⟨av, cv, rfl, hcv⟩ := own_slice hown
  have hlen := lengthen_any (.slice av xs.length cv) xs.length (at_ + l.length) (xs.map byteV) (w.alloc (.cells #[.int .i64 at_, .slice a l.length c] 106)) (hown.alloc _) (by omega) (by omega)
  rw [show ((at_ + l.length : Nat) : Int) = (at_ : Int) + (l.length : Int) from by omega] at hlen
  obtain ⟨W0, hW0⟩ : ∃ W0, W0 = w.alloc (.cells #[.int .i64 at_, .slice a l.length c] 106) := ⟨_, rfl⟩
  have hlen2 : Calls Try.prog 109 #[.slice av xs.length cv, .int .i64 ((at_ : Int) + (l.length : Int))] (w.alloc (.cells #[.int .i64 at_, .slice a l.length c] 106)) fun e w1 =>
      ∃ g cap w2, e = .returned (.slice (some ⟨g, 0, none⟩) (at_ + l.length) cap) ∧ at_ + l.length ≤ cap ∧ w1.cell? ⟨w.heap.size, 0, none⟩ = some (.int .i64 at_) ∧ w1.cell? ⟨w.heap.size, 1, none⟩ = some (.slice a l.length c) ∧
        (Builtin.copy_ #[33, 33] 3 #[.slice (if cap = at_ then some ⟨g, 0, none⟩ else some ⟨g, at_, none⟩) l.length (cap - at_), .slice a l.length c]).run Try.prog w1.drew = .ok (.int .i64 l.length) w2 ∧
        Hid (w2.ownsRow 0 5 1 (.slice (some ⟨g, 0, none⟩) (at_ + l.length) cap) (applyW at_ l xs).length ((applyW at_ l xs).map byteV) ∧ Grew w w2 (.slice av xs.length cv) (.slice (some ⟨g, 0, none⟩) (at_ + l.length) cap)) := by
    refine hlen.mono ?_
    rintro e w1 ⟨v', rfl, hown1, hgrow1⟩
    rw [← hW0] at hgrow1
    have hz : W0.heap.size = w.heap.size + 1 := by rw [hW0]; simp
    have hlt' : ∀ k, (Value.slice av xs.length cv).ownBlock = some k → k < w.heap.size := fun k hk => (hown.lt k hk).2
    have hg0 : w.grownBy W0 (Value.slice av xs.length cv).ownBlock := by rw [hW0]; exact World.grownBy_alloc w _ _
    rcases hown1.2 with ⟨_, h0⟩ | ⟨g, cap, cur, rfl, hbg, hg, hnc, hcm, hcs, htake⟩
    · omega
    have hr1 : ∀ j x, l[j]? = some x → ∃ ad, a = some ad ∧ w1.drew.cell? (ad.add j) = some (byteV x) := by
      intro j x hx
      obtain ⟨ad, e, hc⟩ := hr j x hx
      subst e
      refine ⟨ad, rfl, ?_⟩
      have hb1 : (ad.add j).block = ad.block := add_block ad j
      have hn1 := hne ad _ _ rfl
      have hc0 : W0.cell? (ad.add j) = some (byteV x) := hg0.cell hc (by rw [hb1]; exact fun e => hn1 e.symm)
      exact hgrow1.by_.cell hc0 (by rw [hb1]; exact fun e => hn1 e.symm)
    have hc0 : w1.cell? ⟨w.heap.size, 0, none⟩ = some (.int .i64 at_) := by
      refine hgrow1.by_.cell (by rw [hW0]; simp) (fun e => ?_)
      have := hlt' _ e.symm; simp at this
    have hc1 : w1.cell? ⟨w.heap.size, 1, none⟩ = some (.slice a l.length c) := by
      refine hgrow1.by_.cell (by rw [hW0]; simp) (fun e => ?_)
      have := hlt' _ e.symm; simp at this
    have hlx : cur.toList.take (at_ + l.length) = (xs ++ List.replicate (at_ + l.length - xs.length) 0).map byteV := by
      simp only [Nat.mul_one] at htake
      rw [htake]
      simp [byteV]
    obtain ⟨w2, hrun, hg2, hgrow2⟩ := copy_run (P := Try.prog) w1.drew 33 3 5 Try.underlying33 Try.size5
      (if cap = at_ then some ⟨g, 0, none⟩ else some ⟨g, at_, none⟩) a l.length (cap - at_) l.length c g at_ cur.toList 5 (by rw [Array.toArray_toList]; exact hg) (l.map byteV) (by simp only [List.length_map, Nat.min_def]; split <;> omega)
      (fun h => ⟨by simp at h; rw [if_neg (by omega)], Rd.src hr1 h⟩) (by simp; omega) (byteV_one l)
    refine ⟨g, cap, w2, rfl, hnc, hc0, hc1, by simpa [goInt] using hrun, ?_, ?_⟩
    · have e : (applyW at_ l xs).length = at_ + l.length := by rw [length_applyW]; omega
      rw [e]
      refine own_mk hg2 hbg hnc hcm ?_ ?_
      · rw [length_splice _ _ _ (by simp; omega)]; simpa using hcs
      · rw [take_splice _ _ _ _ (by simp) (by simp; omega), hlx]
        unfold applyW
        rw [map_splice]
    · have hgb : (Value.slice av xs.length cv).ownBlock = some g ∨ w.heap.size < g := by
        rcases hgrow1.at_ g rfl with h | h
        · exact .inl h
        · exact .inr (by omega)
      refine ⟨⟨hgrow2.os.trans (hgrow1.by_.os.trans hg0.os), hgrow2.tape.trans (hgrow1.by_.tape.trans hg0.tape), hgrow2.output.trans (hgrow1.by_.output.trans hg0.output), ?_, ?_⟩, ?_⟩
      · have h1 := hgrow1.by_.size
        have h2 := hgrow2.size
        have h3 : w1.drew.heap.size = w1.heap.size := rfl
        omega
      · intro k hk hne
        have h1 := hgrow1.by_.size
        have h3 : w1.drew.heap.size = w1.heap.size := rfl
        refine (hgrow2.block k (by omega) ?_).trans ((hgrow1.by_.block k (by omega) hne).trans (hg0.block k hk hne))
        intro e
        cases e
        rcases hgb with h | h
        · exact hne h.symm
        · omega
      · intro k hk
        simp only [Value.ownBlock, Option.some.injEq] at hk
        subst hk
        rcases hgb with h | h
        · exact .inl h
        · exact .inr (by omega)
  clear hlen hr hne hW0 hown
  go_enter Try.func106, Try.ntmps106
  go_wp2_with (go_at_call 109; refine hlen2.mono ?_; rintro e w1 ⟨g, cap, w2, rfl, hnc, hc0, hc1, hrun, HF⟩)
  go_region
  by_cases hca : cap = at_
  · simp only [if_pos hca]
    go_wp2
    go_ret
    exact ⟨_, rfl, HF.out⟩
  · simp only [if_neg hca]
    go_wp2
    go_ret
    exact ⟨_, rfl, HF.out⟩

end Go.Proofs.Ytcceaokldphfgaa
