/-
  law's RlpMeans, walked.
-/
import Derived.Test.YtigebmidfddbcaaRlpMeansC35
import Derived.Test.YtigebmidfddbcaaRlpMeansC39
import Derived.Test.YtigebmidfddbcaaRlpMeansC41
import Derived.Test.YtigebmidfddbcaaRlpMeansC42
import Derived.Test.YtigebmidfddbcaaRlpMeansC43
import Derived.Test.YtigebmidfddbcaaRlpMeansC24
namespace Go.Proofs.Ytigebmidfddbcaa
open Go.RowKit Go.Shelf

theorem LItem.item {N : Nat} {w : World} {X : Nat} {v : Value} (h : LItem N w X v) : ∃ n, LB X n ∧ IsItem w (.node 0 (pay (lowB X n) n) []) v := by
  obtain ⟨g, o, n, c, rfl, hg, hn, hB⟩ := h.ex
  refine ⟨n, hn, ?_⟩
  unfold IsItem
  refine ⟨some ⟨g, o, none⟩, c, none, 0, by rw [pay_length]; rfl, ?_, ⟨Nat.le_refl _, Nat.zero_le _, Or.inl ⟨rfl, rfl⟩⟩, by unfold IsKids; trivial⟩
  rw [pay_length]
  exact hB.congr (lb_pay_lt hB.lt n) (fun j hj => lb_pay hj)

theorem same_eq {V : World} {t : Tree} {v1 v2 : Value} (h1 : IsItem V t v1) (h2 : IsItem V t v2) : Calls Try.prog 18 #[v1, v2] V fun e w' => e = .returned (.bool true) ∧ Below V.heap.size V w' := by
  refine (refSame_all _ _ _ _ _ _ (Nat.le_refl _) h1 h2).mono ?_
  rintro e w' ⟨⟨r, rfl, hr⟩, hb⟩
  exact ⟨by rw [hr.2 rfl], hb⟩

theorem rlpSame_eq {V : World} {t : Tree} {v1 v2 : Value} (h1 : IsItem V t v1) (h2 : IsItem V t v2) : Calls Try.prog 44 #[v1, v2] V fun e w' => e = .returned (.bool true) ∧ Below V.heap.size V w' := by
  refine (rlpSame_all _ _ _ _ _ _ (Nat.le_refl _) h1 h2).mono ?_
  rintro e w' ⟨⟨r, rfl, hr⟩, hb⟩
  exact ⟨by rw [hr.2 rfl], hb⟩

set_option maxHeartbeats 16000000 in
set_option maxRecDepth 100000 in
theorem rlpMeans_walk (X : Nat) (hX : X < 18446744073709551616) (Y : Nat) (_ : Y < M256) (lo : Int) (_ : -9223372036854775808 ≤ lo ∧ lo ≤ 9223372036854775807) (hi : Int) (_ : -9223372036854775808 ≤ hi ∧ hi ≤ 9223372036854775807) {ns : List Nd} {ao : Option Addr} {c : Nat} (w : World) (h : NS w ns ao c) (hok : NdOk ns) (hlen : ns.length ≤ 3518437208884) :
    Calls Try.prog 6 #[.slice ao ns.length c, .int .u64 X, wv Y, .int .i64 lo, .int .i64 hi] w fun e w' => e = .returned (.bool true) ∧ Below w.heap.size w w' := by
  obtain ⟨y0, y1, y2, y3, hy⟩ := wv_form Y
  have HC := hideP (fun (W : World) (hb : Below w.heap.size w W) => lawItem_any W (h.moved hb) hok hlen)
  have HF := hideP (treeOf_fits hok hlen)
  have HW := hideP (fun W => whole_any Y W)
  have HRW := hideP (fun W => refWhole_any Y W)
  simp only [hy] at HW HRW ⊢
  have HNU := hideP (fun W => number_any X hX W)
  have HRN := hideP (fun W => refNumber_any X hX W)
  clear h hok hlen hy
  generalize treeOf ns = t at *
  generalize ns.length = nn at *
  obtain ⟨W0, hW0⟩ : ∃ W0, W0 = w.alloc (.cells #[.int .u64 y0, .int .u64 y1, .int .u64 y2, .int .u64 y3] 59) := ⟨_, rfl⟩
  have hb0 : Below w.heap.size w W0 := by rw [hW0]; exact (Below.refl _ w).alloc (Nat.le_refl _) _
  have hx0 : W0.heap[w.heap.size]? = some (.cells #[.int .u64 y0, .int .u64 y1, .int .u64 y2, .int .u64 y3] 59 (0, 0)) := by rw [hW0]; exact heap_new w _
  have H0 := hideP (And.intro hb0 hx0)
  have HW0 := hideP hW0
  clear hb0 hx0 hW0
  go_enter Try.func6, Try.ntmps6
  go_wp2_with fail
  rw [← HW0.out]
  refine (HC.out _ H0.out.1).mono ?_
  rintro e W1 ⟨⟨v1, rfl, hi1⟩, hb1⟩
  cases t with
  | node l b k =>
  have hi1 := hi1.uncut
  obtain ⟨xa, xc, ka, kc, rfl, _, _, _⟩ := hi1.form
  obtain ⟨WB, hWB⟩ : ∃ WB, WB = W1.alloc (.cells #[.int .i64 l, .slice xa b.length xc, .slice ka k.length kc] 26) := ⟨_, rfl⟩
  have hbB : Below W1.heap.size W1 WB := by rw [hWB]; exact (Below.refl _ W1).alloc (Nat.le_refl _) _
  have hxB : WB.heap[W1.heap.size]? = some (.cells #[.int .i64 l, .slice xa b.length xc, .slice ka k.length kc] 26 (0, 0)) := by rw [hWB]; exact heap_new W1 _
  have hb01 := H0.out.1.trans (hb1.mono H0.out.1.size)
  have HBB := hideP (hb01.trans (hbB.mono hb01.size))
  have hx1 := (hbB.block _ (lt_of_block ((hb1.block _ (lt_of_block H0.out.2)).trans H0.out.2))).trans ((hb1.block _ (lt_of_block H0.out.2)).trans H0.out.2)
  have hiB := hi1.moved hbB
  have hfit := HF.out
  unfold Tree.fits at hfit
  -- what any later world has
  have HBX : Hid (∀ V, Below WB.heap.size WB V → (V.cell? ⟨w.heap.size, 0, none⟩ = some (.int .u64 y0) ∧ V.cell? ⟨w.heap.size, 1, none⟩ = some (.int .u64 y1) ∧ V.cell? ⟨w.heap.size, 2, none⟩ = some (.int .u64 y2) ∧ V.cell? ⟨w.heap.size, 3, none⟩ = some (.int .u64 y3)) ∧ V.cell? ⟨W1.heap.size, 0, none⟩ = some (.int .i64 l) ∧ V.cell? ⟨W1.heap.size, 1, none⟩ = some (.slice xa b.length xc) ∧ V.cell? ⟨W1.heap.size, 2, none⟩ = some (.slice ka k.length kc)) := fun V hV => by
    have q1 := (hV.block _ (lt_of_block hx1)).trans hx1
    have q2 := (hV.block _ (lt_of_block hxB)).trans hxB
    exact ⟨⟨blk_cell q1 rfl, blk_cell q1 rfl, blk_cell q1 rfl, blk_cell q1 rfl⟩, blk_cell q2 rfl, blk_cell q2 rfl, blk_cell q2 rfl⟩
  have HIX : Hid (∀ V, Below WB.heap.size WB V → IsItem V (.node l b k) (.agg #[.int .i64 l, .slice xa b.length xc, .slice ka k.length kc])) := fun V hV => hiB.moved hV
  have HTW : Hid (∀ V, Below WB.heap.size WB V → Calls Try.prog 14 #[.agg #[.int .i64 l, .slice xa b.length xc, .slice ka k.length kc]] V fun e w' => ∃ a c a' c', e = .returned (.agg #[.int .i64 l, .slice a b.length c, .slice a' k.length c']) ∧ Hid (IsItem (cut V.heap.size w') (.node l b k) (.agg #[.int .i64 l, .slice a b.length c, .slice a' k.length c']) ∧ Below V.heap.size V w' ∧ Thaw V.heap.size w')) := fun V hV => by
    refine (twin_allT _ _ _ _ (Nat.le_refl _) (hiB.moved hV) HF.out).mono ?_
    rintro e w' ⟨⟨v', rfl, q1⟩, q2, q3⟩
    obtain ⟨a, c, a', c', rfl, _, _, _⟩ := q1.form
    exact ⟨a, c, a', c', rfl, q1, q2, q3⟩
  have hbs : ∀ {V : World} {a a' : Option Addr} {c c' : Nat}, IsItem V (.node l b k) (.agg #[.int .i64 l, .slice a b.length c, .slice a' k.length c']) → BS V a b.length c (lb b) ∧ KS V a' k.length c' ∧ IsKids V k a' 0 := fun hV => by
    obtain ⟨_, _, _, _, e, q1, q2, q3⟩ := hV.form
    cases e
    exact ⟨q1, q2, q3⟩
  have HAN : Hid (∀ V a c a' c', IsItem V (.node l b k) (.agg #[.int .i64 l, .slice a b.length c, .slice a' k.length c']) → Calls Try.prog 27 #[.agg #[.int .i64 l, .slice a b.length c, .slice a' k.length c']] V fun e w' => e = .returned (.tuple #[.int .u64 (rn l b.length (lb b) 8).1, .int .i64 (rn l b.length (lb b) 8).2]) ∧ Below V.heap.size V w') := fun V a c a' c' hV => asNumber_any V (hbs hV).1
  have HRAN : Hid (∀ V, Below WB.heap.size WB V → Calls Try.prog 28 #[.agg #[.int .i64 l, .slice xa b.length xc, .slice ka k.length kc]] V fun e w' => e = .returned (.tuple #[.int .u64 (rn l b.length (lb b) 8).1, .int .i64 (rn l b.length (lb b) 8).2]) ∧ Below V.heap.size V w') := fun V hV => refAsNumber_any V (hbs (hiB.moved hV)).1
  have HAW : Hid (∀ V a c a' c', IsItem V (.node l b k) (.agg #[.int .i64 l, .slice a b.length c, .slice a' k.length c']) → Calls Try.prog 29 #[.agg #[.int .i64 l, .slice a b.length c, .slice a' k.length c']] V fun e w' => e = .returned (.tuple #[wv (rn l b.length (lb b) 32).1, .int .i64 (rn l b.length (lb b) 32).2]) ∧ Below V.heap.size V w') := fun V a c a' c' hV => asWhole_any V (hbs hV).1
  have HRAW : Hid (∀ V, Below WB.heap.size WB V → Calls Try.prog 30 #[.agg #[.int .i64 l, .slice xa b.length xc, .slice ka k.length kc], .int .i64 32] V fun e w' => e = .returned (.tuple #[wv (rn l b.length (lb b) 32).1, .int .i64 (rn l b.length (lb b) 32).2]) ∧ Below V.heap.size V w') := fun V hV => refAsWhole_any (most := 32) V (hbs (hiB.moved hV)).1 (by omega)
  obtain ⟨r0, r1, r2, r3, hr⟩ := wv_form (rn l b.length (lb b) 32).1
  rw [hr] at HAW HRAW
  clear hr
  have HAB : Hid (∀ V a c a' c', IsItem V (.node l b k) (.agg #[.int .i64 l, .slice a b.length c, .slice a' k.length c']) → Calls Try.prog 31 #[.agg #[.int .i64 l, .slice a b.length c, .slice a' k.length c'], .int .i64 lo, .int .i64 hi] V fun e w' => ∃ q cc, e = .returned (.tuple #[.slice q (if rng 0 l b.length lo hi = 0 then b.length else 0) cc, .int .i64 (rng 0 l b.length lo hi)]) ∧ Hid (Own V.heap.size w' (.slice q (if rng 0 l b.length lo hi = 0 then b.length else 0) cc) (if rng 0 l b.length lo hi = 0 then b.length else 0) (lb b)) ∧ Hid (Below V.heap.size V w')) := fun V a c a' c' hV => by
    refine (asBytes_any lo hi V (hbs hV).1 hfit.1).mono ?_
    rintro e w' ⟨⟨v, rfl, ho⟩, hb⟩
    obtain ⟨q, cc, rfl, _⟩ := ho.ex
    exact ⟨q, cc, rfl, ho, hb⟩
  have HRAB : Hid (∀ V, Below WB.heap.size WB V → Calls Try.prog 32 #[.agg #[.int .i64 l, .slice xa b.length xc, .slice ka k.length kc], .int .i64 lo, .int .i64 hi] V fun e w' => ∃ q cc, e = .returned (.tuple #[.slice q (if rng 0 l b.length lo hi = 0 then b.length else 0) cc, .int .i64 (rng 0 l b.length lo hi)]) ∧ Hid (Own V.heap.size w' (.slice q (if rng 0 l b.length lo hi = 0 then b.length else 0) cc) (if rng 0 l b.length lo hi = 0 then b.length else 0) (lb b)) ∧ Hid (Below V.heap.size V w')) := fun V hV => by
    refine (refAsBytes_any lo hi V (hbs (hiB.moved hV)).1 hfit.1).mono ?_
    rintro e w' ⟨⟨v, rfl, ho⟩, hb⟩
    obtain ⟨q, cc, rfl, _⟩ := ho.ex
    exact ⟨q, cc, rfl, ho, hb⟩
  have HBN : Hid ((if rng 0 l b.length lo hi = 0 then b.length else 0) ≤ 140737488355328) := (by split <;> omega : (if rng 0 l b.length lo hi = 0 then b.length else 0) ≤ 140737488355328)
  have HLT : Hid (∀ j, lb b j < 256) := (hbs hiB).1.lt
  obtain ⟨kl, hkl⟩ : ∃ kl, kl = (if rng 1 l k.length lo hi = 0 then k else []) := ⟨_, rfl⟩
  have HAL : Hid (∀ V a c a' c', IsItem V (.node l b k) (.agg #[.int .i64 l, .slice a b.length c, .slice a' k.length c']) → Calls Try.prog 33 #[.agg #[.int .i64 l, .slice a b.length c, .slice a' k.length c'], .int .i64 lo, .int .i64 hi] V fun e w' => ∃ q m cc, e = .returned (.tuple #[.slice q m cc, .int .i64 (rng 1 l k.length lo hi)]) ∧ Hid (IsItem w' (.node 0 [] kl) (.agg #[.int .i64 0, .slice none 0 0, .slice q m cc])) ∧ Hid (Below V.heap.size V w')) := fun V a c a' c' hV => by
    refine (asList_any lo hi V (hbs hV).2.1 (hbs hV).2.2 hfit.2.1 hfit.2.2).mono ?_
    rintro e w' ⟨⟨kv, rfl, ho⟩, hb⟩
    rw [← hkl] at ho
    obtain ⟨q, cc, rfl, p1, p2⟩ := ho.kids
    refine ⟨q, _, cc, rfl, ?_, hb⟩
    exact item_of_parts (b := []) (BS.empty _ _ _ (fun j => by simp [lb])) ⟨p1.le, p1.room, p1.at_⟩ (p2.mono fun a u hc => (cut_cell.1 hc).2)
  obtain ⟨qa, qn, qc, hq, HRIT⟩ : ∃ qa qn qc, (if rng 1 l k.length lo hi = 0 then Value.slice ka k.length kc else .slice none 0 0) = .slice qa qn qc ∧ Hid (∀ V, Below WB.heap.size WB V → IsItem V (.node 0 [] kl) (.agg #[.int .i64 0, .slice none 0 0, .slice qa qn qc])) := by
    by_cases hz : rng 1 l k.length lo hi = 0
    · rw [if_pos hz] at hkl ⊢
      refine ⟨_, _, _, rfl, fun V hV => ?_⟩
      obtain ⟨_, p1, p2⟩ := hbs (hiB.moved hV)
      rw [hkl]
      exact item_of_parts (b := []) (BS.empty _ _ _ (fun j => by simp [lb])) ⟨p1.le, p1.room, p1.at_⟩ p2
    · rw [if_neg hz] at hkl ⊢
      refine ⟨_, _, _, rfl, fun V hV => ?_⟩
      rw [hkl]
      exact item_of_parts (b := []) (k := []) (BS.empty _ _ _ (fun j => by simp [lb])) ⟨Nat.le_refl _, Nat.zero_le _, Or.inl ⟨rfl, rfl⟩⟩ (by unfold IsKids; trivial)
  have HRAL : Hid (∀ V, Below WB.heap.size WB V → Calls Try.prog 34 #[.agg #[.int .i64 l, .slice xa b.length xc, .slice ka k.length kc], .int .i64 lo, .int .i64 hi] V fun e w' => e = .returned (.tuple #[.slice qa qn qc, .int .i64 (rng 1 l k.length lo hi)]) ∧ Below V.heap.size V w') := fun V _ => by
    have := refAsList_any (l := l) (ao := xa) (ao' := ka) (n := b.length) (c := xc) (c' := kc) (nk := k.length) lo hi V
    rw [hq] at this
    exact this
  have HSP : Hid (∀ (V w' : World) (a a' : Option Addr) (c c' : Nat), Hid (IsItem (cut V.heap.size w') (.node l b k) (.agg #[.int .i64 l, .slice a b.length c, .slice a' k.length c']) ∧ Below V.heap.size V w' ∧ Thaw V.heap.size w') → ∀ W, Below w'.heap.size w' W → Calls Try.prog 35 #[.agg #[.int .i64 l, .slice a b.length c, .slice a' k.length c']] W fun e W' => e = .returned (.tuple #[]) ∧ Hid (Ev V.heap.size w'.heap.size W W')) := fun V w' a a' c c' HX W hW => by
    obtain ⟨x1, x2, x3⟩ := HX.out
    obtain ⟨l', b', k', e, p1, p2⟩ := sp_of _ _ _ (Nat.le_refl _) HF.out x1
    cases e
    have hev : Ev V.heap.size w'.heap.size w' W := ⟨hW.os, hW.tape, hW.output, hW.size, fun j hj _ => hW.block j hj, fun a u hu => ⟨u, (hW.cell (World.block_lt_of_cell? w' _ hu)).trans hu, .inl rfl⟩, fun h9 j o j1 j2 j3 j4 => h9 j o j1 j2 ((hW.block j j2).symm.trans j3) j4⟩
    exact spoil_all _ _ _ _ W (p1.ev hev) (p2.ev hev) (hev.thaw fun j o j1 _ j3 j4 => x3 j o j1 j3 j4) hW.size
  have HTFK : Hid (Tree.fitsK [.node l b k, .node l b k]) := Tree.fitsK_of (fun t ht => by
    simp only [List.mem_cons, List.not_mem_nil, or_false, or_self] at ht
    rw [ht]
    exact HF.out)
  have HWB := hideP hWB
  clear hbs hi1 hb1 hbB hxB hb01 hx1 hiB hfit hWB hkl hq HF HC H0 HW0
  generalize (rn l b.length (lb b) 8).1 = N8 at *
  generalize (rn l b.length (lb b) 8).2 = E8 at *
  generalize (rn l b.length (lb b) 32).2 = E32 at *
  generalize (if rng 0 l b.length lo hi = 0 then b.length else 0) = nB at *
  generalize rng 0 l b.length lo hi = EB at *
  generalize rng 1 l k.length lo hi = EL at *
  generalize b.length = nb at *
  generalize k.length = nk at *
  have heq := fun W => eq_same4 r0 r1 r2 r3 W
  have g8 : ((N8 : Int) != (N8 : Int)) = false := by simp
  have g9 : ((E8 : Int) != (E8 : Int)) = false := by simp
  have g10 : ((E32 : Int) != (E32 : Int)) = false := by simp
  have g11 : ((EB : Int) != (EB : Int)) = false := by simp
  have g12 : ((EL : Int) != (EL : Int)) = false := by simp
  go_wp2_with fail
  rw [← HWB.out]
  have hc0 := HTW.out WB (Below.refl _ _)
  refine hc0.mono ?_
  rintro e W2 ⟨a2, c2, a2', c2', rfl, HX2⟩
  have hc2 := HAN.out W2 _ _ _ _ HX2.out.1.uncut
  have H2 := hideP HX2.out.2.1
  clear hc0 HX2
  go_wp2_with fail
  refine hc2.mono ?_
  rintro e W3 ⟨rfl, hb3⟩
  have H3 := hideP (H2.out.trans (hb3.mono H2.out.size))
  have hc3 := HRAN.out W3 H3.out
  obtain ⟨_, p0, p1, p2⟩ := HBX.out W3 H3.out
  clear hc2 hb3 H2
  go_wp2_with fail
  refine hc3.mono ?_
  rintro e W4 ⟨rfl, hb4⟩
  have H4 := hideP (H3.out.trans (hb4.mono H3.out.size))
  have hc4 := HTW.out W4 H4.out
  obtain ⟨_, p0, p1, p2⟩ := HBX.out W4 H4.out
  clear hc3 hb4 H3
  go_wp2_with fail
  refine hc4.mono ?_
  rintro e W5 ⟨a5, c5, a5', c5', rfl, HX5⟩
  have hc5 := HAW.out W5 _ _ _ _ HX5.out.1.uncut
  have H5 := hideP (H4.out.trans (HX5.out.2.1.mono H4.out.size))
  clear hc4 HX5 H4
  go_wp2_with fail
  refine hc5.mono ?_
  rintro e W6 ⟨rfl, hb6⟩
  have hb6' := H5.out.trans (hb6.mono H5.out.size)
  have H6 : Hid (Below WB.heap.size WB (W6.alloc (.cells #[.int .u64 r0, .int .u64 r1, .int .u64 r2, .int .u64 r3] 59))) := hb6'.alloc hb6'.size _
  have HX6 := hideP (heap_new W6 (.cells #[.int .u64 r0, .int .u64 r1, .int .u64 r2, .int .u64 r3] 59))
  have hc6 := HRAW.out _ H6.out
  obtain ⟨_, p0, p1, p2⟩ := HBX.out _ H6.out
  clear hc5 hb6 hb6' H5
  go_wp2_with fail
  refine hc6.mono ?_
  rintro e W7 ⟨rfl, hb7⟩
  have hb7' := H6.out.trans (hb7.mono H6.out.size)
  have H7 : Hid (Below WB.heap.size WB (W7.alloc (.cells #[.int .u64 r0, .int .u64 r1, .int .u64 r2, .int .u64 r3] 59))) := hb7'.alloc hb7'.size _
  have hx7 := (heap_old W7 (.cells #[.int .u64 r0, .int .u64 r1, .int .u64 r2, .int .u64 r3] 59) (lt_of_block ((hb7.block _ (lt_of_block HX6.out)).trans HX6.out))).trans ((hb7.block _ (lt_of_block HX6.out)).trans HX6.out)
  obtain ⟨j0, j1, j2, j3⟩ := cells4 hx7
  obtain ⟨i0, i1, i2, i3⟩ := cells4 (heap_new W7 (.cells #[.int .u64 r0, .int .u64 r1, .int .u64 r2, .int .u64 r3] 59))
  clear hc6 hb7 hb7' H6 HX6 hx7 p0 p1 p2
  go_wp2_with fail
  refine (awake_any _).mono ?_
  rintro e W8 ⟨rfl, hb8⟩
  have H8 := hideP (H7.out.trans (hb8.mono H7.out.size))
  have hc8 := HTW.out W8 H8.out
  obtain ⟨_, p0, p1, p2⟩ := HBX.out W8 H8.out
  clear hb8 H7 j0 j1 j2 j3 i0 i1 i2 i3
  go_wp2_with fail
  refine hc8.mono ?_
  rintro e W9 ⟨a9, c9, a9', c9', rfl, HX9⟩
  clear hc8 p0 p1 p2
  obtain ⟨W9b, hW9b⟩ : ∃ W9b, W9b = W9.alloc (.cells #[.int .i64 l, .slice a9 nb c9, .slice a9' nk c9'] 26) := ⟨_, rfl⟩
  have hb9 : Below W9.heap.size W9 W9b := by rw [hW9b]; exact (Below.refl _ W9).alloc (Nat.le_refl _) _
  have hx9 : W9b.heap[W9.heap.size]? = some (.cells #[.int .i64 l, .slice a9 nb c9, .slice a9' nk c9'] 26 (0, 0)) := by rw [hW9b]; exact heap_new W9 _
  have hB9 := H8.out.trans ((HX9.out.2.1.trans (hb9.mono HX9.out.2.1.size)).mono H8.out.size)
  have H9 := hideP hB9
  have HBT : Hid (∀ V, Below W9b.heap.size W9b V → V.cell? ⟨W9.heap.size, 0, none⟩ = some (.int .i64 l) ∧ V.cell? ⟨W9.heap.size, 1, none⟩ = some (.slice a9 nb c9) ∧ V.cell? ⟨W9.heap.size, 2, none⟩ = some (.slice a9' nk c9')) := fun V hV => by
    have q1 := (hV.block _ (lt_of_block hx9)).trans hx9
    exact ⟨blk_cell q1 rfl, blk_cell q1 rfl, blk_cell q1 rfl⟩
  have HIT : Hid (∀ V, Below W9b.heap.size W9b V → IsItem V (.node l b k) (.agg #[.int .i64 l, .slice a9 nb c9, .slice a9' nk c9'])) := fun V hV => (HX9.out.1.uncut.moved hb9).moved hV
  have HZ9 := hideP (And.intro hb9 (lt_of_block hx9))
  have HW9b := hideP hW9b
  have hc9 := HAB.out W9b _ _ _ _ (HIT.out W9b (Below.refl _ _))
  obtain ⟨t0, t1, t2⟩ := HBT.out W9b (Below.refl _ _)
  clear hb9 hx9 hB9 hW9b
  go_wp2_with fail
  rw [← HW9b.out]
  refine hc9.mono ?_
  rintro e W10 ⟨q10, c10, rfl, HO10, HB10⟩
  have H10 := hideP (H9.out.trans (HB10.out.mono H9.out.size))
  have hc10 := HRAB.out W10 H10.out
  obtain ⟨_, p0, p1, p2⟩ := HBX.out W10 H10.out
  clear hc9 t0 t1 t2
  go_wp2_with fail
  refine hc10.mono ?_
  rintro e W11 ⟨q11, c11, rfl, HO11, HB11⟩
  have HB911 := hideP (HB10.out.trans (HB11.out.mono HB10.out.size))
  have hc11 := HAL.out W11 _ _ _ _ (HIT.out W11 HB911.out)
  obtain ⟨t0, t1, t2⟩ := HBT.out W11 HB911.out
  clear hc10 p0 p1 p2 H10
  go_wp2_with fail
  refine hc11.mono ?_
  rintro e W12 ⟨q12, m12, c12, rfl, HI12, HB12⟩
  have HB912 := hideP (HB911.out.trans (HB12.out.mono HB911.out.size))
  have H12 := hideP (H9.out.trans (HB912.out.mono H9.out.size))
  have hc12 := HRAL.out W12 H12.out
  obtain ⟨_, p0, p1, p2⟩ := HBX.out W12 H12.out
  clear hc11 t0 t1 t2 HB911
  go_wp2_with fail
  refine hc12.mono ?_
  rintro e W13 ⟨rfl, hb13⟩
  have HB913 := hideP (HB912.out.trans (hb13.mono HB912.out.size))
  have H13 := hideP (H9.out.trans (HB913.out.mono H9.out.size))
  have hBs : BS W13 q10 nB c10 (lb b) := by
    obtain ⟨_, _, e, hB, _⟩ := HO10.out.ex
    cases e
    exact ((hB.moved HB11.out).moved HB12.out).moved hb13
  have hBu : BS W13 q11 nB c11 (lb b) := by
    obtain ⟨_, _, e, hB, _⟩ := HO11.out.ex
    cases e
    exact (hB.moved HB12.out).moved hb13
  have cv1 := conv_BS hBs
  have cv2 := conv_BS hBu
  have hse : ((strB (lb b) nB).toList == (strB (lb b) nB).toList) = true := by simp
  have hc13 := same_eq (HI12.out.moved hb13) (HRIT.out W13 H13.out)
  have HBS := hideP (And.intro hBs hBu)
  clear hc12 p0 p1 p2 hb13 HB912 HI12 H12 HRIT hBs hBu
  go_wp2_with fail
  refine hc13.mono ?_
  rintro e W14 ⟨rfl, hb14⟩
  have HB914 := hideP (HB913.out.trans (hb14.mono HB913.out.size))
  have HZ14 := hideP hb14
  obtain ⟨t0, t1, t2⟩ := HBT.out W14 HB914.out
  have hc14 := HSP.out W8 W9 _ _ _ _ HX9 W14 ((HZ9.out.1).trans (HB914.out.mono HZ9.out.1.size))
  clear hc13 hb14 cv1 cv2 HSP
  go_wp2_with fail
  refine hc14.mono ?_
  rintro e W15 ⟨rfl, HEV⟩
  clear hc14 t0 t1 t2
  -- what is there behind spoil
  have hz9 := HX9.out.2.1.size
  have hzb := HZ9.out.1.size
  have H14 := HB914.out.size
  have hB15 : Below WB.heap.size WB W15 := by
    have hbw := H9.out.trans (HB914.out.mono H9.out.size)
    have h8 := H8.out.size
    exact ⟨HEV.out.os.trans hbw.os, HEV.out.tape.trans hbw.tape, HEV.out.output.trans hbw.output, Nat.le_trans hbw.size HEV.out.size, fun j hj => (HEV.out.keep j (Nat.lt_of_lt_of_le hj hbw.size) (.inl (by omega))).trans (hbw.block j hj)⟩
  have hkeep : ∀ {q : Option Addr} {cc : Nat} {M : Nat}, BS W14 q nB cc (lb b) → (∀ ad, q = some ad → W9.heap.size ≤ ad.block) → BS W15 q nB cc (lb b) := fun {q cc M} hB hq => ⟨hB.lt, hB.le, hB.room, fun j hj => by
    obtain ⟨ad, e, hc⟩ := hB.cell j hj
    refine ⟨ad, e, ?_⟩
    have hal := World.block_lt_of_cell? W14 _ hc
    have hbk := HEV.out.keep (ad.add j).block hal (.inr (by rw [add_block]; exact hq ad e))
    exact (cell_congr hbk).trans hc, hB.nil⟩
  have hown : ∀ {V w' : World} {q : Option Addr} {cc : Nat}, W9.heap.size ≤ V.heap.size → Own V.heap.size w' (.slice q nB cc) nB (lb b) → ∀ ad, q = some ad → W9.heap.size ≤ ad.block := fun hV ho ad e => by
    obtain ⟨_, _, e2, _, hg⟩ := ho.ex
    cases e2
    rcases hg with h9 | ⟨g, e3, h1, _⟩
    · rw [h9] at e; cases e
    · rw [e3] at e
      cases e
      show W9.heap.size ≤ g
      omega
  have hBs : BS W15 q10 nB c10 (lb b) := hkeep (M := 0) (HBS.out.1.moved HZ14.out) (hown (by omega) HO10.out)
  have hBu : BS W15 q11 nB c11 (lb b) := hkeep (M := 0) (HBS.out.2.moved HZ14.out) (hown (by have := HB10.out.size; omega) HO11.out)
  have HCV : Hid (∀ V, Below W15.heap.size W15 V → (convert 23 9 (.slice q10 nB c10)).run Try.prog V = .ok (.string (strB (lb b) nB)) V ∧ (convert 23 9 (.slice q11 nB c11)).run Try.prog V = .ok (.string (strB (lb b) nB)) V) := fun V hV => ⟨conv_BS (hBs.moved hV), conv_BS (hBu.moved hV)⟩
  have HBU : Hid (∀ V, Below W15.heap.size W15 V → BS V q11 nB c11 (lb b)) := fun V hV => hBu.moved hV
  have HX15 : Hid (∀ V, Below W15.heap.size W15 V → Below WB.heap.size WB V) := fun V hV => hB15.trans (hV.mono hB15.size)
  have HBE : Hid (Below w.heap.size w W15) := HBB.out.trans (hB15.mono HBB.out.size)
  clear hz9 hzb H14 hB15 hkeep hown hBs hBu HEV HBS HZ14 HO10 HO11 HB10 HB11 HB12 HB914 HB913 H13 H9 H8 HX9 HZ9 HIT HBT HW9b HWB HAN HRAN HAW HRAW HAB HRAB HAL HRAL heq g8 g9 g10 g11 g12 HBB
  generalize hss : strB (lb b) nB = ss at *
  clear hss
  go_wp2_with fail
  refine wp_region_heldS (S := fun V => Below W15.heap.size W15 V) (by kernel_rfl) (Below.refl _ _).drew (fun hS => ?_)
  obtain ⟨V0, hV0⟩ : ∃ V0, V0 = W15.drew := ⟨_, rfl⟩
  rw [← hV0] at hS ⊢
  clear hV0
  refine wpAnyH_takeL (i := 0) (v := ?_) rfl (by kernel_rfl) (by kernel_rfl) (by kernel_rfl) (fun _ _ _ h => h) (Or.inl ⟨by kernel_rfl, ?_⟩) hS ?_
  rotate_left
  · intro V hV
    go_simp
    (try with_reducible rfl)
  simp only [put_list, List.set_cons_succ, List.set_cons_zero]
  refine wpAnyH_takeL (i := 1) (v := ?_) rfl (by kernel_rfl) (by kernel_rfl) (by kernel_rfl) (fun _ _ _ h => h) (Or.inl ⟨by kernel_rfl, ?_⟩) hS ?_
  rotate_left
  · intro V hV
    obtain ⟨cv1, cv2⟩ := HCV.out V hV
    obtain ⟨⟨z0, z1, z2, z3⟩, x0, x1, x2⟩ := HBX.out V (HX15.out V hV)
    go_simp
    (try with_reducible rfl)
  simp only [put_list, List.set_cons_succ, List.set_cons_zero]
  refine wpAnyH_takeL (i := 2) (v := ?_) rfl (by kernel_rfl) (by kernel_rfl) (by kernel_rfl) (fun _ _ _ h => h) (Or.inl ⟨by kernel_rfl, ?_⟩) hS ?_
  rotate_left
  · intro V hV
    go_simp
    (try with_reducible rfl)
  simp only [put_list, List.set_cons_succ, List.set_cons_zero]
  refine wpAnyH_takeL (i := 3) (v := ?_) rfl (by kernel_rfl) (by kernel_rfl) (by kernel_rfl) (fun _ _ _ h => h) (Or.inl ⟨by kernel_rfl, ?_⟩) hS ?_
  rotate_left
  · intro V hV
    obtain ⟨cv1, cv2⟩ := HCV.out V hV
    obtain ⟨⟨z0, z1, z2, z3⟩, x0, x1, x2⟩ := HBX.out V (HX15.out V hV)
    go_simp
    (try with_reducible rfl)
  simp only [put_list, List.set_cons_succ, List.set_cons_zero]
  refine wpAnyH_takeL (i := 4) (v := ?_) rfl (by kernel_rfl) (by kernel_rfl) (by kernel_rfl) (fun _ _ _ h => h) (Or.inl ⟨by kernel_rfl, ?_⟩) hS ?_
  rotate_left
  · intro V hV
    go_simp
    (try with_reducible rfl)
  simp only [put_list, List.set_cons_succ, List.set_cons_zero]
  refine wpAnyH_takeL (i := 5) (v := ?_) rfl (by kernel_rfl) (by kernel_rfl) (by kernel_rfl) (fun _ _ _ h => h) (Or.inl ⟨by kernel_rfl, ?_⟩) hS ?_
  rotate_left
  · intro V hV
    go_simp
    (try with_reducible rfl)
  simp only [put_list, List.set_cons_succ, List.set_cons_zero]
  refine wpAnyH_takeL (i := 6) (v := ?_) rfl (by kernel_rfl) (by kernel_rfl) (by kernel_rfl) (fun _ _ _ h => h) (Or.inl ⟨by kernel_rfl, ?_⟩) hS ?_
  rotate_left
  · intro V hV
    go_simp
    (try with_reducible rfl)
  simp only [put_list, List.set_cons_succ, List.set_cons_zero]
  refine wpAnyH_takeL (i := 8) (v := ?_) rfl (by kernel_rfl) (by kernel_rfl) (by kernel_rfl) (fun _ _ _ h => h) (Or.inl ⟨by kernel_rfl, ?_⟩) hS ?_
  rotate_left
  · intro V hV
    go_simp
    (try with_reducible rfl)
  simp only [put_list, List.set_cons_succ, List.set_cons_zero]
  refine wpAnyH_ready (rs := [7]) (by kernel_rfl) (by simp) (AllReadyH.cons rfl (fun K hK => ?_) (AllReadyH.nil))
  go_simp
  refine (HNU.out _).mono ?_
  rintro r V7 ⟨⟨v7, rfl, hv7⟩, hb⟩
  obtain ⟨n7, hn7, hi7⟩ := hv7.item
  have hS := hS.trans (hb.mono hS.size)
  clear hb
  have HF7 := hideP hi7
  have HN7 := hideP hn7
  clear hv7 hn7 hi7
  refine hK.out _ _ hS (fun hS => ?_)
  clear hK K
  refine wpAnyH_ready (rs := [9]) (by kernel_rfl) (by simp) (AllReadyH.cons rfl (fun K hK => ?_) (AllReadyH.nil))
  go_simp
  refine (HRN.out _).mono ?_
  rintro r V9 ⟨⟨v9, rfl, hv9⟩, hb⟩
  obtain ⟨n9, hn9, hi9⟩ := hv9.item
  obtain rfl := LB.one hn9 HN7.out
  have hS := hS.trans (hb.mono hS.size)
  have HF7 := hideP (HF7.out.moved hb)
  clear hb
  have HF9 := hideP hi9.uncut
  clear hv9 hn9 hi9 HN7
  refine hK.out _ _ hS (fun hS => ?_)
  clear hK K
  refine wpAnyH_ready (rs := [10]) (by kernel_rfl) (by simp) (AllReadyH.cons rfl (fun K hK => ?_) (AllReadyH.nil))
  go_simp
  refine (same_eq HF7.out HF9.out).mono ?_
  rintro r V10 ⟨rfl, hb⟩
  clear HF7 HF9
  have hS := hS.trans (hb.mono hS.size)
  clear hb
  refine hK.out _ _ hS (fun hS => ?_)
  clear hK K
  refine wpAnyH_takeL (i := 11) (v := ?_) rfl (by kernel_rfl) (by kernel_rfl) (by kernel_rfl) (fun _ _ _ h => h) (Or.inl ⟨by kernel_rfl, ?_⟩) hS ?_
  rotate_left
  · intro V hV
    go_simp
    (try with_reducible rfl)
  simp only [put_list, List.set_cons_succ, List.set_cons_zero]
  refine wpAnyH_takeL (i := 12) (v := ?_) rfl (by kernel_rfl) (by kernel_rfl) (by kernel_rfl) (fun _ _ _ h => h) (Or.inl ⟨by kernel_rfl, ?_⟩) hS ?_
  rotate_left
  · intro V hV
    go_simp
    (try with_reducible rfl)
  simp only [put_list, List.set_cons_succ, List.set_cons_zero]
  refine wpAnyH_takeL (i := 13) (v := ?_) rfl (by kernel_rfl) (by kernel_rfl) (by kernel_rfl) (fun _ _ _ h => h) (Or.inl ⟨by kernel_rfl, ?_⟩) hS ?_
  rotate_left
  · intro V hV
    obtain ⟨cv1, cv2⟩ := HCV.out V hV
    obtain ⟨⟨z0, z1, z2, z3⟩, x0, x1, x2⟩ := HBX.out V (HX15.out V hV)
    go_simp
    (try with_reducible rfl)
  simp only [put_list, List.set_cons_succ, List.set_cons_zero]
  refine wpAnyH_takeL (i := 15) (v := ?_) rfl (by kernel_rfl) (by kernel_rfl) (by kernel_rfl) (fun _ _ _ h => h) (Or.inl ⟨by kernel_rfl, ?_⟩) hS ?_
  rotate_left
  · intro V hV
    obtain ⟨cv1, cv2⟩ := HCV.out V hV
    obtain ⟨⟨z0, z1, z2, z3⟩, x0, x1, x2⟩ := HBX.out V (HX15.out V hV)
    go_simp
    (try with_reducible rfl)
  simp only [put_list, List.set_cons_succ, List.set_cons_zero]
  refine wpAnyH_ready (rs := [14]) (by kernel_rfl) (by simp) (AllReadyH.cons rfl (fun K hK => ?_) (AllReadyH.nil))
  go_simp
  refine (HW.out _).mono ?_
  rintro r V14 ⟨⟨v14, rfl, hv14⟩, hb⟩
  obtain ⟨n14, hn14, hi14⟩ := hv14.item
  have hS := hS.trans (hb.mono hS.size)
  clear hb
  have HF14 := hideP hi14
  have HN14 := hideP hn14
  clear hv14 hn14 hi14
  refine hK.out _ _ hS (fun hS => ?_)
  clear hK K
  refine wpAnyH_ready (rs := [16]) (by kernel_rfl) (by simp) (AllReadyH.cons rfl (fun K hK => ?_) (AllReadyH.nil))
  go_simp
  refine (HRW.out _).mono ?_
  rintro r V16 ⟨⟨v16, rfl, hv16⟩, hb⟩
  obtain ⟨n16, hn16, hi16⟩ := hv16.item
  obtain rfl := LB.one hn16 HN14.out
  have hS := hS.trans (hb.mono hS.size)
  have HF14 := hideP (HF14.out.moved hb)
  clear hb
  have HF16 := hideP hi16.uncut
  clear hv16 hn16 hi16 HN14
  refine hK.out _ _ hS (fun hS => ?_)
  clear hK K
  refine wpAnyH_ready (rs := [17]) (by kernel_rfl) (by simp) (AllReadyH.cons rfl (fun K hK => ?_) (AllReadyH.nil))
  go_simp
  refine (same_eq HF14.out HF16.out).mono ?_
  rintro r V17 ⟨rfl, hb⟩
  clear HF14 HF16
  have hS := hS.trans (hb.mono hS.size)
  clear hb
  refine hK.out _ _ hS (fun hS => ?_)
  clear hK K
  refine wpAnyH_takeL (i := 18) (v := ?_) rfl (by kernel_rfl) (by kernel_rfl) (by kernel_rfl) (fun _ _ _ h => h) (Or.inl ⟨by kernel_rfl, ?_⟩) hS ?_
  rotate_left
  · intro V hV
    go_simp
    (try with_reducible rfl)
  simp only [put_list, List.set_cons_succ, List.set_cons_zero]
  refine wpAnyH_takeL (i := 19) (v := ?_) rfl (by kernel_rfl) (by kernel_rfl) (by kernel_rfl) (fun _ _ _ h => h) (Or.inl ⟨by kernel_rfl, ?_⟩) hS ?_
  rotate_left
  · intro V hV
    go_simp
    (try with_reducible rfl)
  simp only [put_list, List.set_cons_succ, List.set_cons_zero]
  refine wpAnyH_takeL (i := 20) (v := ?_) rfl (by kernel_rfl) (by kernel_rfl) (by kernel_rfl) (fun _ _ _ h => h) (Or.inl ⟨by kernel_rfl, ?_⟩) hS ?_
  rotate_left
  · intro V hV
    go_simp
    (try with_reducible rfl)
  simp only [put_list, List.set_cons_succ, List.set_cons_zero]
  refine wpAnyH_takeL (i := 23) (v := ?_) rfl (by kernel_rfl) (by kernel_rfl) (by kernel_rfl) (fun _ _ _ h => h) (Or.inl ⟨by kernel_rfl, ?_⟩) hS ?_
  rotate_left
  · intro V hV
    go_simp
    (try with_reducible rfl)
  simp only [put_list, List.set_cons_succ, List.set_cons_zero]
  refine wpAnyH_ready (rs := [21]) (by kernel_rfl) (by simp) (AllReadyH.cons rfl (fun K hK => ?_) (AllReadyH.nil))
  go_simp
  refine (lawBytes_any HBN.out _ (HBU.out _ hS)).mono ?_
  rintro r V21 ⟨⟨v21, rfl, ho21⟩, hb⟩
  obtain ⟨a21, c21, rfl, hB21, _⟩ := ho21.ex
  have hS := hS.trans (hb.mono hS.size)
  clear hb
  have HB21 := hideP hB21
  clear ho21 hB21
  refine hK.out _ _ hS (fun hS => ?_)
  clear hK K
  refine wpAnyH_ready (rs := [22]) (by kernel_rfl) (by simp) (AllReadyH.cons rfl (fun K hK => ?_) (AllReadyH.nil))
  go_simp
  refine (text_any HBN.out _ HB21.out).mono ?_
  rintro r V22 ⟨⟨s22, rfl, ho22⟩, hb⟩
  have hi22 := ho22.item.uncut
  have hS := hS.trans (hb.mono hS.size)
  clear hb
  have HF22 := hideP hi22
  clear ho22 hi22 HB21
  refine hK.out _ _ hS (fun hS => ?_)
  clear hK K
  refine wpAnyH_ready (rs := [24]) (by kernel_rfl) (by simp) (AllReadyH.cons rfl (fun K hK => ?_) (AllReadyH.nil))
  go_simp
  refine (refText_any HBN.out _ (HBU.out _ hS)).mono ?_
  rintro r V24 ⟨⟨s24, rfl, ho24⟩, hb⟩
  have hi24 := ho24.item.uncut
  have hS := hS.trans (hb.mono hS.size)
  have HF22 := hideP (HF22.out.moved hb)
  clear hb
  have HF24 := hideP hi24
  clear ho24 hi24
  refine hK.out _ _ hS (fun hS => ?_)
  clear hK K
  refine wpAnyH_ready (rs := [25]) (by kernel_rfl) (by simp) (AllReadyH.cons rfl (fun K hK => ?_) (AllReadyH.nil))
  go_simp
  refine (same_eq HF22.out HF24.out).mono ?_
  rintro r V25 ⟨rfl, hb⟩
  clear HF22 HF24
  have hS := hS.trans (hb.mono hS.size)
  clear hb
  refine hK.out _ _ hS (fun hS => ?_)
  clear hK K
  refine wpAnyH_takeL (i := 26) (v := ?_) rfl (by kernel_rfl) (by kernel_rfl) (by kernel_rfl) (fun _ _ _ h => h) (Or.inl ⟨by kernel_rfl, ?_⟩) hS ?_
  rotate_left
  · intro V hV
    go_simp
    (try with_reducible rfl)
  simp only [put_list, List.set_cons_succ, List.set_cons_zero]
  refine wpAnyH_takeL (i := 27) (v := ?_) rfl (by kernel_rfl) (by kernel_rfl) (by kernel_rfl) (fun _ _ _ h => h) (Or.inl ⟨by kernel_rfl, ?_⟩) hS ?_
  rotate_left
  · intro V hV
    go_simp
    (try with_reducible rfl)
  simp only [put_list, List.set_cons_succ, List.set_cons_zero]
  refine wpAnyH_takeL (i := 28) (v := ?_) rfl (by kernel_rfl) (by kernel_rfl) (by kernel_rfl) (fun _ _ _ h => h) (Or.inl ⟨by kernel_rfl, ?_⟩) hS ?_
  rotate_left
  · intro V hV
    obtain ⟨cv1, cv2⟩ := HCV.out V hV
    obtain ⟨⟨z0, z1, z2, z3⟩, x0, x1, x2⟩ := HBX.out V (HX15.out V hV)
    go_simp
    (try with_reducible rfl)
  simp only [put_list, List.set_cons_succ, List.set_cons_zero]
  refine wpAnyH_takeL (i := 30) (v := ?_) rfl (by kernel_rfl) (by kernel_rfl) (by kernel_rfl) (fun _ _ _ h => h) (Or.inl ⟨by kernel_rfl, ?_⟩) hS ?_
  rotate_left
  · intro V hV
    obtain ⟨cv1, cv2⟩ := HCV.out V hV
    obtain ⟨⟨z0, z1, z2, z3⟩, x0, x1, x2⟩ := HBX.out V (HX15.out V hV)
    go_simp
    (try with_reducible rfl)
  simp only [put_list, List.set_cons_succ, List.set_cons_zero]
  refine wpAnyH_takeL (i := 34) (v := ?_) rfl (by kernel_rfl) (by kernel_rfl) (by kernel_rfl) (fun _ _ _ h => h) (Or.inl ⟨by kernel_rfl, ?_⟩) hS ?_
  rotate_left
  · intro V hV
    obtain ⟨cv1, cv2⟩ := HCV.out V hV
    obtain ⟨⟨z0, z1, z2, z3⟩, x0, x1, x2⟩ := HBX.out V (HX15.out V hV)
    go_simp
    (try with_reducible rfl)
  simp only [put_list, List.set_cons_succ, List.set_cons_zero]
  refine wpAnyH_takeL (i := 35) (v := ?_) rfl (by kernel_rfl) (by kernel_rfl) (by kernel_rfl) (fun _ _ _ h => h) (Or.inl ⟨by kernel_rfl, ?_⟩) hS ?_
  rotate_left
  · intro V hV
    obtain ⟨cv1, cv2⟩ := HCV.out V hV
    obtain ⟨⟨z0, z1, z2, z3⟩, x0, x1, x2⟩ := HBX.out V (HX15.out V hV)
    go_simp
    (try with_reducible rfl)
  simp only [put_list, List.set_cons_succ, List.set_cons_zero]
  refine wpAnyH_ready (rs := [29, 36]) (by kernel_rfl) (by simp) (AllReadyH.cons rfl (fun K hK => ?_) (AllReadyH.cons rfl (fun K hK => ?_) (AllReadyH.nil)))
  · go_simp
    refine (HTW.out _ (HX15.out _ hS)).mono ?_
    rintro r V29 ⟨a29, c29, d29, e29, rfl, HQ⟩
    have hb := HQ.out.2.1
    have hS := hS.trans (hb.mono hS.size)
    clear hb
    have HF29 := hideP HQ.out.1.uncut
    clear HQ
    refine hK.out _ _ hS (fun hS => ?_)
    clear hK K
    refine wpAnyH_ready (rs := [31, 36]) (by kernel_rfl) (by simp) (AllReadyH.cons rfl (fun K hK => ?_) (AllReadyH.cons rfl (fun K hK => ?_) (AllReadyH.nil)))
    · go_simp
      refine (HTW.out _ (HX15.out _ hS)).mono ?_
      rintro r V31 ⟨a31, c31, d31, e31, rfl, HQ⟩
      have hb := HQ.out.2.1
      have hS := hS.trans (hb.mono hS.size)
      have HF29 := hideP (HF29.out.moved hb)
      clear hb
      have HF31 := hideP HQ.out.1.uncut
      clear HQ
      refine hK.out _ _ hS (fun hS => ?_)
      clear hK K
      refine wpAnyH_ready (rs := [32, 36]) (by kernel_rfl) (by simp) (AllReadyH.cons rfl (fun K hK => ?_) (AllReadyH.cons rfl (fun K hK => ?_) (AllReadyH.nil)))
      · go_simp
        have hb : Below V31.heap.size V31 (V31.alloc (.cells #[.int .i64 l, .slice a29 nb c29, .slice d29 nk e29, .int .i64 l, .slice a31 nb c31, .slice d31 nk e31] 26)) := (Below.refl _ _).alloc (Nat.le_refl _) _
        have hS := hS.trans (hb.mono hS.size)
        have HF29 := hideP (HF29.out.moved hb)
        have HF31 := hideP (HF31.out.moved hb)
        clear hb
        have HG32 := hideP (heap_new V31 (.cells #[.int .i64 l, .slice a29 nb c29, .slice d29 nk e29, .int .i64 l, .slice a31 nb c31, .slice d31 nk e31] 26))
        have hN32 : ∃ Vn, Vn = V31.alloc (.cells #[.int .i64 l, .slice a29 nb c29, .slice d29 nk e29, .int .i64 l, .slice a31 nb c31, .slice d31 nk e31] 26) := ⟨_, rfl⟩
        obtain ⟨V32, hV32⟩ := hN32
        rw [← hV32] at hS HG32 HF29 HF31 ⊢
        refine hK.out _ _ hS (fun hS => ?_)
        clear hK K
        have HE32 := hideP hV32
        clear hV32
        refine wpAnyH_ready (rs := [33, 36]) (by kernel_rfl) (by simp) (AllReadyH.cons rfl (fun K hK => ?_) (AllReadyH.cons rfl (fun K hK => ?_) (AllReadyH.nil)))
        · go_simp
          obtain ⟨ks33, kk33⟩ := kids_two HG32.out HF29.out HF31.out
          refine (rlpList_any (ts := [.node l b k, .node l b k]) _ ks33 kk33 (by show (2 : Nat) ≤ _; omega) HTFK.out).mono ?_
          rintro r V33 ⟨⟨v33, rfl, hi33⟩, hb⟩
          clear HF29 HF31 HG32 ks33 kk33
          have hS := hS.trans (hb.mono hS.size)
          clear hb
          have HF33 := hideP hi33.uncut
          clear hi33
          refine hK.out _ _ hS (fun hS => ?_)
          clear hK K
          refine wpAnyH_ready (rs := [36]) (by kernel_rfl) (by simp) (AllReadyH.cons rfl (fun K hK => ?_) (AllReadyH.nil))
          go_simp
          have hb : Below V33.heap.size V33 (V33.alloc (.cells #[.int .i64 l, .slice xa nb xc, .slice ka nk kc, .int .i64 l, .slice xa nb xc, .slice ka nk kc] 26)) := (Below.refl _ _).alloc (Nat.le_refl _) _
          have hS := hS.trans (hb.mono hS.size)
          have HF33 := hideP (HF33.out.moved hb)
          clear hb
          have HG36 := hideP (heap_new V33 (.cells #[.int .i64 l, .slice xa nb xc, .slice ka nk kc, .int .i64 l, .slice xa nb xc, .slice ka nk kc] 26))
          have hN36 : ∃ Vn, Vn = V33.alloc (.cells #[.int .i64 l, .slice xa nb xc, .slice ka nk kc, .int .i64 l, .slice xa nb xc, .slice ka nk kc] 26) := ⟨_, rfl⟩
          obtain ⟨V36, hV36⟩ := hN36
          rw [← hV36] at hS HG36 HF33 ⊢
          refine hK.out _ _ hS (fun hS => ?_)
          clear hK K
          have HE36 := hideP hV36
          clear hV36
          refine wpAnyH_ready (rs := [37]) (by kernel_rfl) (by simp) (AllReadyH.cons rfl (fun K hK => ?_) (AllReadyH.nil))
          go_simp
          obtain ⟨_, kk37⟩ := kids_two HG36.out (HIX.out _ (HX15.out _ hS)) (HIX.out _ (HX15.out _ hS))
          refine (refList_any (c := 2) (ts := [.node l b k, .node l b k]) _ kk37 (by show 0 < (2 : Nat); omega) (by show (2 : Nat) ≤ _; omega)).mono ?_
          rintro r V37 ⟨⟨v37, rfl, hi37⟩, hb⟩
          clear HG36 kk37
          have hS := hS.trans (hb.mono hS.size)
          have HF33 := hideP (HF33.out.moved hb)
          clear hb
          have HF37 := hideP hi37
          clear hi37
          refine hK.out _ _ hS (fun hS => ?_)
          clear hK K
          refine wpAnyH_ready (rs := [38]) (by kernel_rfl) (by simp) (AllReadyH.cons rfl (fun K hK => ?_) (AllReadyH.nil))
          go_simp
          refine (same_eq HF33.out HF37.out).mono ?_
          rintro r V38 ⟨rfl, hb⟩
          clear HF33 HF37
          have hS := hS.trans (hb.mono hS.size)
          clear hb
          refine hK.out _ _ hS (fun hS => ?_)
          clear hK K
          refine wpAnyH_takeL (i := 39) (v := ?_) rfl (by kernel_rfl) (by kernel_rfl) (by kernel_rfl) (fun _ _ _ h => h) (Or.inl ⟨by kernel_rfl, ?_⟩) hS ?_
          rotate_left
          · intro V hV
            go_simp
            (try with_reducible rfl)
          simp only [put_list, List.set_cons_succ, List.set_cons_zero]
          refine wpAnyH_takeL (i := 40) (v := ?_) rfl (by kernel_rfl) (by kernel_rfl) (by kernel_rfl) (fun _ _ _ h => h) (Or.inl ⟨by kernel_rfl, ?_⟩) hS ?_
          rotate_left
          · intro V hV
            go_simp
            (try with_reducible rfl)
          simp only [put_list, List.set_cons_succ, List.set_cons_zero]
          refine wpAnyH_takeL (i := 41) (v := ?_) rfl (by kernel_rfl) (by kernel_rfl) (by kernel_rfl) (fun _ _ _ h => h) (Or.inl ⟨by kernel_rfl, ?_⟩) hS ?_
          rotate_left
          · intro V hV
            obtain ⟨cv1, cv2⟩ := HCV.out V hV
            obtain ⟨⟨z0, z1, z2, z3⟩, x0, x1, x2⟩ := HBX.out V (HX15.out V hV)
            go_simp
            (try with_reducible rfl)
          simp only [put_list, List.set_cons_succ, List.set_cons_zero]
          refine wpAnyH_takeL (i := 43) (v := ?_) rfl (by kernel_rfl) (by kernel_rfl) (by kernel_rfl) (fun _ _ _ h => h) (Or.inl ⟨by kernel_rfl, ?_⟩) hS ?_
          rotate_left
          · intro V hV
            obtain ⟨cv1, cv2⟩ := HCV.out V hV
            obtain ⟨⟨z0, z1, z2, z3⟩, x0, x1, x2⟩ := HBX.out V (HX15.out V hV)
            go_simp
            (try with_reducible rfl)
          simp only [put_list, List.set_cons_succ, List.set_cons_zero]
          refine wpAnyH_ready (rs := [42]) (by kernel_rfl) (by simp) (AllReadyH.cons rfl (fun K hK => ?_) (AllReadyH.nil))
          go_simp
          refine (HTW.out _ (HX15.out _ hS)).mono ?_
          rintro r V42 ⟨a42, c42, d42, e42, rfl, HQ⟩
          have hb := HQ.out.2.1
          have hS := hS.trans (hb.mono hS.size)
          clear hb
          have HF42 := hideP HQ.out.1.uncut
          clear HQ
          refine hK.out _ _ hS (fun hS => ?_)
          clear hK K
          refine wpAnyH_ready (rs := [44]) (by kernel_rfl) (by simp) (AllReadyH.cons rfl (fun K hK => ?_) (AllReadyH.nil))
          go_simp
          refine (HTW.out _ (HX15.out _ hS)).mono ?_
          rintro r V44 ⟨a44, c44, d44, e44, rfl, HQ⟩
          have hb := HQ.out.2.1
          have hS := hS.trans (hb.mono hS.size)
          have HF42 := hideP (HF42.out.moved hb)
          clear hb
          have HF44 := hideP HQ.out.1.uncut
          clear HQ
          refine hK.out _ _ hS (fun hS => ?_)
          clear hK K
          refine wpAnyH_ready (rs := [45]) (by kernel_rfl) (by simp) (AllReadyH.cons rfl (fun K hK => ?_) (AllReadyH.nil))
          go_simp
          refine (rlpSame_eq HF42.out HF44.out).mono ?_
          rintro r V45 ⟨rfl, hb⟩
          clear HF42 HF44
          have hS := hS.trans (hb.mono hS.size)
          clear hb
          refine hK.out _ _ hS (fun hS => ?_)
          clear hK K
          refine wpAnyH_takeL (i := 46) (v := ?_) rfl (by kernel_rfl) (by kernel_rfl) (by kernel_rfl) (fun _ _ _ h => h) (Or.inl ⟨by kernel_rfl, ?_⟩) hS ?_
          rotate_left
          · intro V hV
            go_simp
            (try with_reducible rfl)
          simp only [put_list, List.set_cons_succ, List.set_cons_zero]
          refine wpAnyH_ready (rs := [47]) (by kernel_rfl) (by simp) (AllReadyH.cons rfl (fun K hK => ?_) (AllReadyH.nil))
          go_simp
          refine hK.out _ _ hS (fun hS => ?_)
          clear hK K
          refine wpAnyH_done (by kernel_rfl) ?_ _
          have HBF := hideP (HBE.out.trans (hS.mono HBE.out.size))
          clear hS
          go_wp2
          go_ret
          exact ⟨rfl, HBF.out⟩
        · go_simp
          have hb : Below V32.heap.size V32 (V32.alloc (.cells #[.int .i64 l, .slice xa nb xc, .slice ka nk kc, .int .i64 l, .slice xa nb xc, .slice ka nk kc] 26)) := (Below.refl _ _).alloc (Nat.le_refl _) _
          have hS := hS.trans (hb.mono hS.size)
          have HF29 := hideP (HF29.out.moved hb)
          have HF31 := hideP (HF31.out.moved hb)
          have HG32 := hideP ((hb.block _ (lt_of_block HG32.out)).trans HG32.out)
          clear hb
          have HG36 := hideP (heap_new V32 (.cells #[.int .i64 l, .slice xa nb xc, .slice ka nk kc, .int .i64 l, .slice xa nb xc, .slice ka nk kc] 26))
          have hN36 : ∃ Vn, Vn = V32.alloc (.cells #[.int .i64 l, .slice xa nb xc, .slice ka nk kc, .int .i64 l, .slice xa nb xc, .slice ka nk kc] 26) := ⟨_, rfl⟩
          obtain ⟨V36, hV36⟩ := hN36
          rw [← hV36] at hS HG36 HF29 HF31 HG32 ⊢
          refine hK.out _ _ hS (fun hS => ?_)
          clear hK K
          have HE36 := hideP hV36
          clear hV36
          refine wpAnyH_ready (rs := [33]) (by kernel_rfl) (by simp) (AllReadyH.cons rfl (fun K hK => ?_) (AllReadyH.nil))
          go_simp
          obtain ⟨ks33, kk33⟩ := kids_two HG32.out HF29.out HF31.out
          refine (rlpList_any (ts := [.node l b k, .node l b k]) _ ks33 kk33 (by show (2 : Nat) ≤ _; omega) HTFK.out).mono ?_
          rintro r V33 ⟨⟨v33, rfl, hi33⟩, hb⟩
          clear HF29 HF31 HG32 ks33 kk33
          have hS := hS.trans (hb.mono hS.size)
          have HG36 := hideP ((hb.block _ (lt_of_block HG36.out)).trans HG36.out)
          clear hb
          have HF33 := hideP hi33.uncut
          clear hi33
          refine hK.out _ _ hS (fun hS => ?_)
          clear hK K
          refine wpAnyH_ready (rs := [37]) (by kernel_rfl) (by simp) (AllReadyH.cons rfl (fun K hK => ?_) (AllReadyH.nil))
          go_simp
          obtain ⟨_, kk37⟩ := kids_two HG36.out (HIX.out _ (HX15.out _ hS)) (HIX.out _ (HX15.out _ hS))
          refine (refList_any (c := 2) (ts := [.node l b k, .node l b k]) _ kk37 (by show 0 < (2 : Nat); omega) (by show (2 : Nat) ≤ _; omega)).mono ?_
          rintro r V37 ⟨⟨v37, rfl, hi37⟩, hb⟩
          clear HG36 kk37
          have hS := hS.trans (hb.mono hS.size)
          have HF33 := hideP (HF33.out.moved hb)
          clear hb
          have HF37 := hideP hi37
          clear hi37
          refine hK.out _ _ hS (fun hS => ?_)
          clear hK K
          refine wpAnyH_ready (rs := [38]) (by kernel_rfl) (by simp) (AllReadyH.cons rfl (fun K hK => ?_) (AllReadyH.nil))
          go_simp
          refine (same_eq HF33.out HF37.out).mono ?_
          rintro r V38 ⟨rfl, hb⟩
          clear HF33 HF37
          have hS := hS.trans (hb.mono hS.size)
          clear hb
          refine hK.out _ _ hS (fun hS => ?_)
          clear hK K
          refine wpAnyH_takeL (i := 39) (v := ?_) rfl (by kernel_rfl) (by kernel_rfl) (by kernel_rfl) (fun _ _ _ h => h) (Or.inl ⟨by kernel_rfl, ?_⟩) hS ?_
          rotate_left
          · intro V hV
            go_simp
            (try with_reducible rfl)
          simp only [put_list, List.set_cons_succ, List.set_cons_zero]
          refine wpAnyH_takeL (i := 40) (v := ?_) rfl (by kernel_rfl) (by kernel_rfl) (by kernel_rfl) (fun _ _ _ h => h) (Or.inl ⟨by kernel_rfl, ?_⟩) hS ?_
          rotate_left
          · intro V hV
            go_simp
            (try with_reducible rfl)
          simp only [put_list, List.set_cons_succ, List.set_cons_zero]
          refine wpAnyH_takeL (i := 41) (v := ?_) rfl (by kernel_rfl) (by kernel_rfl) (by kernel_rfl) (fun _ _ _ h => h) (Or.inl ⟨by kernel_rfl, ?_⟩) hS ?_
          rotate_left
          · intro V hV
            obtain ⟨cv1, cv2⟩ := HCV.out V hV
            obtain ⟨⟨z0, z1, z2, z3⟩, x0, x1, x2⟩ := HBX.out V (HX15.out V hV)
            go_simp
            (try with_reducible rfl)
          simp only [put_list, List.set_cons_succ, List.set_cons_zero]
          refine wpAnyH_takeL (i := 43) (v := ?_) rfl (by kernel_rfl) (by kernel_rfl) (by kernel_rfl) (fun _ _ _ h => h) (Or.inl ⟨by kernel_rfl, ?_⟩) hS ?_
          rotate_left
          · intro V hV
            obtain ⟨cv1, cv2⟩ := HCV.out V hV
            obtain ⟨⟨z0, z1, z2, z3⟩, x0, x1, x2⟩ := HBX.out V (HX15.out V hV)
            go_simp
            (try with_reducible rfl)
          simp only [put_list, List.set_cons_succ, List.set_cons_zero]
          refine wpAnyH_ready (rs := [42]) (by kernel_rfl) (by simp) (AllReadyH.cons rfl (fun K hK => ?_) (AllReadyH.nil))
          go_simp
          refine (HTW.out _ (HX15.out _ hS)).mono ?_
          rintro r V42 ⟨a42, c42, d42, e42, rfl, HQ⟩
          have hb := HQ.out.2.1
          have hS := hS.trans (hb.mono hS.size)
          clear hb
          have HF42 := hideP HQ.out.1.uncut
          clear HQ
          refine hK.out _ _ hS (fun hS => ?_)
          clear hK K
          refine wpAnyH_ready (rs := [44]) (by kernel_rfl) (by simp) (AllReadyH.cons rfl (fun K hK => ?_) (AllReadyH.nil))
          go_simp
          refine (HTW.out _ (HX15.out _ hS)).mono ?_
          rintro r V44 ⟨a44, c44, d44, e44, rfl, HQ⟩
          have hb := HQ.out.2.1
          have hS := hS.trans (hb.mono hS.size)
          have HF42 := hideP (HF42.out.moved hb)
          clear hb
          have HF44 := hideP HQ.out.1.uncut
          clear HQ
          refine hK.out _ _ hS (fun hS => ?_)
          clear hK K
          refine wpAnyH_ready (rs := [45]) (by kernel_rfl) (by simp) (AllReadyH.cons rfl (fun K hK => ?_) (AllReadyH.nil))
          go_simp
          refine (rlpSame_eq HF42.out HF44.out).mono ?_
          rintro r V45 ⟨rfl, hb⟩
          clear HF42 HF44
          have hS := hS.trans (hb.mono hS.size)
          clear hb
          refine hK.out _ _ hS (fun hS => ?_)
          clear hK K
          refine wpAnyH_takeL (i := 46) (v := ?_) rfl (by kernel_rfl) (by kernel_rfl) (by kernel_rfl) (fun _ _ _ h => h) (Or.inl ⟨by kernel_rfl, ?_⟩) hS ?_
          rotate_left
          · intro V hV
            go_simp
            (try with_reducible rfl)
          simp only [put_list, List.set_cons_succ, List.set_cons_zero]
          refine wpAnyH_ready (rs := [47]) (by kernel_rfl) (by simp) (AllReadyH.cons rfl (fun K hK => ?_) (AllReadyH.nil))
          go_simp
          refine hK.out _ _ hS (fun hS => ?_)
          clear hK K
          refine wpAnyH_done (by kernel_rfl) ?_ _
          have HBF := hideP (HBE.out.trans (hS.mono HBE.out.size))
          clear hS
          go_wp2
          go_ret
          exact ⟨rfl, HBF.out⟩
      · go_simp
        have hb : Below V31.heap.size V31 (V31.alloc (.cells #[.int .i64 l, .slice xa nb xc, .slice ka nk kc, .int .i64 l, .slice xa nb xc, .slice ka nk kc] 26)) := (Below.refl _ _).alloc (Nat.le_refl _) _
        have hS := hS.trans (hb.mono hS.size)
        have HF29 := hideP (HF29.out.moved hb)
        have HF31 := hideP (HF31.out.moved hb)
        clear hb
        have HG36 := hideP (heap_new V31 (.cells #[.int .i64 l, .slice xa nb xc, .slice ka nk kc, .int .i64 l, .slice xa nb xc, .slice ka nk kc] 26))
        have hN36 : ∃ Vn, Vn = V31.alloc (.cells #[.int .i64 l, .slice xa nb xc, .slice ka nk kc, .int .i64 l, .slice xa nb xc, .slice ka nk kc] 26) := ⟨_, rfl⟩
        obtain ⟨V36, hV36⟩ := hN36
        rw [← hV36] at hS HG36 HF29 HF31 ⊢
        refine hK.out _ _ hS (fun hS => ?_)
        clear hK K
        have HE36 := hideP hV36
        clear hV36
        refine wpAnyH_ready (rs := [32]) (by kernel_rfl) (by simp) (AllReadyH.cons rfl (fun K hK => ?_) (AllReadyH.nil))
        go_simp
        have hb : Below V36.heap.size V36 (V36.alloc (.cells #[.int .i64 l, .slice a29 nb c29, .slice d29 nk e29, .int .i64 l, .slice a31 nb c31, .slice d31 nk e31] 26)) := (Below.refl _ _).alloc (Nat.le_refl _) _
        have hS := hS.trans (hb.mono hS.size)
        have HF29 := hideP (HF29.out.moved hb)
        have HF31 := hideP (HF31.out.moved hb)
        have HG36 := hideP ((hb.block _ (lt_of_block HG36.out)).trans HG36.out)
        clear hb
        have HG32 := hideP (heap_new V36 (.cells #[.int .i64 l, .slice a29 nb c29, .slice d29 nk e29, .int .i64 l, .slice a31 nb c31, .slice d31 nk e31] 26))
        have hN32 : ∃ Vn, Vn = V36.alloc (.cells #[.int .i64 l, .slice a29 nb c29, .slice d29 nk e29, .int .i64 l, .slice a31 nb c31, .slice d31 nk e31] 26) := ⟨_, rfl⟩
        obtain ⟨V32, hV32⟩ := hN32
        rw [← hV32] at hS HG32 HF29 HF31 HG36 ⊢
        refine hK.out _ _ hS (fun hS => ?_)
        clear hK K
        have HE32 := hideP hV32
        clear hV32
        refine wpAnyH_ready (rs := [33]) (by kernel_rfl) (by simp) (AllReadyH.cons rfl (fun K hK => ?_) (AllReadyH.nil))
        go_simp
        obtain ⟨ks33, kk33⟩ := kids_two HG32.out HF29.out HF31.out
        refine (rlpList_any (ts := [.node l b k, .node l b k]) _ ks33 kk33 (by show (2 : Nat) ≤ _; omega) HTFK.out).mono ?_
        rintro r V33 ⟨⟨v33, rfl, hi33⟩, hb⟩
        clear HF29 HF31 HG32 ks33 kk33
        have hS := hS.trans (hb.mono hS.size)
        have HG36 := hideP ((hb.block _ (lt_of_block HG36.out)).trans HG36.out)
        clear hb
        have HF33 := hideP hi33.uncut
        clear hi33
        refine hK.out _ _ hS (fun hS => ?_)
        clear hK K
        refine wpAnyH_ready (rs := [37]) (by kernel_rfl) (by simp) (AllReadyH.cons rfl (fun K hK => ?_) (AllReadyH.nil))
        go_simp
        obtain ⟨_, kk37⟩ := kids_two HG36.out (HIX.out _ (HX15.out _ hS)) (HIX.out _ (HX15.out _ hS))
        refine (refList_any (c := 2) (ts := [.node l b k, .node l b k]) _ kk37 (by show 0 < (2 : Nat); omega) (by show (2 : Nat) ≤ _; omega)).mono ?_
        rintro r V37 ⟨⟨v37, rfl, hi37⟩, hb⟩
        clear HG36 kk37
        have hS := hS.trans (hb.mono hS.size)
        have HF33 := hideP (HF33.out.moved hb)
        clear hb
        have HF37 := hideP hi37
        clear hi37
        refine hK.out _ _ hS (fun hS => ?_)
        clear hK K
        refine wpAnyH_ready (rs := [38]) (by kernel_rfl) (by simp) (AllReadyH.cons rfl (fun K hK => ?_) (AllReadyH.nil))
        go_simp
        refine (same_eq HF33.out HF37.out).mono ?_
        rintro r V38 ⟨rfl, hb⟩
        clear HF33 HF37
        have hS := hS.trans (hb.mono hS.size)
        clear hb
        refine hK.out _ _ hS (fun hS => ?_)
        clear hK K
        refine wpAnyH_takeL (i := 39) (v := ?_) rfl (by kernel_rfl) (by kernel_rfl) (by kernel_rfl) (fun _ _ _ h => h) (Or.inl ⟨by kernel_rfl, ?_⟩) hS ?_
        rotate_left
        · intro V hV
          go_simp
          (try with_reducible rfl)
        simp only [put_list, List.set_cons_succ, List.set_cons_zero]
        refine wpAnyH_takeL (i := 40) (v := ?_) rfl (by kernel_rfl) (by kernel_rfl) (by kernel_rfl) (fun _ _ _ h => h) (Or.inl ⟨by kernel_rfl, ?_⟩) hS ?_
        rotate_left
        · intro V hV
          go_simp
          (try with_reducible rfl)
        simp only [put_list, List.set_cons_succ, List.set_cons_zero]
        refine wpAnyH_takeL (i := 41) (v := ?_) rfl (by kernel_rfl) (by kernel_rfl) (by kernel_rfl) (fun _ _ _ h => h) (Or.inl ⟨by kernel_rfl, ?_⟩) hS ?_
        rotate_left
        · intro V hV
          obtain ⟨cv1, cv2⟩ := HCV.out V hV
          obtain ⟨⟨z0, z1, z2, z3⟩, x0, x1, x2⟩ := HBX.out V (HX15.out V hV)
          go_simp
          (try with_reducible rfl)
        simp only [put_list, List.set_cons_succ, List.set_cons_zero]
        refine wpAnyH_takeL (i := 43) (v := ?_) rfl (by kernel_rfl) (by kernel_rfl) (by kernel_rfl) (fun _ _ _ h => h) (Or.inl ⟨by kernel_rfl, ?_⟩) hS ?_
        rotate_left
        · intro V hV
          obtain ⟨cv1, cv2⟩ := HCV.out V hV
          obtain ⟨⟨z0, z1, z2, z3⟩, x0, x1, x2⟩ := HBX.out V (HX15.out V hV)
          go_simp
          (try with_reducible rfl)
        simp only [put_list, List.set_cons_succ, List.set_cons_zero]
        refine wpAnyH_ready (rs := [42]) (by kernel_rfl) (by simp) (AllReadyH.cons rfl (fun K hK => ?_) (AllReadyH.nil))
        go_simp
        refine (HTW.out _ (HX15.out _ hS)).mono ?_
        rintro r V42 ⟨a42, c42, d42, e42, rfl, HQ⟩
        have hb := HQ.out.2.1
        have hS := hS.trans (hb.mono hS.size)
        clear hb
        have HF42 := hideP HQ.out.1.uncut
        clear HQ
        refine hK.out _ _ hS (fun hS => ?_)
        clear hK K
        refine wpAnyH_ready (rs := [44]) (by kernel_rfl) (by simp) (AllReadyH.cons rfl (fun K hK => ?_) (AllReadyH.nil))
        go_simp
        refine (HTW.out _ (HX15.out _ hS)).mono ?_
        rintro r V44 ⟨a44, c44, d44, e44, rfl, HQ⟩
        have hb := HQ.out.2.1
        have hS := hS.trans (hb.mono hS.size)
        have HF42 := hideP (HF42.out.moved hb)
        clear hb
        have HF44 := hideP HQ.out.1.uncut
        clear HQ
        refine hK.out _ _ hS (fun hS => ?_)
        clear hK K
        refine wpAnyH_ready (rs := [45]) (by kernel_rfl) (by simp) (AllReadyH.cons rfl (fun K hK => ?_) (AllReadyH.nil))
        go_simp
        refine (rlpSame_eq HF42.out HF44.out).mono ?_
        rintro r V45 ⟨rfl, hb⟩
        clear HF42 HF44
        have hS := hS.trans (hb.mono hS.size)
        clear hb
        refine hK.out _ _ hS (fun hS => ?_)
        clear hK K
        refine wpAnyH_takeL (i := 46) (v := ?_) rfl (by kernel_rfl) (by kernel_rfl) (by kernel_rfl) (fun _ _ _ h => h) (Or.inl ⟨by kernel_rfl, ?_⟩) hS ?_
        rotate_left
        · intro V hV
          go_simp
          (try with_reducible rfl)
        simp only [put_list, List.set_cons_succ, List.set_cons_zero]
        refine wpAnyH_ready (rs := [47]) (by kernel_rfl) (by simp) (AllReadyH.cons rfl (fun K hK => ?_) (AllReadyH.nil))
        go_simp
        refine hK.out _ _ hS (fun hS => ?_)
        clear hK K
        refine wpAnyH_done (by kernel_rfl) ?_ _
        have HBF := hideP (HBE.out.trans (hS.mono HBE.out.size))
        clear hS
        go_wp2
        go_ret
        exact ⟨rfl, HBF.out⟩
    · go_simp
      have hb : Below V29.heap.size V29 (V29.alloc (.cells #[.int .i64 l, .slice xa nb xc, .slice ka nk kc, .int .i64 l, .slice xa nb xc, .slice ka nk kc] 26)) := (Below.refl _ _).alloc (Nat.le_refl _) _
      have hS := hS.trans (hb.mono hS.size)
      have HF29 := hideP (HF29.out.moved hb)
      clear hb
      have HG36 := hideP (heap_new V29 (.cells #[.int .i64 l, .slice xa nb xc, .slice ka nk kc, .int .i64 l, .slice xa nb xc, .slice ka nk kc] 26))
      have hN36 : ∃ Vn, Vn = V29.alloc (.cells #[.int .i64 l, .slice xa nb xc, .slice ka nk kc, .int .i64 l, .slice xa nb xc, .slice ka nk kc] 26) := ⟨_, rfl⟩
      obtain ⟨V36, hV36⟩ := hN36
      rw [← hV36] at hS HG36 HF29 ⊢
      refine hK.out _ _ hS (fun hS => ?_)
      clear hK K
      have HE36 := hideP hV36
      clear hV36
      refine wpAnyH_ready (rs := [31]) (by kernel_rfl) (by simp) (AllReadyH.cons rfl (fun K hK => ?_) (AllReadyH.nil))
      go_simp
      refine (HTW.out _ (HX15.out _ hS)).mono ?_
      rintro r V31 ⟨a31, c31, d31, e31, rfl, HQ⟩
      have hb := HQ.out.2.1
      have hS := hS.trans (hb.mono hS.size)
      have HF29 := hideP (HF29.out.moved hb)
      have HG36 := hideP ((hb.block _ (lt_of_block HG36.out)).trans HG36.out)
      clear hb
      have HF31 := hideP HQ.out.1.uncut
      clear HQ
      refine hK.out _ _ hS (fun hS => ?_)
      clear hK K
      refine wpAnyH_ready (rs := [32]) (by kernel_rfl) (by simp) (AllReadyH.cons rfl (fun K hK => ?_) (AllReadyH.nil))
      go_simp
      have hb : Below V31.heap.size V31 (V31.alloc (.cells #[.int .i64 l, .slice a29 nb c29, .slice d29 nk e29, .int .i64 l, .slice a31 nb c31, .slice d31 nk e31] 26)) := (Below.refl _ _).alloc (Nat.le_refl _) _
      have hS := hS.trans (hb.mono hS.size)
      have HF29 := hideP (HF29.out.moved hb)
      have HG36 := hideP ((hb.block _ (lt_of_block HG36.out)).trans HG36.out)
      have HF31 := hideP (HF31.out.moved hb)
      clear hb
      have HG32 := hideP (heap_new V31 (.cells #[.int .i64 l, .slice a29 nb c29, .slice d29 nk e29, .int .i64 l, .slice a31 nb c31, .slice d31 nk e31] 26))
      have hN32 : ∃ Vn, Vn = V31.alloc (.cells #[.int .i64 l, .slice a29 nb c29, .slice d29 nk e29, .int .i64 l, .slice a31 nb c31, .slice d31 nk e31] 26) := ⟨_, rfl⟩
      obtain ⟨V32, hV32⟩ := hN32
      rw [← hV32] at hS HG32 HF29 HG36 HF31 ⊢
      refine hK.out _ _ hS (fun hS => ?_)
      clear hK K
      have HE32 := hideP hV32
      clear hV32
      refine wpAnyH_ready (rs := [33]) (by kernel_rfl) (by simp) (AllReadyH.cons rfl (fun K hK => ?_) (AllReadyH.nil))
      go_simp
      obtain ⟨ks33, kk33⟩ := kids_two HG32.out HF29.out HF31.out
      refine (rlpList_any (ts := [.node l b k, .node l b k]) _ ks33 kk33 (by show (2 : Nat) ≤ _; omega) HTFK.out).mono ?_
      rintro r V33 ⟨⟨v33, rfl, hi33⟩, hb⟩
      clear HF29 HF31 HG32 ks33 kk33
      have hS := hS.trans (hb.mono hS.size)
      have HG36 := hideP ((hb.block _ (lt_of_block HG36.out)).trans HG36.out)
      clear hb
      have HF33 := hideP hi33.uncut
      clear hi33
      refine hK.out _ _ hS (fun hS => ?_)
      clear hK K
      refine wpAnyH_ready (rs := [37]) (by kernel_rfl) (by simp) (AllReadyH.cons rfl (fun K hK => ?_) (AllReadyH.nil))
      go_simp
      obtain ⟨_, kk37⟩ := kids_two HG36.out (HIX.out _ (HX15.out _ hS)) (HIX.out _ (HX15.out _ hS))
      refine (refList_any (c := 2) (ts := [.node l b k, .node l b k]) _ kk37 (by show 0 < (2 : Nat); omega) (by show (2 : Nat) ≤ _; omega)).mono ?_
      rintro r V37 ⟨⟨v37, rfl, hi37⟩, hb⟩
      clear HG36 kk37
      have hS := hS.trans (hb.mono hS.size)
      have HF33 := hideP (HF33.out.moved hb)
      clear hb
      have HF37 := hideP hi37
      clear hi37
      refine hK.out _ _ hS (fun hS => ?_)
      clear hK K
      refine wpAnyH_ready (rs := [38]) (by kernel_rfl) (by simp) (AllReadyH.cons rfl (fun K hK => ?_) (AllReadyH.nil))
      go_simp
      refine (same_eq HF33.out HF37.out).mono ?_
      rintro r V38 ⟨rfl, hb⟩
      clear HF33 HF37
      have hS := hS.trans (hb.mono hS.size)
      clear hb
      refine hK.out _ _ hS (fun hS => ?_)
      clear hK K
      refine wpAnyH_takeL (i := 39) (v := ?_) rfl (by kernel_rfl) (by kernel_rfl) (by kernel_rfl) (fun _ _ _ h => h) (Or.inl ⟨by kernel_rfl, ?_⟩) hS ?_
      rotate_left
      · intro V hV
        go_simp
        (try with_reducible rfl)
      simp only [put_list, List.set_cons_succ, List.set_cons_zero]
      refine wpAnyH_takeL (i := 40) (v := ?_) rfl (by kernel_rfl) (by kernel_rfl) (by kernel_rfl) (fun _ _ _ h => h) (Or.inl ⟨by kernel_rfl, ?_⟩) hS ?_
      rotate_left
      · intro V hV
        go_simp
        (try with_reducible rfl)
      simp only [put_list, List.set_cons_succ, List.set_cons_zero]
      refine wpAnyH_takeL (i := 41) (v := ?_) rfl (by kernel_rfl) (by kernel_rfl) (by kernel_rfl) (fun _ _ _ h => h) (Or.inl ⟨by kernel_rfl, ?_⟩) hS ?_
      rotate_left
      · intro V hV
        obtain ⟨cv1, cv2⟩ := HCV.out V hV
        obtain ⟨⟨z0, z1, z2, z3⟩, x0, x1, x2⟩ := HBX.out V (HX15.out V hV)
        go_simp
        (try with_reducible rfl)
      simp only [put_list, List.set_cons_succ, List.set_cons_zero]
      refine wpAnyH_takeL (i := 43) (v := ?_) rfl (by kernel_rfl) (by kernel_rfl) (by kernel_rfl) (fun _ _ _ h => h) (Or.inl ⟨by kernel_rfl, ?_⟩) hS ?_
      rotate_left
      · intro V hV
        obtain ⟨cv1, cv2⟩ := HCV.out V hV
        obtain ⟨⟨z0, z1, z2, z3⟩, x0, x1, x2⟩ := HBX.out V (HX15.out V hV)
        go_simp
        (try with_reducible rfl)
      simp only [put_list, List.set_cons_succ, List.set_cons_zero]
      refine wpAnyH_ready (rs := [42]) (by kernel_rfl) (by simp) (AllReadyH.cons rfl (fun K hK => ?_) (AllReadyH.nil))
      go_simp
      refine (HTW.out _ (HX15.out _ hS)).mono ?_
      rintro r V42 ⟨a42, c42, d42, e42, rfl, HQ⟩
      have hb := HQ.out.2.1
      have hS := hS.trans (hb.mono hS.size)
      clear hb
      have HF42 := hideP HQ.out.1.uncut
      clear HQ
      refine hK.out _ _ hS (fun hS => ?_)
      clear hK K
      refine wpAnyH_ready (rs := [44]) (by kernel_rfl) (by simp) (AllReadyH.cons rfl (fun K hK => ?_) (AllReadyH.nil))
      go_simp
      refine (HTW.out _ (HX15.out _ hS)).mono ?_
      rintro r V44 ⟨a44, c44, d44, e44, rfl, HQ⟩
      have hb := HQ.out.2.1
      have hS := hS.trans (hb.mono hS.size)
      have HF42 := hideP (HF42.out.moved hb)
      clear hb
      have HF44 := hideP HQ.out.1.uncut
      clear HQ
      refine hK.out _ _ hS (fun hS => ?_)
      clear hK K
      refine wpAnyH_ready (rs := [45]) (by kernel_rfl) (by simp) (AllReadyH.cons rfl (fun K hK => ?_) (AllReadyH.nil))
      go_simp
      refine (rlpSame_eq HF42.out HF44.out).mono ?_
      rintro r V45 ⟨rfl, hb⟩
      clear HF42 HF44
      have hS := hS.trans (hb.mono hS.size)
      clear hb
      refine hK.out _ _ hS (fun hS => ?_)
      clear hK K
      refine wpAnyH_takeL (i := 46) (v := ?_) rfl (by kernel_rfl) (by kernel_rfl) (by kernel_rfl) (fun _ _ _ h => h) (Or.inl ⟨by kernel_rfl, ?_⟩) hS ?_
      rotate_left
      · intro V hV
        go_simp
        (try with_reducible rfl)
      simp only [put_list, List.set_cons_succ, List.set_cons_zero]
      refine wpAnyH_ready (rs := [47]) (by kernel_rfl) (by simp) (AllReadyH.cons rfl (fun K hK => ?_) (AllReadyH.nil))
      go_simp
      refine hK.out _ _ hS (fun hS => ?_)
      clear hK K
      refine wpAnyH_done (by kernel_rfl) ?_ _
      have HBF := hideP (HBE.out.trans (hS.mono HBE.out.size))
      clear hS
      go_wp2
      go_ret
      exact ⟨rfl, HBF.out⟩
  · go_simp
    have hb : Below V25.heap.size V25 (V25.alloc (.cells #[.int .i64 l, .slice xa nb xc, .slice ka nk kc, .int .i64 l, .slice xa nb xc, .slice ka nk kc] 26)) := (Below.refl _ _).alloc (Nat.le_refl _) _
    have hS := hS.trans (hb.mono hS.size)
    clear hb
    have HG36 := hideP (heap_new V25 (.cells #[.int .i64 l, .slice xa nb xc, .slice ka nk kc, .int .i64 l, .slice xa nb xc, .slice ka nk kc] 26))
    have hN36 : ∃ Vn, Vn = V25.alloc (.cells #[.int .i64 l, .slice xa nb xc, .slice ka nk kc, .int .i64 l, .slice xa nb xc, .slice ka nk kc] 26) := ⟨_, rfl⟩
    obtain ⟨V36, hV36⟩ := hN36
    rw [← hV36] at hS HG36 ⊢
    refine hK.out _ _ hS (fun hS => ?_)
    clear hK K
    have HE36 := hideP hV36
    clear hV36
    refine wpAnyH_ready (rs := [29]) (by kernel_rfl) (by simp) (AllReadyH.cons rfl (fun K hK => ?_) (AllReadyH.nil))
    go_simp
    refine (HTW.out _ (HX15.out _ hS)).mono ?_
    rintro r V29 ⟨a29, c29, d29, e29, rfl, HQ⟩
    have hb := HQ.out.2.1
    have hS := hS.trans (hb.mono hS.size)
    have HG36 := hideP ((hb.block _ (lt_of_block HG36.out)).trans HG36.out)
    clear hb
    have HF29 := hideP HQ.out.1.uncut
    clear HQ
    refine hK.out _ _ hS (fun hS => ?_)
    clear hK K
    refine wpAnyH_ready (rs := [31]) (by kernel_rfl) (by simp) (AllReadyH.cons rfl (fun K hK => ?_) (AllReadyH.nil))
    go_simp
    refine (HTW.out _ (HX15.out _ hS)).mono ?_
    rintro r V31 ⟨a31, c31, d31, e31, rfl, HQ⟩
    have hb := HQ.out.2.1
    have hS := hS.trans (hb.mono hS.size)
    have HG36 := hideP ((hb.block _ (lt_of_block HG36.out)).trans HG36.out)
    have HF29 := hideP (HF29.out.moved hb)
    clear hb
    have HF31 := hideP HQ.out.1.uncut
    clear HQ
    refine hK.out _ _ hS (fun hS => ?_)
    clear hK K
    refine wpAnyH_ready (rs := [32]) (by kernel_rfl) (by simp) (AllReadyH.cons rfl (fun K hK => ?_) (AllReadyH.nil))
    go_simp
    have hb : Below V31.heap.size V31 (V31.alloc (.cells #[.int .i64 l, .slice a29 nb c29, .slice d29 nk e29, .int .i64 l, .slice a31 nb c31, .slice d31 nk e31] 26)) := (Below.refl _ _).alloc (Nat.le_refl _) _
    have hS := hS.trans (hb.mono hS.size)
    have HG36 := hideP ((hb.block _ (lt_of_block HG36.out)).trans HG36.out)
    have HF29 := hideP (HF29.out.moved hb)
    have HF31 := hideP (HF31.out.moved hb)
    clear hb
    have HG32 := hideP (heap_new V31 (.cells #[.int .i64 l, .slice a29 nb c29, .slice d29 nk e29, .int .i64 l, .slice a31 nb c31, .slice d31 nk e31] 26))
    have hN32 : ∃ Vn, Vn = V31.alloc (.cells #[.int .i64 l, .slice a29 nb c29, .slice d29 nk e29, .int .i64 l, .slice a31 nb c31, .slice d31 nk e31] 26) := ⟨_, rfl⟩
    obtain ⟨V32, hV32⟩ := hN32
    rw [← hV32] at hS HG32 HG36 HF29 HF31 ⊢
    refine hK.out _ _ hS (fun hS => ?_)
    clear hK K
    have HE32 := hideP hV32
    clear hV32
    refine wpAnyH_ready (rs := [33]) (by kernel_rfl) (by simp) (AllReadyH.cons rfl (fun K hK => ?_) (AllReadyH.nil))
    go_simp
    obtain ⟨ks33, kk33⟩ := kids_two HG32.out HF29.out HF31.out
    refine (rlpList_any (ts := [.node l b k, .node l b k]) _ ks33 kk33 (by show (2 : Nat) ≤ _; omega) HTFK.out).mono ?_
    rintro r V33 ⟨⟨v33, rfl, hi33⟩, hb⟩
    clear HF29 HF31 HG32 ks33 kk33
    have hS := hS.trans (hb.mono hS.size)
    have HG36 := hideP ((hb.block _ (lt_of_block HG36.out)).trans HG36.out)
    clear hb
    have HF33 := hideP hi33.uncut
    clear hi33
    refine hK.out _ _ hS (fun hS => ?_)
    clear hK K
    refine wpAnyH_ready (rs := [37]) (by kernel_rfl) (by simp) (AllReadyH.cons rfl (fun K hK => ?_) (AllReadyH.nil))
    go_simp
    obtain ⟨_, kk37⟩ := kids_two HG36.out (HIX.out _ (HX15.out _ hS)) (HIX.out _ (HX15.out _ hS))
    refine (refList_any (c := 2) (ts := [.node l b k, .node l b k]) _ kk37 (by show 0 < (2 : Nat); omega) (by show (2 : Nat) ≤ _; omega)).mono ?_
    rintro r V37 ⟨⟨v37, rfl, hi37⟩, hb⟩
    clear HG36 kk37
    have hS := hS.trans (hb.mono hS.size)
    have HF33 := hideP (HF33.out.moved hb)
    clear hb
    have HF37 := hideP hi37
    clear hi37
    refine hK.out _ _ hS (fun hS => ?_)
    clear hK K
    refine wpAnyH_ready (rs := [38]) (by kernel_rfl) (by simp) (AllReadyH.cons rfl (fun K hK => ?_) (AllReadyH.nil))
    go_simp
    refine (same_eq HF33.out HF37.out).mono ?_
    rintro r V38 ⟨rfl, hb⟩
    clear HF33 HF37
    have hS := hS.trans (hb.mono hS.size)
    clear hb
    refine hK.out _ _ hS (fun hS => ?_)
    clear hK K
    refine wpAnyH_takeL (i := 39) (v := ?_) rfl (by kernel_rfl) (by kernel_rfl) (by kernel_rfl) (fun _ _ _ h => h) (Or.inl ⟨by kernel_rfl, ?_⟩) hS ?_
    rotate_left
    · intro V hV
      go_simp
      (try with_reducible rfl)
    simp only [put_list, List.set_cons_succ, List.set_cons_zero]
    refine wpAnyH_takeL (i := 40) (v := ?_) rfl (by kernel_rfl) (by kernel_rfl) (by kernel_rfl) (fun _ _ _ h => h) (Or.inl ⟨by kernel_rfl, ?_⟩) hS ?_
    rotate_left
    · intro V hV
      go_simp
      (try with_reducible rfl)
    simp only [put_list, List.set_cons_succ, List.set_cons_zero]
    refine wpAnyH_takeL (i := 41) (v := ?_) rfl (by kernel_rfl) (by kernel_rfl) (by kernel_rfl) (fun _ _ _ h => h) (Or.inl ⟨by kernel_rfl, ?_⟩) hS ?_
    rotate_left
    · intro V hV
      obtain ⟨cv1, cv2⟩ := HCV.out V hV
      obtain ⟨⟨z0, z1, z2, z3⟩, x0, x1, x2⟩ := HBX.out V (HX15.out V hV)
      go_simp
      (try with_reducible rfl)
    simp only [put_list, List.set_cons_succ, List.set_cons_zero]
    refine wpAnyH_takeL (i := 43) (v := ?_) rfl (by kernel_rfl) (by kernel_rfl) (by kernel_rfl) (fun _ _ _ h => h) (Or.inl ⟨by kernel_rfl, ?_⟩) hS ?_
    rotate_left
    · intro V hV
      obtain ⟨cv1, cv2⟩ := HCV.out V hV
      obtain ⟨⟨z0, z1, z2, z3⟩, x0, x1, x2⟩ := HBX.out V (HX15.out V hV)
      go_simp
      (try with_reducible rfl)
    simp only [put_list, List.set_cons_succ, List.set_cons_zero]
    refine wpAnyH_ready (rs := [42]) (by kernel_rfl) (by simp) (AllReadyH.cons rfl (fun K hK => ?_) (AllReadyH.nil))
    go_simp
    refine (HTW.out _ (HX15.out _ hS)).mono ?_
    rintro r V42 ⟨a42, c42, d42, e42, rfl, HQ⟩
    have hb := HQ.out.2.1
    have hS := hS.trans (hb.mono hS.size)
    clear hb
    have HF42 := hideP HQ.out.1.uncut
    clear HQ
    refine hK.out _ _ hS (fun hS => ?_)
    clear hK K
    refine wpAnyH_ready (rs := [44]) (by kernel_rfl) (by simp) (AllReadyH.cons rfl (fun K hK => ?_) (AllReadyH.nil))
    go_simp
    refine (HTW.out _ (HX15.out _ hS)).mono ?_
    rintro r V44 ⟨a44, c44, d44, e44, rfl, HQ⟩
    have hb := HQ.out.2.1
    have hS := hS.trans (hb.mono hS.size)
    have HF42 := hideP (HF42.out.moved hb)
    clear hb
    have HF44 := hideP HQ.out.1.uncut
    clear HQ
    refine hK.out _ _ hS (fun hS => ?_)
    clear hK K
    refine wpAnyH_ready (rs := [45]) (by kernel_rfl) (by simp) (AllReadyH.cons rfl (fun K hK => ?_) (AllReadyH.nil))
    go_simp
    refine (rlpSame_eq HF42.out HF44.out).mono ?_
    rintro r V45 ⟨rfl, hb⟩
    clear HF42 HF44
    have hS := hS.trans (hb.mono hS.size)
    clear hb
    refine hK.out _ _ hS (fun hS => ?_)
    clear hK K
    refine wpAnyH_takeL (i := 46) (v := ?_) rfl (by kernel_rfl) (by kernel_rfl) (by kernel_rfl) (fun _ _ _ h => h) (Or.inl ⟨by kernel_rfl, ?_⟩) hS ?_
    rotate_left
    · intro V hV
      go_simp
      (try with_reducible rfl)
    simp only [put_list, List.set_cons_succ, List.set_cons_zero]
    refine wpAnyH_ready (rs := [47]) (by kernel_rfl) (by simp) (AllReadyH.cons rfl (fun K hK => ?_) (AllReadyH.nil))
    go_simp
    refine hK.out _ _ hS (fun hS => ?_)
    clear hK K
    refine wpAnyH_done (by kernel_rfl) ?_ _
    have HBF := hideP (HBE.out.trans (hS.mono HBE.out.size))
    clear hS
    go_wp2
    go_ret
    exact ⟨rfl, HBF.out⟩

end Go.Proofs.Ytigebmidfddbcaa
