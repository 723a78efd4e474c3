/-
  law's spoil: an item's memory is written over, and nothing else.
-/
import Derived.Test.YtigebmidfddbcaaRlpMeansC34
namespace Go.Proofs.Ytigebmidfddbcaa
open Go.RowKit Go.Shelf

/-- Between two places all memory may be written to. -/
def ThawR (N K : Nat) (w : World) : Prop := ∀ (k : Nat) (o : Obj), N ≤ k → k < K → w.heap[k]? = some o → o.isCells = true → ∃ cs t, o = .cells cs t (0, 0)

theorem ThawR.alloc {N K : Nat} {w : World} (h : ThawR N K w) (cs : Array Value) (t : TypeId) : ThawR N K (w.alloc (.cells cs t (0, 0))) := fun k o h1 hK h2 h3 => by
  by_cases hk : k < w.heap.size
  · exact h k o h1 hK ((heap_old w _ hk).symm.trans h2) h3
  · have hl := lt_of_block h2
    rw [World.size_alloc] at hl
    have hk' : k = w.heap.size := by omega
    subst hk'
    rw [heap_new] at h2
    cases h2
    exact ⟨_, _, rfl⟩

theorem ThawR.set {N K : Nat} {w : World} (h : ThawR N K w) (a : Addr) (v : Value) : ThawR N K (w.setCell a v) := fun k o h1 hK h2 h3 => by
  by_cases hk : k = a.block
  · subst hk
    have hl := lt_of_block h2
    rw [World.size_setCell] at hl
    obtain ⟨o0, h0⟩ : ∃ o0, w.heap[a.block]? = some o0 := ⟨_, Array.getElem?_eq_getElem hl⟩
    cases hc : o0.isCells with
    | true =>
      obtain ⟨cs, t, rfl⟩ := h _ _ h1 hK h0 hc
      simp [World.setCell, Array.getElem?_modify, h0] at h2
      subst h2
      exact ⟨_, _, rfl⟩
    | false =>
      simp only [World.setCell, Array.getElem?_modify, if_true, h0, Option.map_some, Option.some.injEq] at h2
      subst h2
      cases o0 <;> simp [Obj.isCells] at hc h3
  · exact h k o h1 hK ((Below.heap_setCell _ _ _ _ hk).symm.trans h2) h3

theorem ThawR.free {N K : Nat} {w : World} (h : ThawR N K w) {a : Addr} {v : Value} (ha : N ≤ a.block) (hK : a.block < K) (hc : w.cell? a = some v) : w.frozen? a = false := by
  obtain ⟨o, ho, hoc⟩ := isCells_of_cell hc
  obtain ⟨cs, t, rfl⟩ := h _ _ ha hK ho hoc
  simp [World.frozen?, ho]

/-- What a cell may become. -/
def EvV (u u' : Value) : Prop := u' = u ∨ (∃ k x y, u = .int k x ∧ u' = .int k y) ∨ ∃ q n c, u = .slice q n c ∧ u' = .slice none 0 0

theorem EvV.trans {a b c : Value} (h : EvV a b) (k : EvV b c) : EvV a c := by
  rcases h with rfl | ⟨kk, x, y, rfl, rfl⟩ | ⟨q, n, cc, rfl, rfl⟩
  · exact k
  · rcases k with rfl | ⟨k2, x2, y2, e, rfl⟩ | ⟨q2, n2, c2, e, _⟩
    · exact .inr (.inl ⟨_, _, _, rfl, rfl⟩)
    · cases e; exact .inr (.inl ⟨_, _, _, rfl, rfl⟩)
    · cases e
  · rcases k with rfl | ⟨k2, x2, y2, e, rfl⟩ | ⟨q2, n2, c2, e, rfl⟩
    · exact .inr (.inr ⟨_, _, _, rfl, rfl⟩)
    · cases e
    · exact .inr (.inr ⟨_, _, _, rfl, rfl⟩)

/-- What becomes of memory: only blocks from N on, below K, are written to. -/
structure Ev (N K : Nat) (w w' : World) : Prop where
  os : w'.os = w.os
  tape : w'.tape = w.tape
  output : w'.output = w.output
  size : w.heap.size ≤ w'.heap.size
  keep : ∀ k, k < w.heap.size → (k < N ∨ K ≤ k) → w'.heap[k]? = w.heap[k]?
  cell : ∀ a u, w.cell? a = some u → ∃ u', w'.cell? a = some u' ∧ EvV u u'
  thaw : ThawR N K w → ThawR N K w'

theorem Ev.trans {N K : Nat} {a b c : World} (h : Ev N K a b) (k : Ev N K b c) : Ev N K a c :=
  ⟨k.os.trans h.os, k.tape.trans h.tape, k.output.trans h.output, Nat.le_trans h.size k.size, fun i hi hr => (k.keep i (Nat.lt_of_lt_of_le hi h.size) hr).trans (h.keep i hi hr), fun x u hu => by
    obtain ⟨u1, h1, e1⟩ := h.cell x u hu
    obtain ⟨u2, h2, e2⟩ := k.cell x u1 h1
    exact ⟨u2, h2, e1.trans e2⟩, fun ht => k.thaw (h.thaw ht)⟩

theorem Ev.refl (N K : Nat) (w : World) : Ev N K w w := ⟨rfl, rfl, rfl, Nat.le_refl _, fun _ _ _ => rfl, fun _ u hu => ⟨u, hu, .inl rfl⟩, fun h => h⟩

theorem Ev.drew {N K : Nat} {a b : World} (h : Ev N K a b) : Ev N K a b.drew := ⟨h.os, h.tape, h.output, h.size, h.keep, h.cell, fun ht => h.thaw ht⟩

theorem Ev.alloc {N K : Nat} (w : World) (cs : Array Value) (t : TypeId) : Ev N K w (w.alloc (.cells cs t (0, 0))) :=
  ⟨rfl, rfl, rfl, by simp, fun k hk _ => heap_old w _ hk, fun a u hu => ⟨u, (cell_congr (heap_old w _ (World.block_lt_of_cell? w _ hu))).trans hu, .inl rfl⟩, fun h => h.alloc _ _⟩

theorem Ev.set {N K : Nat} {w : World} {a : Addr} {u v : Value} (hc : w.cell? a = some u) (h1 : N ≤ a.block) (h2 : a.block < K) (he : EvV u v) : Ev N K w (w.setCell a v) := by
  refine ⟨rfl, rfl, rfl, by simp, fun k _ hr => Below.heap_setCell _ _ _ _ (by omega), fun b x hx => ?_, fun h => h.set _ _⟩
  by_cases hb : b = a
  · subst hb
    rw [hc] at hx
    cases hx
    exact ⟨v, World.cell?_setCell_same _ _ _ hc, he⟩
  · exact ⟨x, (World.cell?_setCell_other _ _ _ _ (Ne.symm hb)).trans hx, .inl rfl⟩

/-- Bytes that are written over. -/
def SpB (N K : Nat) (w : World) (bs : Value) : Prop := ∃ q n c, bs = .slice q n c ∧ n ≤ 9223372036854775807 ∧ ∀ i, i < n → ∃ ad : Addr, q = some ad ∧ N ≤ ad.block ∧ ad.block < K ∧ ∃ x : Int, w.cell? (ad.add i) = some (.int .u8 x)

/-- Kids that are written over, so deep. -/
def SpK (N K : Nat) : Nat → World → Value → Prop
  | 0, _, ks => ∃ q c, ks = .slice q 0 c
  | d + 1, w, ks => ∃ q n c, ks = .slice q n c ∧ n ≤ 9223372036854775807 ∧ ∀ i, i < n → ∃ g, q = some ⟨g, 0, none⟩ ∧ N ≤ g ∧ g < K ∧ ∃ (l : Int) (b k : Value), w.cell? ⟨g, i * 3, none⟩ = some (.int .i64 l) ∧ w.cell? ⟨g, i * 3 + 1, none⟩ = some b ∧ w.cell? ⟨g, i * 3 + 2, none⟩ = some k ∧ SpB N K w b ∧ SpK N K d w k

theorem SpB.nil (N K : Nat) (w : World) : SpB N K w (.slice none 0 0) := ⟨none, 0, 0, rfl, by omega, fun i hi => absurd hi (by omega)⟩

theorem SpK.nil (N K : Nat) : ∀ (d : Nat) (w : World), SpK N K d w (.slice none 0 0)
  | 0, _ => ⟨none, 0, rfl⟩
  | _ + 1, _ => ⟨none, 0, 0, rfl, by omega, fun i hi => absurd hi (by omega)⟩

theorem SpB.shape {N K : Nat} {w : World} {b : Value} (h : SpB N K w b) : ∃ q n c, b = .slice q n c := by
  obtain ⟨q, n, c, e, _⟩ := h
  exact ⟨_, _, _, e⟩

theorem SpK.shape {N K : Nat} : ∀ {d : Nat} {w : World} {b : Value}, SpK N K d w b → ∃ q n c, b = .slice q n c
  | 0, _, _, h => by obtain ⟨q, c, e⟩ := h; exact ⟨_, _, _, e⟩
  | _ + 1, _, _, h => by obtain ⟨q, n, c, e, _⟩ := h; exact ⟨_, _, _, e⟩

theorem SpB.ev {N K : Nat} {w w' : World} {b : Value} (h : SpB N K w b) (he : Ev N K w w') : SpB N K w' b := by
  obtain ⟨q, n, c, rfl, hn, hr⟩ := h
  refine ⟨q, n, c, rfl, hn, fun i hi => ?_⟩
  obtain ⟨ad, e, h1, h2, x, hx⟩ := hr i hi
  obtain ⟨u', hu, hev⟩ := he.cell _ _ hx
  rcases hev with rfl | ⟨k, x2, y, e2, rfl⟩ | ⟨_, _, _, e2, _⟩
  · exact ⟨ad, e, h1, h2, x, hu⟩
  · cases e2; exact ⟨ad, e, h1, h2, y, hu⟩
  · cases e2

theorem SpK.ev {N K : Nat} : ∀ {d : Nat} {w w' : World} {b : Value}, SpK N K d w b → Ev N K w w' → SpK N K d w' b
  | 0, _, _, _, h, _ => h
  | d + 1, w, w', b, h, he => by
    obtain ⟨q, n, c, rfl, hn, hr⟩ := h
    refine ⟨q, n, c, rfl, hn, fun i hi => ?_⟩
    obtain ⟨g, e, h1, h2, l, b, k, c0, c1, c2, hb, hk⟩ := hr i hi
    obtain ⟨u0, d0, e0⟩ := he.cell _ _ c0
    obtain ⟨u1, d1, e1⟩ := he.cell _ _ c1
    obtain ⟨u2, d2, e2⟩ := he.cell _ _ c2
    have hl : ∃ l', u0 = .int .i64 l' := by
      rcases e0 with rfl | ⟨_, _, y, e3, rfl⟩ | ⟨_, _, _, e3, _⟩
      · exact ⟨_, rfl⟩
      · cases e3; exact ⟨_, rfl⟩
      · cases e3
    obtain ⟨l', rfl⟩ := hl
    refine ⟨g, e, h1, h2, l', u1, u2, d0, d1, d2, ?_, ?_⟩
    · obtain ⟨_, _, _, rfl⟩ := hb.shape
      rcases e1 with rfl | ⟨_, _, _, e3, _⟩ | ⟨_, _, _, _, rfl⟩
      · exact hb.ev he
      · cases e3
      · exact SpB.nil _ _ _
    · obtain ⟨_, _, _, rfl⟩ := hk.shape
      rcases e2 with rfl | ⟨_, _, _, e3, _⟩ | ⟨_, _, _, _, rfl⟩
      · exact hk.ev he
      · cases e3
      · exact SpK.nil _ _ _ _

/-- An item in new memory can be written over. -/
theorem sp_of {N : Nat} {w : World} : ∀ (M : Nat) (t : Tree) (v : Value), t.num ≤ M → t.fits → IsItem (cut N w) t v → ∃ (l : Int) (bs ks : Value), v = .agg #[.int .i64 l, bs, ks] ∧ SpB N w.heap.size w bs ∧ SpK N w.heap.size M w ks
  | 0, t, _, h, _, _ => absurd t.num_pos (by omega)
  | M + 1, .node l b k, v, h, hfit, hI => by
    obtain ⟨ao, c, ao', c', rfl, hB, hK, hKids⟩ := hI.form
    have e3 : maxLen = 9223372036854775807 := by decide
    unfold Tree.num at h
    unfold Tree.fits at hfit
    refine ⟨l, _, _, rfl, ⟨ao, b.length, c, rfl, by have := hB.le; have := hB.room; omega, fun i hi => ?_⟩, ao', k.length, c', rfl, by have := hK.le; have := hK.room; omega, fun i hi => ?_⟩
    · obtain ⟨ad, e, hc⟩ := hB.cell i hi
      obtain ⟨h1, h2⟩ := cut_cell.1 hc
      rw [add_block] at h1
      have h3 := World.block_lt_of_cell? w _ h2
      rw [add_block] at h3
      exact ⟨ad, e, h1, h3, _, h2⟩
    · have hki := List.getElem?_eq_getElem hi
      obtain ⟨g, v0, v1, v2, e, c0, c1, c2, hit⟩ := hKids.get hki
      rw [Nat.zero_add] at c0 c1 c2
      obtain ⟨h1, h2⟩ := cut_cell.1 c0
      have hm := Tree.nums_mem (List.mem_of_getElem? hki)
      obtain ⟨l', b', k', e', hb', hk'⟩ := sp_of M k[i] _ (by omega) (Tree.fitsK_get hfit.2.2 hki) hit
      simp only [Value.agg.injEq, Array.mk.injEq, List.cons.injEq, and_true] at e'
      obtain ⟨rfl, rfl, rfl⟩ := e'
      exact ⟨g, e, h1, World.block_lt_of_cell? w _ h2, l', _, _, h2, (cut_cell.1 c1).2, (cut_cell.1 c2).2, hb', hk'⟩

set_option maxHeartbeats 4000000 in
set_option maxRecDepth 100000 in
theorem spoil_step {N K : Nat} (d : Nat) (IH : ∀ d', d = d' + 1 → ∀ (l : Int) (bs ks : Value) (w : World), SpB N K w bs → SpK N K d' w ks → ThawR N K w → K ≤ w.heap.size →
    Calls Try.prog 35 #[.agg #[.int .i64 l, bs, ks]] w fun e w' => e = .returned (.tuple #[]) ∧ Hid (Ev N K w w')) (l : Int) (bs ks : Value) (w : World) (hb : SpB N K w bs) (hk : SpK N K d w ks) (ht : ThawR N K w) (hK : K ≤ w.heap.size) :
    Calls Try.prog 35 #[.agg #[.int .i64 l, bs, ks]] w fun e w' => e = .returned (.tuple #[]) ∧ Hid (Ev N K w w') := by
  obtain ⟨q, n, c, eb⟩ := hb.shape
  obtain ⟨q2, n2, c2, ek⟩ := hk.shape
  obtain ⟨W0, hW0⟩ : ∃ W0, W0 = w.alloc (.cells #[.int .i64 l, bs, ks] 26 (0, 0)) := ⟨_, rfl⟩
  have h0 : Ev N K w W0 := by rw [hW0]; exact Ev.alloc w _ _
  have hbox : W0.heap[w.heap.size]? = some (.cells #[.int .i64 l, bs, ks] 26 (0, 0)) := by rw [hW0]; exact heap_new w _
  have HBX : Hid (∀ V, Ev N K W0 V → V.cell? ⟨w.heap.size, 1, none⟩ = some (.slice q n c) ∧ V.cell? ⟨w.heap.size, 2, none⟩ = some (.slice q2 n2 c2)) := fun V hV => by
    have h9 := (hV.keep _ (lt_of_block hbox) (.inr hK)).trans hbox
    rw [eb, ek] at h9
    exact ⟨blk_cell h9 rfl, blk_cell h9 rfl⟩
  have HB := hideP (hb.ev h0)
  have HKK := hideP (hk.ev h0)
  have HT := hideP (h0.thaw ht)
  have HZ : Hid (K ≤ W0.heap.size) := Nat.le_trans hK h0.size
  have H0 := hideP h0
  have HIH := hideP IH
  have HW0 := hideP hW0
  have hn : n ≤ 9223372036854775807 := by
    obtain ⟨q', n', c', e, h9, _⟩ := hb
    rw [eb] at e
    cases e
    exact h9
  have hn2 : n2 ≤ 9223372036854775807 := by
    cases d with
    | zero =>
      obtain ⟨q', c', e⟩ := hk
      rw [ek] at e
      cases e
      omega
    | succ d =>
      obtain ⟨q', n', c', e, h9, _⟩ := hk
      rw [ek] at e
      cases e
      exact h9
  subst eb ek
  clear hb hk ht hK h0 hbox hW0 IH
  go_enter Try.func35, Try.ntmps35
  go_wp2_with fail
  rw [← HW0.out]
  go_loopw [2] (fun i wr => ∃ j : Nat, j ≤ n ∧ i = .int .i64 j ∧ Hid (Ev N K W0 wr)) (fun i _ => n - (intOf i).toNat)
  case atStart => exact ⟨0, Nat.zero_le _, rfl, Ev.refl _ _ _⟩
  case round =>
    obtain ⟨j, hj, rfl, HE⟩ := hrel
    obtain ⟨x1, _⟩ := HBX.out wr HE.out
    by_cases hjl : j < n
    · have hjl' : (j : Int) < (n : Int) := by omega
      obtain ⟨q', n', c', e, _, hr⟩ := HB.out.ev HE.out
      cases e
      obtain ⟨ad, rfl, h1, h2, x, hx⟩ := hr j hjl
      have hf : wr.frozen? (ad.add j) = false := (HE.out.thaw HT.out).free (by rw [add_block]; exact h1) (by rw [add_block]; exact h2) hx
      have t2 : IntKind.i64.wrap ((j : Int) + 1) = (j : Int) + 1 := by rw [IntKind.wrap_i64]; omega
      have HN : Hid (∀ y, Ev N K W0 (wr.drew.setCell (ad.add j) (.int .u8 y)) ∧ Ev N K W0 (wr.setCell (ad.add j) (.int .u8 y)).drew ∧ Ev N K W0 (wr.setCell (ad.add j) (.int .u8 y))) := fun y => by
        have h9 : Ev N K wr (wr.setCell (ad.add j) (.int .u8 y)) := Ev.set hx (by rw [add_block]; exact h1) (by rw [add_block]; exact h2) (.inr (.inl ⟨_, _, _, rfl, rfl⟩))
        exact ⟨(HE.out.trans h9).drew, (HE.out.trans h9).drew, HE.out.trans h9⟩
      clear hr h1 h2 HE
      go_wp2
      go_region
      go_wp2
      go_roundw
      case rel => exact ⟨j + 1, by omega, by go_num, by first | exact (HN.out _).1 | exact (HN.out _).2.1 | exact (HN.out _).2.2⟩
      case measure => simp [intOf]; omega
    · have hjl' : ¬ (j : Int) < (n : Int) := by omega
      go_wp2
      clear x1
      go_loopw [3] (fun i wr => ∃ j : Nat, j ≤ n2 ∧ i = .int .i64 j ∧ Hid (Ev N K W0 wr)) (fun i _ => n2 - (intOf i).toNat)
      case atStart => exact ⟨0, Nat.zero_le _, rfl, HE⟩
      case round =>
        clear hj hjl hjl' HE
        obtain ⟨j, hj, rfl, HE⟩ := hrel
        obtain ⟨_, x2⟩ := HBX.out wr HE.out
        by_cases hjl : j < n2
        · have hjl' : (j : Int) < (n2 : Int) := by omega
          cases d with
          | zero =>
            obtain ⟨q', c', e⟩ := HKK.out
            cases e
            omega
          | succ d =>
          obtain ⟨q', n', c', e, _, hr⟩ := HKK.out.ev HE.out
          cases e
          obtain ⟨g, rfl, h1, h2, l', b', k', d0, d1, d2, hb', hk'⟩ := hr j hjl
          have hcall := HIH.out d rfl l' b' k' wr hb' hk' (HE.out.thaw HT.out) (Nat.le_trans HZ.out HE.out.size)
          obtain ⟨qb, nb, cb, rfl⟩ := hb'.shape
          obtain ⟨qk, nk, ck, rfl⟩ := hk'.shape
          have t2 : IntKind.i64.wrap ((j : Int) + 1) = (j : Int) + 1 := by rw [IntKind.wrap_i64]; omega
          have HC : Hid (Calls Try.prog 35 #[.agg #[.int .i64 l', .slice qb nb cb, .slice qk nk ck]] wr fun e w5 => e = .returned (.tuple #[]) ∧ w5.cell? ⟨w.heap.size, 2, none⟩ = some (.slice (some ⟨g, 0, none⟩) n2 c2) ∧ (∃ u0 u1 u2, w5.cell? ⟨g, j * 3, none⟩ = some u0 ∧ w5.cell? ⟨g, j * 3 + 1, none⟩ = some u1 ∧ w5.cell? ⟨g, j * 3 + 2, none⟩ = some u2) ∧ (∀ i, w5.frozen? ⟨g, i, none⟩ = false) ∧ Hid (Ev N K W0 (((w5.setCell ⟨g, j * 3, none⟩ (.int .i64 1)).setCell ⟨g, j * 3 + 1, none⟩ (.slice none 0 0)).setCell ⟨g, j * 3 + 2, none⟩ (.slice none 0 0)))) := by
            refine hcall.mono ?_
            rintro e w5 ⟨rfl, HE5⟩
            have hE5 := HE.out.trans HE5.out
            obtain ⟨u0, f0, v0⟩ := HE5.out.cell _ _ d0
            obtain ⟨u1, f1, v1⟩ := HE5.out.cell _ _ d1
            obtain ⟨u2, f2, v2⟩ := HE5.out.cell _ _ d2
            have hT5 := hE5.thaw HT.out
            refine ⟨rfl, (HBX.out w5 hE5).2, ⟨u0, u1, u2, f0, f1, f2⟩, fun i => ?_, ?_⟩
            · obtain ⟨o, ho, hoc⟩ := isCells_of_cell f0
              obtain ⟨cs, t, rfl⟩ := hT5 _ _ h1 h2 ho hoc
              simp [World.frozen?, ho]
            · have s0 : EvV u0 (.int .i64 1) := by
                rcases v0 with rfl | ⟨_, _, y, e3, rfl⟩ | ⟨_, _, _, e3, _⟩
                · exact .inr (.inl ⟨_, _, _, rfl, rfl⟩)
                · cases e3; exact .inr (.inl ⟨_, _, _, rfl, rfl⟩)
                · cases e3
              have s1 : EvV u1 (.slice none 0 0) := by
                rcases v1 with rfl | ⟨_, _, y, e3, rfl⟩ | ⟨_, _, _, _, rfl⟩
                · exact .inr (.inr ⟨_, _, _, rfl, rfl⟩)
                · cases e3
                · exact .inl rfl
              have s2 : EvV u2 (.slice none 0 0) := by
                rcases v2 with rfl | ⟨_, _, y, e3, rfl⟩ | ⟨_, _, _, _, rfl⟩
                · exact .inr (.inr ⟨_, _, _, rfl, rfl⟩)
                · cases e3
                · exact .inl rfl
              have z1 : Ev N K w5 (w5.setCell ⟨g, j * 3, none⟩ (.int .i64 1)) := Ev.set f0 h1 h2 s0
              have f1' : (w5.setCell ⟨g, j * 3, none⟩ (.int .i64 1)).cell? ⟨g, j * 3 + 1, none⟩ = some u1 := (World.cell?_setCell_other _ _ _ _ (by simp)).trans f1
              have z2 := Ev.set (N := N) (K := K) f1' h1 h2 s1
              have f2' : ((w5.setCell ⟨g, j * 3, none⟩ (.int .i64 1)).setCell ⟨g, j * 3 + 1, none⟩ (.slice none 0 0)).cell? ⟨g, j * 3 + 2, none⟩ = some u2 := (World.cell?_setCell_other _ _ _ _ (by simp)).trans ((World.cell?_setCell_other _ _ _ _ (by simp)).trans f2)
              have z3 := Ev.set (N := N) (K := K) f2' h1 h2 s2
              exact ((hE5.trans z1).trans z2).trans z3
          clear hcall hr hb' hk' h1 h2 HE
          go_wp2_with fail
          refine HC.out.mono ?_
          rintro e w5 ⟨rfl, x5, ⟨u0, u1, u2, f0, f1, f2⟩, hf5, HE5⟩
          clear HC d0 d1 d2 x2
          go_wp2
          go_roundw
          case rel => exact ⟨j + 1, by omega, by go_num, HE5⟩
          case measure => simp [intOf]; omega
        · have hjl' : ¬ (j : Int) < (n2 : Int) := by omega
          have HEE : Hid (Ev N K w wr) := H0.out.trans HE.out
          clear HE
          go_wp2
          go_end0
          exact ⟨rfl, HEE⟩

set_option maxHeartbeats 4000000 in
set_option maxRecDepth 100000 in
theorem spoil_all {N K : Nat} : ∀ (d : Nat) (l : Int) (bs ks : Value) (w : World), SpB N K w bs → SpK N K d w ks → ThawR N K w → K ≤ w.heap.size →
    Calls Try.prog 35 #[.agg #[.int .i64 l, bs, ks]] w fun e w' => e = .returned (.tuple #[]) ∧ Hid (Ev N K w w') := by
  intro d
  induction d with
  | zero => exact fun l bs ks w hb hk ht hK => spoil_step 0 (fun d' h => absurd h (by omega)) l bs ks w hb hk ht hK
  | succ d ih => exact fun l bs ks w hb hk ht hK => spoil_step (d + 1) (fun d' h => by cases h; exact ih) l bs ks w hb hk ht hK

end Go.Proofs.Ytigebmidfddbcaa
