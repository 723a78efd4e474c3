/-
  The form of an item, as the writer lays it.
-/
import Derived.Test.YtigebmidfddbcaaRlpMeansC11
namespace Go.Proofs.Ytigebmidfddbcaa
open Go.RowKit Go.Shelf

attribute [local go_sem] Oper.semAt_some

mutual
/-- The form of an item. -/
def Tree.enc : Tree → List Nat
  | .node l b k => if b.length = 1 ∧ lb b 0 < 128 then b ++ Tree.encs k else hdB (if l = 0 then 128 else 192) (b ++ Tree.encs k).length ++ (b ++ Tree.encs k)

def Tree.encs : List Tree → List Nat
  | [] => []
  | t :: ts => t.enc ++ Tree.encs ts

end

theorem Tree.encs_cons (t : Tree) (ts : List Tree) : Tree.encs (t :: ts) = t.enc ++ Tree.encs ts := by rw [Tree.encs]

theorem Tree.encs_drop : ∀ (k : List Tree) (m : Nat), (Tree.encs (k.drop m)).length ≤ (Tree.encs k).length
  | k, 0 => by rw [List.drop_zero]; exact Nat.le_refl _
  | [], m + 1 => by rw [List.drop_nil]; exact Nat.le_refl _
  | t :: ts, m + 1 => by
    rw [List.drop_succ_cons, Tree.encs_cons, List.length_append]
    have := Tree.encs_drop ts m
    omega

/-- The words of kids in a row. -/
theorem IsKids.words {w : World} {k : List Tree} {ao : Option Addr} (h : IsKids w k ao 0) (h0 : 0 < k.length) :
    ∃ g K, ao = some ⟨g, 0, none⟩ ∧ g < w.heap.size ∧ ∀ j t, k[j]? = some t → (w.cell? ⟨g, j * 3, none⟩ = some (.int .i64 (K.l j)) ∧ w.cell? ⟨g, j * 3 + 1, none⟩ = some (.slice (K.a j) (K.n j) (K.c j)) ∧ w.cell? ⟨g, j * 3 + 2, none⟩ = some (.slice (K.a' j) (K.n' j) (K.c' j))) ∧ IsItem w t (KW.val K j) := by
  obtain ⟨g, v0, v1, v2, e, c0, _, _, _⟩ := h.get (j := 0) (List.getElem?_eq_getElem h0)
  subst e
  have hg : g < w.heap.size := World.block_lt_of_cell? w _ c0
  have hw : ∀ j, ∃ (q : Int × (Option Addr × Nat × Nat) × (Option Addr × Nat × Nat)), ∀ t, k[j]? = some t → (w.cell? ⟨g, j * 3, none⟩ = some (.int .i64 q.1) ∧ w.cell? ⟨g, j * 3 + 1, none⟩ = some (.slice q.2.1.1 q.2.1.2.1 q.2.1.2.2) ∧ w.cell? ⟨g, j * 3 + 2, none⟩ = some (.slice q.2.2.1 q.2.2.2.1 q.2.2.2.2)) ∧
      IsItem w t (.agg #[.int .i64 q.1, .slice q.2.1.1 q.2.1.2.1 q.2.1.2.2, .slice q.2.2.1 q.2.2.2.1 q.2.2.2.2]) := fun j => by
    cases hj : k[j]? with
    | none => exact ⟨(0, (none, 0, 0), (none, 0, 0)), fun t ht => by cases ht⟩
    | some s =>
      obtain ⟨g', u0, u1, u2, e, d0, d1, d2, hi⟩ := h.get (j := j) hj
      cases e
      rw [Nat.zero_add] at d0 d1 d2
      cases s with
      | node l b kk =>
        obtain ⟨a1, e1, a2, e2, hv, _, _, _⟩ := hi.form
        simp only [Value.agg.injEq, Array.mk.injEq, List.cons.injEq, and_true] at hv
        obtain ⟨rfl, rfl, rfl⟩ := hv
        exact ⟨(l, (a1, b.length, e1), (a2, kk.length, e2)), fun t ht => by cases ht; exact ⟨⟨d0, d1, d2⟩, hi⟩⟩
  exact ⟨g, { l := fun j => (hw j).choose.1, a := fun j => (hw j).choose.2.1.1, n := fun j => (hw j).choose.2.1.2.1, c := fun j => (hw j).choose.2.1.2.2, a' := fun j => (hw j).choose.2.2.1, n' := fun j => (hw j).choose.2.2.2.1, c' := fun j => (hw j).choose.2.2.2.2 }, rfl, hg, fun j t ht => (hw j).choose_spec t ht⟩

theorem Fr.putObj {P G : Nat} {w w' : World} (h : Fr P G w w') {l : Nat} (o : Obj) (hl : w.heap.size ≤ l) (hP : P < w.heap.size) : Fr P G w (w'.putObj l o) :=
  ⟨h.below.trans ⟨rfl, rfl, rfl, by simp [World.putObj], fun k hk => World.putObj_heap_other (by omega)⟩, fun b h1 h2 h3 => (World.putObj_heap_other (by omega)).trans (h.same b h1 h2 h3)⟩

theorem WR.putObj {w : World} {P G n a : Nat} {g : Nat → Nat} (h : WR w P G n a g) {l : Nat} (o : Obj) (hP : P ≠ l) (hG : G ≠ l) : WR (w.putObj l o) P G n a g :=
  ⟨(World.putObj_heap_other hP).trans h.p, (World.putObj_heap_other hG).trans h.f, h.ne, h.le, h.room⟩

theorem WR.lt {w : World} {P G n a : Nat} {g : Nat → Nat} (h : WR w P G n a g) : P < w.heap.size ∧ G < w.heap.size := ⟨lt_of_block h.p, lt_of_block h.f⟩

set_option maxHeartbeats 16000000 in
set_option maxRecDepth 100000 in
theorem item_all : ∀ (N : Nat) (t : Tree) (w0 w : World) (v : Value) (P G n a : Nat) (g : Nat → Nat), t.num ≤ N → IsItem w0 t v → Below w0.heap.size w0 w → w0.heap.size ≤ P → w0.heap.size ≤ G → WR w P G n (a + t.enc.length) g →
    Calls Try.prog 49 #[.pointer (some ⟨P, 0, none⟩), v] w fun e w' => e = .returned (.tuple #[]) ∧ WR w' P G n a (wrt g a t.enc) ∧ Fr P G w w'
  | 0, t, _, _, _, _, _, _, _, _, h, _, _, _, _, _ => absurd t.num_pos (by omega)
  | N + 1, .node l b k, w0, w, v, P, G, n, a, g, hN, hI, hb0, hP0, hG0, hWR => by
    obtain ⟨ao, c, ao', c', rfl, hB, hK, hKids⟩ := hI.form
    have hlt := hWR.lt
    have hAle := hWR.le
    have hroom := hWR.room
    have cp0 := blk_cell hWR.p (o := 0) rfl
    have cp1 := blk_cell hWR.p (o := 1) rfl
    have hPl := hlt.1
    generalize hA : a + (Tree.node l b k).enc.length = A at *
    generalize hnb : b.length = nb at *
    generalize hnk : k.length = nk at *
    refine (callsIn_wide (n := 6)).1 ?_
    refine callsIn_of_wp_marks Try.func49 rfl trivial ?_ rfl
    simp only [Try.ntmps49, List.size_toArray, List.length_cons, List.length_nil, Nat.reduceAdd, Nat.reduceSub, Array.replicate_succ, Array.replicate_zero, List.push_toArray, List.append_toArray, List.nil_append, List.cons_append]
    gi_wp2_with (refine ⟨trivial, ?_⟩; gi_at_call 70; refine (back_in _ _ _ _ _).mono ?_; rintro e w' ⟨rfl, rfl⟩)
    generalize hW0 : ((w.alloc (.cells #[.pointer (some ⟨P, 0, none⟩)] 117)).alloc (.cells #[.int .i64 l, .slice ao nb c, .slice ao' nk c'] 26)).alloc (.cells #[.slice ao' nk c'] 24) = W0
    have hsz0 : W0.heap.size = w.heap.size + 3 := by rw [← hW0]; simp
    have hbW0 : Below w.heap.size w W0 := by
      rw [← hW0]
      repeat first | exact Below.refl _ _ | (refine Below.alloc ?_ (by simp <;> omega) _)
    have hbx0 : W0.heap[w.heap.size]? = some (.cells #[.pointer (some ⟨P, 0, none⟩)] 117 (0, 0)) := by
      rw [← hW0]; exact ((heap_old _ _ (by simp <;> omega)).trans (heap_old _ _ (by simp))).trans (heap_new _ _)
    have hbx1 : W0.heap[w.heap.size + 1]? = some (.cells #[.int .i64 l, .slice ao nb c, .slice ao' nk c'] 26 (0, 0)) := by
      rw [← hW0]; refine (heap_old _ _ (by simp)).trans ?_
      have := heap_new (w.alloc (.cells #[.pointer (some ⟨P, 0, none⟩)] 117)) (.cells #[.int .i64 l, .slice ao nb c, .slice ao' nk c'] 26)
      rwa [World.size_alloc] at this
    have hbx2 : W0.heap[w.heap.size + 1 + 1]? = some (.cells #[.slice ao' nk c'] 24 (0, 0)) := by
      rw [← hW0]
      have := heap_new ((w.alloc (.cells #[.pointer (some ⟨P, 0, none⟩)] 117)).alloc (.cells #[.int .i64 l, .slice ao nb c, .slice ao' nk c'] 26)) (.cells #[.slice ao' nk c'] 24)
      rwa [World.size_alloc, World.size_alloc] at this
    have hWR0 : WR W0 P G n A g := hWR.kept hbW0
    have hb00 : Below w0.heap.size w0 W0 := hb0.trans (hbW0.mono hb0.size)
    clear hW0 cp0 cp1
    obtain ⟨K, Kp, hgive, hKpF, hKpp, hkid⟩ : ∃ (K : KW) (Kp : World → World → Prop), Gives (6 - 1) Try.prog 80 #[.pointer (some ⟨w.heap.size + 1 + 1, 0, none⟩)] (fun q => #[.int .i64 ((nk - 1 - q : Nat) : Int), K.val (nk - 1 - q)]) nk Kp W0 ∧
        (∀ V V', (∀ b, b < W0.heap.size → b ≠ P → b ≠ G → V'.heap[b]? = V.heap[b]?) → Kp V V') ∧ (∀ V V' l' o o', Kp V V' → W0.heap.size ≤ l' → V'.heap[l']? = some o → o.isCells = false → Kp V (V'.putObj l' o')) ∧ ∀ j t, k[j]? = some t → IsItem w0 t (K.val j) := by
      by_cases hk0 : nk = 0
      · refine ⟨⟨fun _ => 0, fun _ => none, fun _ => 0, fun _ => 0, fun _ => none, fun _ => 0, fun _ => 0⟩, fun _ _ => True, ?_, fun _ _ _ => trivial, fun _ _ _ _ _ _ _ _ _ => trivial, fun j t ht => ?_⟩
        · subst hk0
          exact back_gives_nil _ _ _ _ _ _ _ (blk_cell hbx2 rfl)
        · have := (List.getElem?_eq_some_iff.1 ht).1
          omega
      · obtain ⟨gk, K, rfl, hgk, hkw⟩ := hKids.words (by omega)
        have hrow : RowB (w.heap.size + 1 + 1) gk nk c' K W0 := by
          refine ⟨blk_cell hbx2 rfl, fun j hj => ?_⟩
          obtain ⟨⟨d0, d1, d2⟩, _⟩ := hkw j k[j] (List.getElem?_eq_getElem (by omega))
          exact ⟨(hb00.cell (p := ⟨gk, j * 3, none⟩) hgk).trans d0, (hb00.cell (p := ⟨gk, j * 3 + 1, none⟩) hgk).trans d1, (hb00.cell (p := ⟨gk, j * 3 + 2, none⟩) hgk).trans d2⟩
        have hnm : nk ≤ 9223372036854775807 := by
          have e1 := hK.le
          have e2 := hK.room
          have e3 : maxLen = 9223372036854775807 := by decide
          omega
        have hs0 := hb00.size
        refine ⟨K, KpB (w.heap.size + 1 + 1) gk nk c' K, back_gives _ (by omega) _ _ _ _ _ hnm _ hrow (by omega), fun V V' hs => KpB.of_same (hs _ (by omega) (by omega) (by omega)) (hs _ (by omega) (by omega) (by omega)), fun V V' l' o o' h hl _ _ => KpB.trans h (KpB.of_same (World.putObj_heap_other (by omega)) (World.putObj_heap_other (by omega))), fun j t ht => (hkw j t ht).2⟩
    have hEL : (Tree.encs k).length ≤ (Tree.node l b k).enc.length := by
      unfold Tree.enc
      split <;> simp <;> omega
    have hSL : ∀ q, (Tree.encs (k.drop (nk - q))).length ≤ A := fun q => by
      have := Tree.encs_drop k (nk - q)
      omega
    let S : Nat → List Nat := fun q => Tree.encs (k.drop (nk - q))
    refine range_seq (n := 6) (by omega) rfl (enters_of Try.func80 (by kernel_rfl) rfl) (fun q => #[.int .i64 ((nk - 1 - q : Nat) : Int), K.val (nk - 1 - q)]) nk (fun _ => rfl) Kp hgive
      (fun q W => WR W P G n (A - (S q).length) (wrt g (A - (S q).length) (S q)) ∧ Fr P G W0 W) (fun _ _ => False)
      (fun q V V' h hb => ⟨h.1.kept hb, h.2.trans (Fr.ofBelow hb (Or.inl h.1.lt.1))⟩) (fun _ _ _ h _ => h)
      (fun q V l' o o' h hl _ _ => ⟨h.1.putObj _ (by omega) (by omega), h.2.putObj _ hl (by omega)⟩) (fun _ _ _ _ _ h _ _ _ => h) hKpp ?h0 ?round ?done ?stop
    case h0 =>
      have hS0 : S 0 = [] := by
        show Tree.encs (k.drop (nk - 0)) = []
        rw [List.drop_eq_nil_of_le (by omega), Tree.encs]
      rw [hS0, wrt_nil]
      exact ⟨hWR0, Fr.refl _ _ _⟩
    case stop => exact fun _ _ _ _ h _ => h.elim
    case round =>
      rintro l' q W hq ⟨hwr, hfr⟩ hl' ⟨rr, hlr⟩
      have hjl : nk - 1 - q < k.length := by omega
      have hSq : S (q + 1) = (k[nk - 1 - q]).enc ++ S q := by
        show Tree.encs (k.drop (nk - (q + 1))) = _ ++ Tree.encs (k.drop (nk - q))
        rw [show nk - (q + 1) = nk - 1 - q by omega, List.drop_eq_getElem_cons hjl, Tree.encs_cons, show nk - 1 - q + 1 = nk - q by omega]
      have hitm := hkid _ _ (List.getElem?_eq_getElem hjl)
      have hmem := List.getElem_mem hjl
      have hIH := item_all N k[nk - 1 - q]
      have hnum := Tree.nums_mem hmem
      generalize k[nk - 1 - q] = tq at *
      have hsl1 := hSL (q + 1)
      change (S (q + 1)).length ≤ A at hsl1
      unfold Tree.num at hN
      have hcp := (hfr.same _ (by omega) (by omega) (by omega)).trans hbx0
      have hszW := hfr.below.size
      simp only [KW.val] at hitm ⊢
      generalize K.l (nk - 1 - q) = kl at *
      generalize K.a (nk - 1 - q) = ka at *
      generalize K.n (nk - 1 - q) = kn at *
      generalize K.c (nk - 1 - q) = kc at *
      generalize K.a' (nk - 1 - q) = ka' at *
      generalize K.n' (nk - 1 - q) = kn' at *
      generalize K.c' (nk - 1 - q) = kc' at *
      have HALL := hideP (And.intro hwr (And.intro hfr (And.intro hcp (And.intro hlr (And.intro hSq (And.intro hIH (And.intro hKpF hb00)))))))
      clear hwr hfr hcp hlr hSq hIH hKpF hgive hKpp hkid hbx0 hbx1 hbx2 hWR0 hb00 hEL hKids hK hB hI hWR hbW0
      gi_wp2
      obtain ⟨hwr, hfr, hcp, hlr, hSq, hIH, hKpF, hb00⟩ := HALL.out
      refine ⟨(KeepsOthers.alloc W _).from _, fun r => ?_⟩
      have hl'W := lt_of_block hlr
      have hPG := hwr.lt
      have hotr : ∀ b, b < W.heap.size → b ≠ l' → ((W.alloc (.cells #[.int .i64 kl, .slice ka kn kc, .slice ka' kn' kc'] 26)).putObj l' (.loop r)).heap[b]? = W.heap[b]? := fun b h1 h2 => (World.putObj_heap_other h2).trans (heap_old _ _ h1)
      have hkb : ((W.alloc (.cells #[.int .i64 kl, .slice ka kn kc, .slice ka' kn' kc'] 26)).putObj l' (.loop r)).heap[W.heap.size]? = some (.cells #[.int .i64 kl, .slice ka kn kc, .slice ka' kn' kc'] 26 (0, 0)) := (World.putObj_heap_other (by omega)).trans (heap_new _ _)
      have hwr2 : WR ((W.alloc (.cells #[.int .i64 kl, .slice ka kn kc, .slice ka' kn' kc'] 26)).putObj l' (.loop r)) P G n (A - (S q).length) (wrt g (A - (S q).length) (S q)) := (hwr.kept ((Below.refl _ W).alloc (Nat.le_refl _) _)).putObj _ (by omega) (by omega)
      have hfr2 : Fr P G W0 ((W.alloc (.cells #[.int .i64 kl, .slice ka kn kc, .slice ka' kn' kc'] 26)).putObj l' (.loop r)) := (hfr.trans (Fr.ofBelow ((Below.refl _ W).alloc (Nat.le_refl _) _) (Or.inl hPG.1))).putObj _ hl' (by omega)
      generalize (W.alloc (.cells #[.int .i64 kl, .slice ka kn kc, .slice ka' kn' kc'] 26)).putObj l' (.loop r) = W2 at *
      have hlen : (S (q + 1)).length = tq.enc.length + (S q).length := by rw [hSq, List.length_append]
      have hpos : A - (S q).length = A - (S (q + 1)).length + tq.enc.length := by omega
      have hb2 : Below w0.heap.size w0 W2 := hb00.trans (hfr2.below.mono (by omega))
      have hwr3 := hwr2
      rw [hpos] at hwr3
      have hcall := hIH w0 W2 _ P G n (A - (S (q + 1)).length) _ (by omega) hitm hb2 hP0 hG0 hwr3
      rw [wrt_append, ← hSq] at hcall
      have HC := hideP hcall
      have c0 : W2.cell? ⟨w.heap.size, 0, none⟩ = some (.pointer (some ⟨P, 0, none⟩)) := blk_cell ((hotr _ (by omega) (by omega)).trans hcp) rfl
      obtain ⟨d0, d1, d2⟩ := cells3 hkb
      have HEND : Hid (∀ W3, WR W3 P G n (A - (S (q + 1)).length) (wrt g (A - (S (q + 1)).length) (S (q + 1))) → Fr P G W2 W3 → KeepsFrom W0.heap.size W2 W3 ∧ Kp W W3 ∧ WR W3 P G n (A - (S (q + 1)).length) (wrt g (A - (S (q + 1)).length) (S (q + 1))) ∧ Fr P G W0 W3) := by
        intro W3 h3 f3
        refine ⟨⟨f3.below.size, fun b o hbb ho _ => (f3.same b (lt_of_block ho) (by omega) (by omega)).trans ho⟩, hKpF _ _ (fun b h1 h2 h3' => (f3.same b (Nat.lt_of_lt_of_le h1 hfr2.below.size) h2 h3').trans (hotr b (by omega) (by omega))), h3, hfr2.trans f3⟩
      clear hwr hfr hcp hlr hSq hIH hKpF hb00 hotr hkb hwr2 hfr2 hlen hpos hb2 hwr3 hcall HALL
      gi_wp2
      refine ⟨trivial, (CallsIn.inRound l' (callsIn_wide.2 HC.out)).mono ?_⟩
      rintro e W3 ⟨rfl, h3, f3⟩
      gi_wp2
      exact HEND.out W3 h3 f3
    case done =>
      rintro D W hD ⟨hwr, hfr⟩ hdef
      have hSn : S nk = Tree.encs k := by
        show Tree.encs (k.drop (nk - nk)) = _
        rw [Nat.sub_self, List.drop_zero]
      rw [hSn] at hwr
      have henc : (Tree.node l b k).enc = if b.length = 1 ∧ lb b 0 < 128 then b ++ Tree.encs k else hdB (if l = 0 then 128 else 192) (b ++ Tree.encs k).length ++ (b ++ Tree.encs k) := by rw [Tree.enc]
      have hEL2 : nb + (Tree.encs k).length ≤ (Tree.node l b k).enc.length := by
        rw [henc, ← hnb]
        split <;> simp only [List.length_append] <;> omega
      generalize hek : Tree.encs k = E at *
      generalize hA1 : A - E.length = A1 at *
      have hsz := hfr.below.size
      have g0 := (hfr.same _ (by omega) (by omega) (by omega)).trans hbx0
      have g1 := (hfr.same _ (by omega) (by omega) (by omega)).trans hbx1
      have g2 := hwr.p
      have g3 := hwr.f
      have hneP := hwr.ne
      have hroomB := hB.room
      have hBW : BS W ao nb c (lb b) := hB.moved (hb00.trans (hfr.below.mono (by omega)))
      obtain ⟨dp, hdp, hsl⟩ := slice_from G n (A1 - nb) (by omega)
      have e1 : IntKind.i64.wrap ((A1 : Nat) - ((nb : Nat) : Int)) = ((A1 - nb : Nat) : Int) := by rw [IntKind.wrap_i64]; omega
      have gle : A1 - nb + nb ≤ n := by omega
      have HREST := hideP (And.intro hwr (And.intro hfr (And.intro hdef (And.intro hB (And.intro hb00 (And.intro henc (And.intro hEL2 (And.intro hA (And.intro hA1 (And.intro hsz hbW0))))))))))
      clear hgive hKpF hKpp hkid hbx0 hbx1 hbx2 hWR0 hb00 hEL hKids hK hB hI hWR hbW0 hN hSL hwr hfr hdef henc hEL2 hsz hSn
      gi_wp2
      rename_i Q1 K1 hK1
      refine wpIn_wide.2 ?_
      have HK1 := hideP hK1
      clear hK1
      refine region_lateK [23] (fun V => V.heap[w.heap.size]? = some (.cells #[.pointer (some ⟨P, 0, none⟩)] 117 (0, 0)) ∧ V.heap[w.heap.size + 1]? = some (.cells #[.int .i64 l, .slice ao nb c, .slice ao' nk c'] 26 (0, 0)) ∧ V.heap[P]? = some (.cells #[.slice (some ⟨G, 0, none⟩) n n, .int .i64 A1] 93 (0, 0))) (by kernel_rfl) ⟨g0, g1, g2⟩ (fun hS => ?_)
      refine anyZ_take (i := 0) (g := 5) (v := ?_) rfl (by kernel_rfl) (by kernel_rfl) (by kernel_rfl) (by kernel_rfl) (by kernel_rfl) (fun _ _ _ h => h) (Or.inl ⟨by kernel_rfl, ?_⟩) hS ?_
      rotate_left
      · intro V hV
        obtain ⟨x1, x2, x3⟩ := hV
        have k0 := blk_cell x1 (o := 0) rfl
        have k1 := blk_cell x3 (o := 1) rfl
        have k2 := blk_cell x3 (o := 0) rfl
        have k3 := blk_cell x2 (o := 1) rfl
        go_simp
        (try with_reducible rfl)
      simp only [put_list, List.set_cons_succ, List.set_cons_zero]
      refine anyZ_take (i := 1) (g := 5) (v := ?_) rfl (by kernel_rfl) (by kernel_rfl) (by kernel_rfl) (by kernel_rfl) (by kernel_rfl) (fun _ _ _ h => h) (Or.inl ⟨by kernel_rfl, ?_⟩) hS ?_
      rotate_left
      · intro V hV
        go_simp
        (try with_reducible rfl)
      simp only [put_list, List.set_cons_succ, List.set_cons_zero]
      refine anyZ_take (i := 2) (g := 5) (v := ?_) rfl (by kernel_rfl) (by kernel_rfl) (by kernel_rfl) (by kernel_rfl) (by kernel_rfl) (fun _ _ _ h => h) (Or.inl ⟨by kernel_rfl, ?_⟩) hS ?_
      rotate_left
      · intro V hV
        go_simp
        (try with_reducible rfl)
      simp only [put_list, List.set_cons_succ, List.set_cons_zero]
      refine anyZ_take (i := 3) (g := 5) (v := ?_) rfl (by kernel_rfl) (by kernel_rfl) (by kernel_rfl) (by kernel_rfl) (by kernel_rfl) (fun _ _ _ h => h) (Or.inl ⟨by kernel_rfl, ?_⟩) hS ?_
      rotate_left
      · intro V hV
        obtain ⟨x1, x2, x3⟩ := hV
        have k0 := blk_cell x1 (o := 0) rfl
        have k1 := blk_cell x3 (o := 1) rfl
        have k2 := blk_cell x3 (o := 0) rfl
        have k3 := blk_cell x2 (o := 1) rfl
        go_simp
        (try with_reducible rfl)
      simp only [put_list, List.set_cons_succ, List.set_cons_zero]
      refine anyZ_take (i := 4) (g := 5) (v := ?_) rfl (by kernel_rfl) (by kernel_rfl) (by kernel_rfl) (by kernel_rfl) (by kernel_rfl) (fun _ _ _ h => h) (Or.inl ⟨by kernel_rfl, ?_⟩) hS ?_
      rotate_left
      · intro V hV
        obtain ⟨x1, x2, x3⟩ := hV
        have k0 := blk_cell x1 (o := 0) rfl
        have k1 := blk_cell x3 (o := 1) rfl
        have k2 := blk_cell x3 (o := 0) rfl
        have k3 := blk_cell x2 (o := 1) rfl
        go_simp
        (try with_reducible rfl)
      simp only [put_list, List.set_cons_succ, List.set_cons_zero]
      refine anyZ_take (i := 5) (g := 5) (v := ?_) rfl (by kernel_rfl) (by kernel_rfl) (by kernel_rfl) (by kernel_rfl) (by kernel_rfl) (fun _ _ _ h => h) (Or.inl ⟨by kernel_rfl, ?_⟩) hS ?_
      rotate_left
      · intro V hV
        go_simp
        (try with_reducible rfl)
      simp only [put_list, List.set_cons_succ, List.set_cons_zero]
      refine anyZ_take (i := 6) (g := 5) (v := ?_) rfl (by kernel_rfl) (by kernel_rfl) (by kernel_rfl) (by kernel_rfl) (by kernel_rfl) (fun _ _ _ h => h) (Or.inl ⟨by kernel_rfl, ?_⟩) hS ?_
      rotate_left
      · intro V hV
        go_simp
        (try with_reducible rfl)
      simp only [put_list, List.set_cons_succ, List.set_cons_zero]
      refine anyZ_take (i := 7) (g := 5) (v := ?_) rfl (by kernel_rfl) (by kernel_rfl) (by kernel_rfl) (by kernel_rfl) (by kernel_rfl) (fun _ _ _ h => h) (Or.inl ⟨by kernel_rfl, ?_⟩) hS ?_
      rotate_left
      · intro V hV
        obtain ⟨x1, x2, x3⟩ := hV
        have k0 := blk_cell x1 (o := 0) rfl
        have k1 := blk_cell x3 (o := 1) rfl
        have k2 := blk_cell x3 (o := 0) rfl
        have k3 := blk_cell x2 (o := 1) rfl
        go_simp
        (try with_reducible rfl)
      simp only [put_list, List.set_cons_succ, List.set_cons_zero]
      refine anyZ_take (i := 8) (g := 5) (v := ?_) rfl (by kernel_rfl) (by kernel_rfl) (by kernel_rfl) (by kernel_rfl) (by kernel_rfl) (fun _ _ _ h => h) (Or.inl ⟨by kernel_rfl, ?_⟩) hS ?_
      rotate_left
      · intro V hV
        obtain ⟨x1, x2, x3⟩ := hV
        have k0 := blk_cell x1 (o := 0) rfl
        have k1 := blk_cell x3 (o := 1) rfl
        have k2 := blk_cell x3 (o := 0) rfl
        have k3 := blk_cell x2 (o := 1) rfl
        go_simp
        (try with_reducible rfl)
      simp only [put_list, List.set_cons_succ, List.set_cons_zero]
      refine anyZ_take (i := 9) (g := 5) (v := ?_) rfl (by kernel_rfl) (by kernel_rfl) (by kernel_rfl) (by kernel_rfl) (by kernel_rfl) (fun _ _ _ h => h) (Or.inl ⟨by kernel_rfl, ?_⟩) hS ?_
      rotate_left
      · intro V hV
        go_simp
        (try with_reducible rfl)
      simp only [put_list, List.set_cons_succ, List.set_cons_zero]
      refine anyZ_take (i := 10) (g := 5) (v := ?_) rfl (by kernel_rfl) (by kernel_rfl) (by kernel_rfl) (by kernel_rfl) (by kernel_rfl) (fun _ _ _ h => h) (Or.inl ⟨by kernel_rfl, ?_⟩) hS ?_
      rotate_left
      · intro V hV
        go_simp
        (try with_reducible rfl)
      simp only [put_list, List.set_cons_succ, List.set_cons_zero]
      refine anyZ_take (i := 11) (g := 5) (v := ?_) rfl (by kernel_rfl) (by kernel_rfl) (by kernel_rfl) (by kernel_rfl) (by kernel_rfl) (fun _ _ _ h => h) (Or.inl ⟨by kernel_rfl, ?_⟩) hS ?_
      rotate_left
      · intro V hV
        obtain ⟨x1, x2, x3⟩ := hV
        have k0 := blk_cell x1 (o := 0) rfl
        have k1 := blk_cell x3 (o := 1) rfl
        have k2 := blk_cell x3 (o := 0) rfl
        have k3 := blk_cell x2 (o := 1) rfl
        go_simp
        (try with_reducible rfl)
      simp only [put_list, List.set_cons_succ, List.set_cons_zero]
      refine anyZ_take (i := 12) (g := 5) (v := ?_) rfl (by kernel_rfl) (by kernel_rfl) (by kernel_rfl) (by kernel_rfl) (by kernel_rfl) (fun _ _ _ h => h) (Or.inl ⟨by kernel_rfl, ?_⟩) hS ?_
      rotate_left
      · intro V hV
        go_simp
        (try with_reducible rfl)
      simp only [put_list, List.set_cons_succ, List.set_cons_zero]
      refine anyZ_take (i := 13) (g := 5) (v := ?_) rfl (by kernel_rfl) (by kernel_rfl) (by kernel_rfl) (by kernel_rfl) (by kernel_rfl) (fun _ _ _ h => h) (Or.inl ⟨by kernel_rfl, ?_⟩) hS ?_
      rotate_left
      · intro V hV
        obtain ⟨x1, x2, x3⟩ := hV
        have k0 := blk_cell x1 (o := 0) rfl
        have k1 := blk_cell x3 (o := 1) rfl
        have k2 := blk_cell x3 (o := 0) rfl
        have k3 := blk_cell x2 (o := 1) rfl
        go_simp
        (try with_reducible rfl)
      simp only [put_list, List.set_cons_succ, List.set_cons_zero]
      refine anyZ_take (i := 14) (g := 5) (v := ?_) rfl (by kernel_rfl) (by kernel_rfl) (by kernel_rfl) (by kernel_rfl) (by kernel_rfl) (fun _ _ _ h => h) (Or.inl ⟨by kernel_rfl, ?_⟩) hS ?_
      rotate_left
      · intro V hV
        go_simp
        (try with_reducible rfl)
      simp only [put_list, List.set_cons_succ, List.set_cons_zero]
      refine anyZ_take (i := 15) (g := 5) (v := ?_) rfl (by kernel_rfl) (by kernel_rfl) (by kernel_rfl) (by kernel_rfl) (by kernel_rfl) (fun _ _ _ h => h) (Or.inl ⟨by kernel_rfl, ?_⟩) hS ?_
      rotate_left
      · intro V hV
        go_simp
        (try with_reducible rfl)
      simp only [put_list, List.set_cons_succ, List.set_cons_zero]
      refine anyZ_take (i := 16) (g := 5) (v := ?_) rfl (by kernel_rfl) (by kernel_rfl) (by kernel_rfl) (by kernel_rfl) (by kernel_rfl) (fun _ _ _ h => h) (Or.inl ⟨by kernel_rfl, ?_⟩) hS ?_
      rotate_left
      · intro V hV
        go_simp
        (try with_reducible rfl)
      simp only [put_list, List.set_cons_succ, List.set_cons_zero]
      refine anyZ_take (i := 17) (g := 5) (v := ?_) rfl (by kernel_rfl) (by kernel_rfl) (by kernel_rfl) (by kernel_rfl) (by kernel_rfl) (fun _ _ _ h => h) (Or.inl ⟨by kernel_rfl, ?_⟩) hS ?_
      rotate_left
      · intro V hV
        go_simp
        (try with_reducible rfl)
      simp only [put_list, List.set_cons_succ, List.set_cons_zero]
      refine anyZ_take (i := 18) (g := 5) (v := ?_) rfl (by kernel_rfl) (by kernel_rfl) (by kernel_rfl) (by kernel_rfl) (by kernel_rfl) (fun _ _ _ h => h) (Or.inl ⟨by kernel_rfl, ?_⟩) hS ?_
      rotate_left
      · intro V hV
        obtain ⟨x1, x2, x3⟩ := hV
        have k0 := blk_cell x1 (o := 0) rfl
        have k1 := blk_cell x3 (o := 1) rfl
        have k2 := blk_cell x3 (o := 0) rfl
        have k3 := blk_cell x2 (o := 1) rfl
        go_simp
        (try with_reducible rfl)
      simp only [put_list, List.set_cons_succ, List.set_cons_zero]
      refine anyZ_one (i := 19) (by kernel_rfl) rfl (fun Kc hKc => ?_)
      refine step_fill rfl (.tmp 35) (.tmp 37) rfl G n (A1 - nb) nb c _ (lb b) dp ao rfl hdp g3 rfl hBW.drew gle ?_
      refine hKc.out _ _ (fun _ => ⟨?_, ?_, ?_⟩) ?_
      · exact (setRow_other _ _ _ _ (by omega)).trans hS.1
      · exact (setRow_other _ _ _ _ (by omega)).trans hS.2.1
      · exact (setRow_other _ _ _ _ (by omega)).trans hS.2.2
      clear hKc Kc
      have hW1 : (W.drew.setRow G (cbs n (fun i => if A1 - nb ≤ i ∧ i < A1 - nb + nb then lb b (i - (A1 - nb)) else wrt g A1 E i))).heap[P]? = some (.cells #[.slice (some ⟨G, 0, none⟩) n n, .int .i64 A1] 93 (0, 0)) := (setRow_other _ _ _ _ (by omega)).trans g2
      have hS1 : (fun V : World => V.heap[w.heap.size]? = some (.cells #[.pointer (some ⟨P, 0, none⟩)] 117 (0, 0)) ∧ V.heap[w.heap.size + 1]? = some (.cells #[.int .i64 l, .slice ao nb c, .slice ao' nk c'] 26 (0, 0)) ∧ V.heap[P]? = some (.cells #[.slice (some ⟨G, 0, none⟩) n n, .int .i64 A1] 93 (0, 0))) (W.drew.setRow G (cbs n (fun i => if A1 - nb ≤ i ∧ i < A1 - nb + nb then lb b (i - (A1 - nb)) else wrt g A1 E i))) := ⟨(setRow_other _ _ _ _ (by omega)).trans g0, (setRow_other _ _ _ _ (by omega)).trans g1, hW1⟩
      have hc1 := blk_cell hW1 (o := 1) rfl
      have hc2 := blk_free (o := 1) hW1
      generalize hWx : W.drew.setRow G (cbs n (fun i => if A1 - nb ≤ i ∧ i < A1 - nb + nb then lb b (i - (A1 - nb)) else wrt g A1 E i)) = Wx at *
      have HWX := hideP hWx
      clear hWx
      go_simp
      refine anyZ_one (i := 20) (by kernel_rfl) rfl (fun Kc hKc => ?_)
      go_simp
      refine hKc.out _ _ (fun _ => hS1) ?_
      clear hKc Kc
      refine anyZ_one (i := 21) (by kernel_rfl) rfl (fun Kc hKc => ?_)
      go_simp
      refine hKc.out _ _ (fun _ => hS1) ?_
      clear hKc Kc
      refine anyZ_one (i := 22) (by kernel_rfl) rfl (fun Kc hKc => ?_)
      go_simp
      refine hKc.out _ _ (fun _ => hS1) ?_
      clear hKc Kc
      refine anyZ_one (i := 23) (by kernel_rfl) rfl (fun Kc hKc => ?_)
      go_simp
      refine hKc.out _ _ (fun h => absurd (by decide) h) ?_
      clear hKc Kc
      refine anyZ_done (by kernel_rfl) ?_ _
      change K1 _ _
      refine HK1.out _ _ ?_
      obtain ⟨hwr, hfr, hdef, hB, hb00, henc, hEL2, hA, hA1, hsz, hbW0⟩ := HREST.out
      have hDP : D ≠ P := by omega
      have hDG : D ≠ G := by omega
      have hWR3 : WR (Wx.setCell ⟨P, 1, none⟩ (.int .i64 ((A1 - nb : Nat) : Int))) P G n (A1 - nb) (wrt g (A1 - nb) (b ++ E)) := by
        refine ⟨blk_set hW1 _, (Below.heap_setCell Wx _ _ _ (by show G ≠ P; omega)).trans ?_, hneP, by omega, hroom⟩
        rw [← HWX.out]
        refine (setRow_heap _ _ _ _ _ _ (show W.drew.heap[G]? = _ from g3)).trans ?_
        rw [← wrt_append, show A1 - nb + b.length = A1 by omega]
        unfold wrt lb
        rw [hnb]
      have hFr3 : Fr P G W (Wx.setCell ⟨P, 1, none⟩ (.int .i64 ((A1 - nb : Nat) : Int))) := by
        refine Fr.set (P := P) (G := G) (p := ⟨P, 1, none⟩) ?_ (Or.inl rfl) _
        rw [← HWX.out]
        exact ⟨below_setRow (Below.refl _ W).drew (by omega) _, fun x h1 h2 h3 => setRow_other _ _ _ _ h3⟩
      have q0 := (hFr3.same _ (by omega) (by omega) (by omega)).trans g0
      have q1 := (hFr3.same _ (by omega) (by omega) (by omega)).trans g1
      have hd3 := (hFr3.same _ (lt_of_block hdef) hDP hDG).trans hdef
      have hB3 : BS (Wx.setCell ⟨P, 1, none⟩ (.int .i64 ((A1 - nb : Nat) : Int))) ao nb c (lb b) := hB.moved ((hb00.trans (hfr.below.mono (by omega))).trans (hFr3.below.mono (by omega)))
      have hFrw : Fr P G w (Wx.setCell ⟨P, 1, none⟩ (.int .i64 ((A1 - nb : Nat) : Int))) := ((Fr.ofBelow hbW0 (Or.inl hPl)).trans hfr).trans hFr3
      generalize Wx.setCell ⟨P, 1, none⟩ (.int .i64 ((A1 - nb : Nat) : Int)) = W3 at *
      have HSA := hideP (standsAlone_any W3 hB3)
      have hne3 := hWR3.ne
      have k0 := blk_cell q0 (o := 0) rfl
      obtain ⟨y0, y1, y2⟩ := cells3 q1
      have y3 := blk_cell hWR3.p (o := 1) rfl
      have hbl : (b ++ E).length = nb + E.length := by rw [List.length_append, hnb]
      have HEND : Hid (∀ W4, WR W4 P G n a (wrt g a (Tree.node l b k).enc) → Fr P G W3 W4 → W4.heap[D]? = some (.deferred (some [])) ∧ WR (W4.putObj D (.deferred none)) P G n a (wrt g a (Tree.node l b k).enc) ∧ Fr P G w (W4.putObj D (.deferred none))) := by
        intro W4 h4 f4
        have := lt_of_block hd3
        exact ⟨(f4.same _ (lt_of_block hd3) hDP hDG).trans hd3, h4.putObj _ (Ne.symm hDP) (Ne.symm hDG), (hFrw.trans f4).putObj _ (by omega) (by omega)⟩
      have e64 : IntKind.i64.wrap ((A : Int) - ((A1 - nb : Nat) : Int)) = ((nb + E.length : Nat) : Int) := by rw [IntKind.wrap_i64]; omega
      by_cases hsa : nb = 1 ∧ lb b 0 < 128
      · have hsb : b.length = 1 ∧ lb b 0 < 128 := by rw [hnb]; exact hsa
        rw [if_pos hsb] at henc
        rw [decide_eq_true hsa] at HSA
        have hlen : (Tree.node l b k).enc.length = nb + E.length := by rw [henc, hbl]
        obtain haa : A1 - nb = a := by omega
        rw [haa, ← henc] at hWR3
        have HFIN := hideP (HEND.out W3 hWR3 (Fr.refl _ _ _))
        clear HEND hWR3 hFr3 hB3 hFrw hwr hfr hB hb00 hbW0 henc hEL2 HWX HREST hBW hsl hS hS1 hW1 hc1 hc2 g0 g1 g2 g3 HK1 hlen haa hbl hA hA1 hAle hroom hroomB gle e1 hP0 hG0 hPl hlt hD hsz0 hsz hDP hDG hdp hek hnb hnk e64 hsa hsb q0 q1 hd3
        gi_wp2
        refine ⟨trivial, (callsIn_wide.2 HSA.out).mono ?_⟩
        rintro e w' ⟨rfl, rfl⟩
        gi_wp2
        refine ⟨by simp, .inl ⟨_, _, rfl, run_takeDeferred HFIN.out.1, ?_⟩⟩
        exact ⟨.tuple #[], by simp [results, Try.results49, go_sem], rfl, HFIN.out.2.1, HFIN.out.2.2⟩
      · have hsb : ¬ (b.length = 1 ∧ lb b 0 < 128) := by rw [hnb]; exact hsa
        rw [decide_eq_false hsa] at HSA
        by_cases hl0 : l = 0
        · have hm : l = 0 := hl0
          have henc2 : (Tree.node l b k).enc = hdB 128 (nb + E.length) ++ (b ++ E) := by rw [henc, if_neg hsb, hbl, if_pos hl0]
          have hlen : (Tree.node l b k).enc.length = (hdB 128 (nb + E.length)).length + (nb + E.length) := by rw [henc2, List.length_append, hbl]
          have hpos : A1 - nb = a + (hdB 128 (nb + E.length)).length := by omega
          rw [hpos] at hWR3
          have hcall := whead_any (m := 128) (k := nb + E.length) (by omega) (by omega) W3.drew (hWR3.kept (Below.refl _ W3).drew)
          rw [wrt_append, ← henc2] at hcall
          rw [hpos] at y3 e64
          generalize nb + E.length = kk at *
          generalize a + (hdB 128 kk).length = pp at *
          have HC := hideP hcall
          clear hWR3 hFr3 hB3 hFrw hwr hfr hB hb00 hbW0 henc hEL2 HWX HREST hBW hsl hS hS1 hW1 hc1 hc2 g0 g1 g2 g3 HK1 hcall hlen hpos hbl hA hA1 hAle hroom hroomB gle e1 hP0 hG0 hPl hlt hD hsz0 hsz hDP hDG henc2 hdp hek hnb hnk hsa hsb q0 q1 hd3
          gi_wp2
          refine ⟨trivial, (callsIn_wide.2 HSA.out).mono ?_⟩
          rintro e w' ⟨rfl, rfl⟩
          gi_wp2
          refine wpIn_wide.2 ?_
          refine region_lateQ [7] (fun V => V.cell? ⟨w.heap.size, 0, none⟩ = some (.pointer (some ⟨P, 0, none⟩)) ∧ V.cell? ⟨P, 1, none⟩ = some (.int .i64 ((pp : Nat) : Int))) (by kernel_rfl) ⟨k0, y3⟩ (fun hS => ?_)
          refine anyZ_take (i := 0) (g := 5) (v := ?_) rfl (by kernel_rfl) (by kernel_rfl) (by kernel_rfl) (by kernel_rfl) (by kernel_rfl) (fun _ _ _ h => h) (Or.inl ⟨by kernel_rfl, ?_⟩) hS ?_
          rotate_left
          · intro V hV
            obtain ⟨x1, x2⟩ := hV
            go_simp
            (try with_reducible rfl)
          simp only [put_list, List.set_cons_succ, List.set_cons_zero]
          refine anyZ_take (i := 1) (g := 5) (v := ?_) rfl (by kernel_rfl) (by kernel_rfl) (by kernel_rfl) (by kernel_rfl) (by kernel_rfl) (fun _ _ _ h => h) (Or.inl ⟨by kernel_rfl, ?_⟩) hS ?_
          rotate_left
          · intro V hV
            go_simp
            (try with_reducible rfl)
          simp only [put_list, List.set_cons_succ, List.set_cons_zero]
          refine anyZ_take (i := 2) (g := 5) (v := ?_) rfl (by kernel_rfl) (by kernel_rfl) (by kernel_rfl) (by kernel_rfl) (by kernel_rfl) (fun _ _ _ h => h) (Or.inl ⟨by kernel_rfl, ?_⟩) hS ?_
          rotate_left
          · intro V hV
            obtain ⟨x1, x2⟩ := hV
            go_simp
            (try with_reducible rfl)
          simp only [put_list, List.set_cons_succ, List.set_cons_zero]
          refine anyZ_take (i := 3) (g := 5) (v := ?_) rfl (by kernel_rfl) (by kernel_rfl) (by kernel_rfl) (by kernel_rfl) (by kernel_rfl) (fun _ _ _ h => h) (Or.inl ⟨by kernel_rfl, ?_⟩) hS ?_
          rotate_left
          · intro V hV
            go_simp
            (try with_reducible rfl)
          simp only [put_list, List.set_cons_succ, List.set_cons_zero]
          refine anyZ_take (i := 4) (g := 5) (v := ?_) rfl (by kernel_rfl) (by kernel_rfl) (by kernel_rfl) (by kernel_rfl) (by kernel_rfl) (fun _ _ _ h => h) (Or.inl ⟨by kernel_rfl, ?_⟩) hS ?_
          rotate_left
          · intro V hV
            go_simp
            (try with_reducible rfl)
          simp only [put_list, List.set_cons_succ, List.set_cons_zero]
          refine anyZ_take (i := 5) (g := 5) (v := ?_) rfl (by kernel_rfl) (by kernel_rfl) (by kernel_rfl) (by kernel_rfl) (by kernel_rfl) (fun _ _ _ h => h) (Or.inl ⟨by kernel_rfl, ?_⟩) hS ?_
          rotate_left
          · intro V hV
            obtain ⟨x1, x2⟩ := hV
            go_simp
            (try with_reducible rfl)
          simp only [put_list, List.set_cons_succ, List.set_cons_zero]
          refine anyZ_take (i := 6) (g := 5) (v := ?_) rfl (by kernel_rfl) (by kernel_rfl) (by kernel_rfl) (by kernel_rfl) (by kernel_rfl) (fun _ _ _ h => h) (Or.inl ⟨by kernel_rfl, ?_⟩) hS ?_
          rotate_left
          · intro V hV
            go_simp
            (try with_reducible rfl)
          simp only [put_list, List.set_cons_succ, List.set_cons_zero]
          refine anyZ_one (i := 7) (by kernel_rfl) rfl (fun Kc hKc => ?_)
          go_simp
          refine HC.out.mono ?_
          rintro e W4 ⟨rfl, h4, f4⟩
          have H4 := hideP (HEND.out W4 h4 ((Fr.refl _ _ W3).drew.trans f4))
          clear h4 f4
          refine hKc.out _ _ (fun h => absurd (by decide) h) ?_
          refine anyZ_done (by kernel_rfl) ?_ _
          show Exit.then _ _ _ _ _
          simp only [Exit.then]
          gi_wp2
          refine ⟨by simp, .inl ⟨_, _, rfl, run_takeDeferred H4.out.1, ?_⟩⟩
          exact ⟨.tuple #[], by simp [results, Try.results49, go_sem], rfl, H4.out.2.1, H4.out.2.2⟩
        · have hm : ¬ l = 0 := hl0
          have henc2 : (Tree.node l b k).enc = hdB 192 (nb + E.length) ++ (b ++ E) := by rw [henc, if_neg hsb, hbl, if_neg hl0]
          have hlen : (Tree.node l b k).enc.length = (hdB 192 (nb + E.length)).length + (nb + E.length) := by rw [henc2, List.length_append, hbl]
          have hpos : A1 - nb = a + (hdB 192 (nb + E.length)).length := by omega
          rw [hpos] at hWR3
          have hcall := whead_any (m := 192) (k := nb + E.length) (by omega) (by omega) W3.drew (hWR3.kept (Below.refl _ W3).drew)
          rw [wrt_append, ← henc2] at hcall
          rw [hpos] at y3 e64
          generalize nb + E.length = kk at *
          generalize a + (hdB 192 kk).length = pp at *
          have HC := hideP hcall
          clear hWR3 hFr3 hB3 hFrw hwr hfr hB hb00 hbW0 henc hEL2 HWX HREST hBW hsl hS hS1 hW1 hc1 hc2 g0 g1 g2 g3 HK1 hcall hlen hpos hbl hA hA1 hAle hroom hroomB gle e1 hP0 hG0 hPl hlt hD hsz0 hsz hDP hDG henc2 hdp hek hnb hnk hsa hsb q0 q1 hd3
          gi_wp2
          refine ⟨trivial, (callsIn_wide.2 HSA.out).mono ?_⟩
          rintro e w' ⟨rfl, rfl⟩
          gi_wp2
          refine wpIn_wide.2 ?_
          refine region_lateQ [7] (fun V => V.cell? ⟨w.heap.size, 0, none⟩ = some (.pointer (some ⟨P, 0, none⟩)) ∧ V.cell? ⟨P, 1, none⟩ = some (.int .i64 ((pp : Nat) : Int))) (by kernel_rfl) ⟨k0, y3⟩ (fun hS => ?_)
          refine anyZ_take (i := 0) (g := 5) (v := ?_) rfl (by kernel_rfl) (by kernel_rfl) (by kernel_rfl) (by kernel_rfl) (by kernel_rfl) (fun _ _ _ h => h) (Or.inl ⟨by kernel_rfl, ?_⟩) hS ?_
          rotate_left
          · intro V hV
            obtain ⟨x1, x2⟩ := hV
            go_simp
            (try with_reducible rfl)
          simp only [put_list, List.set_cons_succ, List.set_cons_zero]
          refine anyZ_take (i := 1) (g := 5) (v := ?_) rfl (by kernel_rfl) (by kernel_rfl) (by kernel_rfl) (by kernel_rfl) (by kernel_rfl) (fun _ _ _ h => h) (Or.inl ⟨by kernel_rfl, ?_⟩) hS ?_
          rotate_left
          · intro V hV
            go_simp
            (try with_reducible rfl)
          simp only [put_list, List.set_cons_succ, List.set_cons_zero]
          refine anyZ_take (i := 2) (g := 5) (v := ?_) rfl (by kernel_rfl) (by kernel_rfl) (by kernel_rfl) (by kernel_rfl) (by kernel_rfl) (fun _ _ _ h => h) (Or.inl ⟨by kernel_rfl, ?_⟩) hS ?_
          rotate_left
          · intro V hV
            obtain ⟨x1, x2⟩ := hV
            go_simp
            (try with_reducible rfl)
          simp only [put_list, List.set_cons_succ, List.set_cons_zero]
          refine anyZ_take (i := 3) (g := 5) (v := ?_) rfl (by kernel_rfl) (by kernel_rfl) (by kernel_rfl) (by kernel_rfl) (by kernel_rfl) (fun _ _ _ h => h) (Or.inl ⟨by kernel_rfl, ?_⟩) hS ?_
          rotate_left
          · intro V hV
            go_simp
            (try with_reducible rfl)
          simp only [put_list, List.set_cons_succ, List.set_cons_zero]
          refine anyZ_take (i := 4) (g := 5) (v := ?_) rfl (by kernel_rfl) (by kernel_rfl) (by kernel_rfl) (by kernel_rfl) (by kernel_rfl) (fun _ _ _ h => h) (Or.inl ⟨by kernel_rfl, ?_⟩) hS ?_
          rotate_left
          · intro V hV
            go_simp
            (try with_reducible rfl)
          simp only [put_list, List.set_cons_succ, List.set_cons_zero]
          refine anyZ_take (i := 5) (g := 5) (v := ?_) rfl (by kernel_rfl) (by kernel_rfl) (by kernel_rfl) (by kernel_rfl) (by kernel_rfl) (fun _ _ _ h => h) (Or.inl ⟨by kernel_rfl, ?_⟩) hS ?_
          rotate_left
          · intro V hV
            obtain ⟨x1, x2⟩ := hV
            go_simp
            (try with_reducible rfl)
          simp only [put_list, List.set_cons_succ, List.set_cons_zero]
          refine anyZ_take (i := 6) (g := 5) (v := ?_) rfl (by kernel_rfl) (by kernel_rfl) (by kernel_rfl) (by kernel_rfl) (by kernel_rfl) (fun _ _ _ h => h) (Or.inl ⟨by kernel_rfl, ?_⟩) hS ?_
          rotate_left
          · intro V hV
            go_simp
            (try with_reducible rfl)
          simp only [put_list, List.set_cons_succ, List.set_cons_zero]
          refine anyZ_one (i := 7) (by kernel_rfl) rfl (fun Kc hKc => ?_)
          go_simp
          refine HC.out.mono ?_
          rintro e W4 ⟨rfl, h4, f4⟩
          have H4 := hideP (HEND.out W4 h4 ((Fr.refl _ _ W3).drew.trans f4))
          clear h4 f4
          refine hKc.out _ _ (fun h => absurd (by decide) h) ?_
          refine anyZ_done (by kernel_rfl) ?_ _
          show Exit.then _ _ _ _ _
          simp only [Exit.then]
          gi_wp2
          refine ⟨by simp, .inl ⟨_, _, rfl, run_takeDeferred H4.out.1, ?_⟩⟩
          exact ⟨.tuple #[], by simp [results, Try.results49, go_sem], rfl, H4.out.2.1, H4.out.2.2⟩

end Go.Proofs.Ytigebmidfddbcaa
