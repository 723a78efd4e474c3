/-
  The pieces of bytes, told one behind the other: the program's Each.
-/
import Derived.Test.YtigebmidfddbcaaSeqE
namespace Go.Proofs.Ytigebmidfddbcaa
open Go.RowKit Go.Shelf

attribute [local go_sem] Oper.semAt_some

theorem roundIn_lvl {n n' l l' : Nat} {P : Program} {f : FuncId} {tmps : Array Value} {assign body : Code} {w : World} {R : Ending → World → Prop} (h : RoundIn Fence.wide n P l f tmps assign body w R) : RoundIn (Fence.wide.inRound l') n' P l f tmps assign body w R :=
  ⟨h.1, fun c cs _ => h.2 c cs (room_wide _)⟩

/-- How many pieces there are ahead of the first that is none. -/
def good : List (Nat × Nat × Nat × Nat) → Nat
  | [] => 0
  | x :: r => if x.2.2.2 = 0 then good r + 1 else 0

theorem good_le : ∀ L, good L ≤ L.length
  | [] => Nat.le_refl _
  | x :: r => by
    have := good_le r
    simp only [good, List.length_cons]
    split <;> omega

theorem good_bad : ∀ {L : List (Nat × Nat × Nat × Nat)} {k : Nat}, k ≤ good L → k < L.length → (L.getD k (0, 0, 0, 0)).2.2.2 ≠ 0 → good L = k
  | [], k, _, h, _ => by simp at h
  | x :: r, 0, _, _, h => by
    simp only [List.getD_cons_zero] at h
    simp [good, h]
  | x :: r, k + 1, hk, hl, h => by
    simp only [List.getD_cons_succ] at h
    simp only [good] at hk ⊢
    split at hk
    · rw [if_pos (by assumption), good_bad (by omega) (by simpa using hl) h]
    · omega

theorem good_next : ∀ {L : List (Nat × Nat × Nat × Nat)} {k : Nat}, k ≤ good L → k < L.length → (L.getD k (0, 0, 0, 0)).2.2.2 = 0 → k + 1 ≤ good L
  | [], k, _, h, _ => by simp at h
  | x :: r, 0, _, _, h => by
    simp only [List.getD_cons_zero] at h
    simp [good, h]
  | x :: r, k + 1, hk, hl, h => by
    simp only [List.getD_cons_succ] at h
    simp only [good] at hk ⊢
    split at hk
    · rw [if_pos (by assumption)]
      have := good_next (L := r) (k := k) (by omega) (by simpa using hl) h
      omega
    · omega

/-- What Each tells, one behind the other. -/
def eav (L : List (Nat × Nat × Nat × Nat)) (k : Nat) : Array Value := #[.int .i64 k, pc (L.getD k (0, 0, 0, 0)).1 (L.getD k (0, 0, 0, 0)).2.1 (L.getD k (0, 0, 0, 0)).2.2.1]

/-- What a round keeps: all but what whoever ranges writes to, and the loop's own record. -/
def KpE (F : Nat → Prop) (L0 : Nat) (V V' : World) : Prop := V.heap.size ≤ V'.heap.size ∧ ∀ b o, V.heap[b]? = some o → ¬ F b → b ≠ L0 → V'.heap[b]? = some o

/-- How a telling stands. -/
structure EI (J : Nat → World → Prop) (M S l k : Nat) (V : World) : Prop where
  j : J k V
  nb : V.heap[S + 1]? = some (.cells #[.int .i64 k] 3 (0, 0))
  yb : V.heap[S]? = some (.cells #[.func (.yield l) #[] #[]] 103 (0, 0))
  kl : k ≤ M
  sz : S + 3 ≤ V.heap.size

theorem EI.moved {J : Nat → World → Prop} {M S l k N : Nat} {V V' : World} (h : EI J M S l k V) (hJs : ∀ k V V', J k V → Below N V V' → J k V') (hN : N ≤ S) {B : Nat} (hB : S + 3 ≤ B) (hb : Below B V V') : EI J M S l k V' :=
  ⟨hJs _ _ _ h.j (hb.mono (by omega)), (hb.block _ (by omega)).trans h.nb, (hb.block _ (by omega)).trans h.yb, h.kl, Nat.le_trans h.sz hb.size⟩

set_option maxHeartbeats 8000000 in
set_option maxRecDepth 100000 in
theorem each1_gives (m : Nat) (hm : 3 ≤ m) (Bn : Nat) {ao : Option Addr} {n c : Nat} {bs : Nat → Nat} (F : Nat → Prop) (w : World) (hB : BS w ao n c bs) (hBn : w.cell? ⟨Bn, 0, none⟩ = some (.slice ao n c)) (hFB : ¬ F Bn) (hFa : ∀ ad, ao = some ad → ¬ F ad.block ∧ ad.block < w.heap.size) (hF : ∀ b, F b → b < w.heap.size) :
    GivesE m Try.prog 59 #[.pointer (some ⟨Bn, 0, none⟩)] (eav (pcs bs n (n + 1) 0)) (good (pcs bs n (n + 1) 0)) (KpE F (w.heap.size + 1)) w := by
  intro J Jx W hW hsz hJs hJxs hY h0
  have hlenL := pcs_len bs n (n + 1) 0
  have hnm : n ≤ 9223372036854775807 := by
    have hroom := hB.room
    have hle := hB.le
    have e3 : maxLen = 9223372036854775807 := by decide
    omega
  generalize hL : pcs bs n (n + 1) 0 = L at *
  have hBW : BS W ao n c bs := hB.moved hW
  have hBnl : Bn < w.heap.size := World.block_lt_of_cell? _ _ hBn
  have hc := (hW.cell (p := ⟨Bn, 0, none⟩) hBnl).trans hBn
  have hBnW : Bn < W.heap.size := by omega
  have HALL := hideP (And.intro hB (And.intro hFB (And.intro hFa (And.intro hF (And.intro hsz (And.intro hJs (And.intro hJxs (And.intro hY (And.intro h0 (And.intro hL (And.intro hW (And.intro hBW (And.intro hBnl hlenL)))))))))))))
  clear hB hFB hFa hF hsz hJs hJxs hY h0 hL hBn hW hBW hBnl hlenL
  refine callsIn_of_wp_marks Try.func59 rfl trivial ?_ rfl
  simp only [Try.ntmps59, List.size_toArray, List.length_cons, List.length_nil, Nat.reduceAdd, Nat.reduceSub, Array.replicate_succ, Array.replicate_zero, List.push_toArray, List.append_toArray, List.nil_append, List.cons_append]
  gi_wp2_with (refine ⟨trivial, fun _ => by omega, ?_⟩; gi_at_call 60; refine (callsIn_wide.2 (pieces_any _)).mono ?_; rintro e w' ⟨rfl, rfl⟩)
  generalize hW0 : ((W.alloc (.cells #[.func (.yield (w.heap.size + 1)) #[] #[]] 103)).alloc (.cells #[.int .i64 0] 3)).alloc (.cells #[.slice ao n c] 23) = W0
  have hsz0 : W0.heap.size = W.heap.size + 3 := by rw [← hW0]; simp
  have hbW : Below W.heap.size W W0 := by
    rw [← hW0]
    repeat first | exact Below.refl _ _ | (refine Below.alloc ?_ (by simp <;> omega) _)
  have b0 : W0.heap[W.heap.size]? = some (.cells #[.func (.yield (w.heap.size + 1)) #[] #[]] 103 (0, 0)) := by
    rw [← hW0]; repeat first | (refine box_at ?_; simp; done) | refine box_old (by simp <;> omega) ?_
  have b1 : W0.heap[W.heap.size + 1]? = some (.cells #[.int .i64 0] 3 (0, 0)) := by
    rw [← hW0]; repeat first | (refine box_at ?_; simp; done) | refine box_old (by simp <;> omega) ?_
  have b2 : W0.heap[W.heap.size + 1 + 1]? = some (.cells #[.slice ao n c] 23 (0, 0)) := by
    rw [← hW0]; repeat first | (refine box_at ?_; simp; done) | refine box_old (by simp <;> omega) ?_
  clear hW0
  obtain ⟨hB, hFB, hFa, hF, hsz, hJs, hJxs, hY, h0, hL, hW, hBW, hBnl, hlenL⟩ := HALL.out
  have hgive := pieces_gives (m - 1) (by omega) (W.heap.size + 1 + 1) (fun b => F b ∨ b = W.heap.size + 1 ∨ b = w.heap.size + 1) (W.heap.size + 1) W0 (hBW.moved hbW) (blk_cell b2 rfl)
    (by rintro (h | h | h); · have := hF _ h; omega
        · omega
        · omega)
    (fun ad e => by
      obtain ⟨h1, h2⟩ := hFa ad e
      rintro (h | h | h)
      · exact h1 h
      · omega
      · omega)
    (fun b hb => by
      rcases hb with h | h | h
      · have := hF _ h; omega
      · omega
      · omega) (by omega) (fun b o ff nn cc hc => by rw [blk_cell b1 rfl] at hc; cases hc)
  rw [hL] at hgive
  have hI0 : EI J (good L) W.heap.size (w.heap.size + 1) 0 W0 := ⟨hJs _ _ _ h0 (hbW.mono (by omega)), b1, b0, Nat.zero_le _, by omega⟩
  have hput : ∀ (V : World) (l' : Nat) (o' : Obj), W.heap.size + 3 ≤ l' → Below (W.heap.size + 3) V (V.putObj l' o') := fun V l' o' h => below_putObj _ h
  refine range_seq (n := m) (by omega) rfl (enters_of Try.func75 (by kernel_rfl) rfl) (pcv L) L.length (fun _ => rfl) _ hgive
    (EI J (good L) W.heap.size (w.heap.size + 1)) (fun cd V => cd = .ret ∧ W.heap.size + 3 ≤ V.heap.size ∧ (J (good L) V ∨ Jx V))
    (fun q V V' h hb => h.moved hJs hsz h.sz hb) (fun cd V V' h hb => ⟨h.1, Nat.le_trans h.2.1 hb.size, h.2.2.imp (fun g => hJs _ _ _ g (hb.mono (by have := h.2.1; omega))) (fun g => hJxs _ _ g (hb.mono (by have := h.2.1; omega)))⟩)
    (fun q V l' o o' h hl h1 h2 => h.moved hJs hsz (Nat.le_refl _) (hput _ _ _ (by omega))) (fun cd V l' o o' h hl h1 h2 => ⟨h.1, by simpa using h.2.1, h.2.2.imp (fun g => hJs _ _ _ g ((hput _ _ _ (by omega)).mono (by omega))) (fun g => hJxs _ _ g ((hput _ _ _ (by omega)).mono (by omega)))⟩)
    (fun V V' l' o o' h hl h1 h2 => h.putObj h1 h2 (by omega)) hI0 ?round ?done ?stop
  case stop =>
    rintro D cd V hD ⟨rfl, hsV, hj⟩ hdef
    have HJ := hideP (And.intro hj (And.intro hdef (And.intro hJs (And.intro hJxs (And.intro hsz (And.intro hD hsz0))))))
    clear hj hdef hgive hI0 b0 b1 b2 hBW hB hY h0 hJs hJxs hF hFa hFB hbW hput hsz hD hsz0 hsV
    gi_wp2
    obtain ⟨hj, hdef, hJs, hJxs, hsz, hD, hsz0⟩ := HJ.out
    refine ⟨by simp, .inl ⟨_, _, rfl, run_takeDeferred hdef, ?_⟩⟩
    exact ⟨_, results_none rfl _ _ _, ⟨_, rfl⟩, hj.imp (fun g => hJs _ _ _ g (below_putObj _ (by omega))) (fun g => hJxs _ _ g (below_putObj _ (by omega)))⟩
  case done =>
    rintro D V hD hI hdef
    have HJ := hideP (And.intro hI (And.intro hdef (And.intro hJs (And.intro hJxs (And.intro hsz (And.intro hD hsz0))))))
    clear hI hdef hgive hI0 b0 b1 b2 hBW hB hY h0 hJs hJxs hF hFa hFB hbW hput hsz hD hsz0
    gi_wp2
    obtain ⟨hI, hdef, hJs, hJxs, hsz, hD, hsz0⟩ := HJ.out
    refine ⟨by simp, .inl ⟨_, _, rfl, run_takeDeferred hdef, ?_⟩⟩
    have hg := Nat.le_antisymm (good_le L) hI.kl
    exact ⟨_, results_none rfl _ _ _, ⟨_, rfl⟩, .inl (by rw [hg]; exact hJs _ _ _ hI.j (below_putObj _ (by omega)))⟩
  case round =>
    rintro l' q V hq hI hl' ⟨rr, hlr⟩
    have hbad := good_bad hI.kl hq
    have hnext := good_next hI.kl hq
    have hYq := hY q
    unfold pcv pc
    unfold eav pc at hYq
    generalize L.getD q (0, 0, 0, 0) = x at *
    obtain ⟨xl, xf, xt, xe⟩ := x
    dsimp only at hbad hnext hYq ⊢
    have hqn : q < n := by omega
    have HR := hideP (And.intro hI (And.intro hbad (And.intro hnext (And.intro hYq (And.intro hlr (And.intro hl' (And.intro hsz0 (And.intro hJs (And.intro hJxs (And.intro hF (And.intro hsz (And.intro hqn hnm))))))))))))
    clear hgive hI0 b0 b1 b2 hBW hB hY h0 hJs hJxs hF hFa hFB hbW hput hsz hsz0 hI hbad hnext hYq hlr hl' hq hqn hnm hlenL hW hc hBnW hBnl
    gi_wp2
    obtain ⟨hI, hbad, hnext, hYq, hlr, hl', hsz0, hJs, hJxs, hF, hsz, hqn, hnm⟩ := HR.out
    refine ⟨(KeepsOthers.alloc V _).from _, fun r => ?_⟩
    have hl'V := lt_of_block hlr
    have hlr1 : (V.alloc (.cells #[.int .i64 xl, .int .i64 xf, .int .i64 xt] 40)).heap[l']? = some (.loop rr) := (heap_old _ _ hl'V).trans hlr
    have hI1 : EI J (good L) W.heap.size (w.heap.size + 1) q ((V.alloc (.cells #[.int .i64 xl, .int .i64 xf, .int .i64 xt] 40)).putObj l' (.loop r)) :=
      (hI.moved hJs hsz (Nat.le_refl _) (((Below.refl _ V).alloc hI.sz _))).moved hJs hsz (Nat.le_refl _) (below_putObj _ (by omega))
    have hpb : ((V.alloc (.cells #[.int .i64 xl, .int .i64 xf, .int .i64 xt] 40)).putObj l' (.loop r)).heap[V.heap.size]? = some (.cells #[.int .i64 xl, .int .i64 xf, .int .i64 xt] 40 (0, 0)) := putObj_cells hlr1 rfl (heap_new _ _) rfl
    have hkp1 : ∀ (b : Nat) (o : Obj), V.heap[b]? = some o → o.isCells = true → ((V.alloc (.cells #[.int .i64 xl, .int .i64 xf, .int .i64 xt] 40)).putObj l' (.loop r)).heap[b]? = some o := fun b o ho hc => putObj_cells hlr1 rfl ((heap_old _ _ (lt_of_block ho)).trans ho) hc
    have hsz1 : V.heap.size < ((V.alloc (.cells #[.int .i64 xl, .int .i64 xf, .int .i64 xt] 40)).putObj l' (.loop r)).heap.size := lt_of_block hpb
    generalize (V.alloc (.cells #[.int .i64 xl, .int .i64 xf, .int .i64 xt] 40)).putObj l' (.loop r) = V1 at *
    obtain ⟨d0, d1, d2⟩ := cells3 hpb
    have dn := blk_cell hI1.nb (o := 0) rfl
    have dy := blk_cell hI1.yb (o := 0) rfl
    by_cases hxe : xe = 0
    · subst hxe
      have hq1 := hnext rfl
      obtain ⟨fn, tmps, assign, body, hy, hRd⟩ := hYq V1 hq1 hI1.j
      have HRd := hideP (roundIn_lvl (l' := l') (n' := m - 1 - 1 - 1) hRd)
      have HQ := hideP (And.intro hI1 (And.intro hkp1 (And.intro hsz1 (And.intro hI (And.intro hl' (And.intro hsz0 (And.intro hJs (And.intro hJxs (And.intro hF (And.intro hsz (And.intro hq1 hqn)))))))))))
      have e1 : IntKind.i64.wrap ((q : Int) + 1) = ((q + 1 : Nat) : Int) := by rw [IntKind.wrap_i64]; omega
      clear hRd hI1 hkp1 hsz1 hI hl' hsz0 hJs hJxs hF hsz hq1 hqn hbad hnext hYq hlr hlr1 hl'V HR hpb hnm
      gi_wp2
      refine ⟨fun h => (by cases h), HRd.out.mono ?_⟩
      rintro e V3 (⟨rfl, hJ3, hk3⟩ | ⟨rfl, hJx3, hkf3⟩)
      · obtain ⟨hI1, hkp1, hsz1, hI, hl', hsz0, hJs, hJxs, hF, hsz, hq1, hqn⟩ := HQ.out
        have hnF : ¬ F (W.heap.size + 1) := fun h => by have := hF _ h; omega
        have hnb3 := hk3.2 _ _ hI1.nb hnF (by omega)
        have hyb3 := hk3.2 _ _ hI1.yb (fun h => by have := hF _ h; omega) (by omega)
        have dn3 := blk_cell hnb3 (o := 0) rfl
        have df3 : ∀ o, V3.frozen? ⟨W.heap.size + 1, o, none⟩ = false := fun o => blk_free hnb3
        have HT := hideP (And.intro hJ3 (And.intro hk3 (And.intro hnb3 hyb3)))
        clear hJ3 hk3 hnb3 hyb3 hI1 hkp1 hsz1 hI hl' hsz0 hJs hJxs hF hsz hq1 hqn hnF d0 d1 d2 dn dy hy HRd
        gi_wp2
        obtain ⟨hI1, hkp1, hsz1, hI, hl', hsz0, hJs, hJxs, hF, hsz, hq1, hqn⟩ := HQ.out
        obtain ⟨hJ3, hk3, hnb3, hyb3⟩ := HT.out
        have hsV := hI1.sz
        have hnb4 := blk_set hnb3 (o := 0) (.int .i64 ((q + 1 : Nat) : Int))
        refine ⟨⟨by simpa using hk3.1, fun b o hb h1 h2 => ?_⟩, ⟨?_, ?_, ?_⟩, ⟨?_, hnb4, ?_, hq1, ?_⟩⟩
        · refine (Below.heap_setCell _ _ _ _ (by dsimp only; omega)).trans (hk3.2 b o h1 (fun h => ?_) (by omega))
          have := hF _ h
          omega
        · have := hk3.1
          simp only [World.size_setCell]
          omega
        · intro b o h1 h2 h3
          have hbn : b ≠ W.heap.size + 1 := fun h => h3 (.inl (.inr (.inl h)))
          have hbl : b ≠ w.heap.size + 1 := fun h => h3 (.inl (.inr (.inr h)))
          have hbF : ¬ F b := fun h => h3 (.inl (.inl h))
          exact (Below.heap_setCell _ _ _ _ (by dsimp only; exact hbn)).trans (hk3.2 b o (hkp1 b o h1 h2) hbF hbl)
        · intro b o f nn cc hc
          have h9 := hc.symm.trans (blk_cell hnb4 (o := 0) rfl)
          cases h9
        · exact hJs _ _ _ hJ3 (Below.setCell (Below.refl _ _) (by dsimp only; omega) _)
        · exact (Below.heap_setCell _ _ _ _ (by dsimp only; omega)).trans hyb3
        · have := hk3.1
          simp only [World.size_setCell]
          omega
      · have HT := hideP (And.intro hJx3 hkf3)
        clear hJx3 hkf3 HRd d0 d1 d2 dn dy hy
        gi_wp2
        obtain ⟨hI1, hkp1, hsz1, hI, hl', hsz0, hJs, hJxs, hF, hsz, hq1, hqn⟩ := HQ.out
        obtain ⟨hJx3, hkf3⟩ := HT.out
        have hsV := hI1.sz
        have := hkf3.size
        exact ⟨⟨hkf3.size, fun b o hb h1 h2 => hkf3.same b o (by omega) h1 h2⟩, rfl, by omega, .inr hJx3⟩
    · have hxe' : ((xe : Int) != 0) = true := bne_iff_ne.2 (by omega)
      have hgq := hbad hxe
      have HQ := hideP (And.intro hI1 hgq)
      clear hI1 hkp1 hsz1 hI hl' hsz0 hJs hJxs hF hsz hqn hbad hnext hYq hlr hlr1 hl'V HR hpb hnm hgq d0 d1 d2 dn dy
      gi_wp2
      refine ⟨fun f h => (by cases h), ?_⟩
      gi_wp2
      obtain ⟨hI1, hgq⟩ := HQ.out
      exact ⟨KeepsFrom.refl _ _, rfl, hI1.sz, .inl (by rw [hgq]; exact hI1.j)⟩

set_option maxHeartbeats 1000000 in
set_option maxRecDepth 100000 in
theorem each_any {ao : Option Addr} {n c : Nat} {bs : Nat → Nat} (hn : n ≤ 140737488355328) (w : World) (h : BS w ao n c bs) :
    Calls Try.prog 25 #[.slice ao n c] w fun e w' => (∃ ao' c', e = .returned (.func (.func 59) #[] #[.pointer (some ⟨w.heap.size, 0, none⟩)]) ∧ w'.cell? ⟨w.heap.size, 0, none⟩ = some (.slice ao' n c') ∧ BS w' ao' n c' bs ∧ ∀ ad, ao' = some ad → w.heap.size < ad.block ∧ ad.block < w'.heap.size) ∧ Below w.heap.size w w' := by
  have hb0 : Below w.heap.size w (w.alloc (.cells #[.slice ao n c] 23)) := (Below.refl _ w).alloc (Nat.le_refl _) _
  have hcp := copyBytes_any hn _ (h.moved hb0)
  have HC := hideP hcp
  have H0 := hideP hb0
  clear hcp hb0 h hn
  go_enter Try.func25, Try.ntmps25
  go_wp2_with fail
  refine HC.out.mono ?_
  rintro e W1 ⟨⟨v1, rfl, hO1⟩, hb1⟩
  obtain ⟨a1, c1, rfl, hB1, hN1⟩ := hO1.ex
  have hsz0 : (w.alloc (.cells #[.slice ao n c] 23)).heap.size = w.heap.size + 1 := by simp
  have hbx := (hb1.block _ (lt_of_block (heap_new w (.cells #[.slice ao n c] 23)))).trans (heap_new w (.cells #[.slice ao n c] 23))
  have hat : ∀ ad, a1 = some ad → w.heap.size < ad.block ∧ ad.block < W1.heap.size := fun ad e => by
    rcases hN1 with rfl | ⟨g, rfl, h1, h2⟩
    · cases e
    · cases e
      exact ⟨by dsimp only; omega, h2⟩
  have hc1 := blk_cell hbx (o := 0) rfl
  have cf : ∀ o, W1.frozen? ⟨w.heap.size, o, none⟩ = false := fun o => blk_free hbx
  have HT := hideP (And.intro hbx (And.intro hat (And.intro hB1 (H0.out.trans (hb1.mono H0.out.size)))))
  clear hbx hat hB1 hN1 hO1 hb1 hsz0 HC H0
  go_wp2_with fail
  go_ret
  obtain ⟨hbx, hat, hB1, hb1⟩ := HT.out
  have hbx2 := blk_set hbx (o := 0) (.slice a1 n c1)
  refine ⟨⟨a1, c1, rfl, blk_cell hbx2 rfl, ?_, fun ad e => ⟨(hat ad e).1, by simpa using (hat ad e).2⟩⟩, Below.setCell hb1 (Nat.le_refl _) _⟩
  exact ⟨hB1.lt, hB1.le, hB1.room, fun j hj => by
    obtain ⟨ad, e, hc⟩ := hB1.cell j hj
    refine ⟨ad, e, (cell_congr (Below.heap_setCell _ _ _ _ ?_)).trans hc⟩
    rw [add_block]
    have := (hat ad e).1
    dsimp only
    omega, hB1.nil⟩

end Go.Proofs.Ytigebmidfddbcaa
