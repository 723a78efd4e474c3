/-
  The document's form of an item, and its Encode.
-/
import Derived.Test.YtigebmidfddbcaaRHd
import Derived.Test.YtigebmidfddbcaaRChk
namespace Go.Proofs.Ytigebmidfddbcaa
open Go.RowKit Go.Shelf

theorem OwnL.moved {N : Nat} {w w' : World} {v : Value} {b : List Nat} (h : OwnL N w v b) (hb : Below w.heap.size w w') : OwnL N w' v b := by
  refine ⟨h.1, ?_⟩
  rcases h.2 with h | ⟨g, cap, cur, e, h1, hg, rest⟩
  · exact Or.inl h
  · exact Or.inr ⟨g, cap, cur, e, h1, (hb.block g (lt_of_block hg)).trans hg, rest⟩

theorem OwnL.lower {N M : Nat} {w : World} {v : Value} {b : List Nat} (h : OwnL N w v b) (hM : M ≤ N) : OwnL M w v b := by
  refine ⟨h.1, ?_⟩
  rcases h.2 with h | ⟨g, cap, cur, e, h1, rest⟩
  · exact Or.inl h
  · exact Or.inr ⟨g, cap, cur, e, Nat.le_trans hM h1, rest⟩

theorem measK_mem {w : Nat} : ∀ {k : List Tree} {a : Nat}, (Tree.measK k w a).2 = 0 → ∀ t ∈ k, (t.meas w).2 = 0
  | [], _, _, _, h => by cases h
  | s :: ts, a, h, t, ht => by
    unfold Tree.measK at h
    by_cases h1 : (Tree.meas s w).2 = 0
    · rw [if_neg (by rw [h1]; simp)] at h
      rcases List.mem_cons.1 ht with rfl | ht
      · exact h1
      · exact measK_mem h t ht
    · rw [if_pos h1] at h
      exact absurd h h1

theorem encs_take {k : List Tree} {q : Nat} (h : q < k.length) : Tree.encs (k.take (q + 1)) = Tree.encs (k.take q) ++ (k[q]).enc := by
  induction k generalizing q with
  | nil => simp at h
  | cons t ts ih =>
    cases q with
    | zero => simp [Tree.encs]
    | succ q =>
      have := ih (q := q) (by simpa using h)
      rw [List.take_succ_cons, List.take_succ_cons, Tree.encs_cons, Tree.encs_cons, this, List.append_assoc]
      rfl

theorem encs_take_le {k : List Tree} {q : Nat} : (Tree.encs (k.take q)).length ≤ (Tree.encs k).length := by
  induction k generalizing q with
  | nil => simp
  | cons t ts ih =>
    cases q with
    | zero => simp [Tree.encs]
    | succ q =>
      rw [List.take_succ_cons, Tree.encs_cons, Tree.encs_cons, List.length_append, List.length_append]
      have := ih (q := q)
      omega

theorem form_kind {l : Int} {b : List Nat} {k : List Tree} {d : Nat} (h : ((Tree.node l b k).meas d).2 = 0) : (l = 0 ∧ k = []) ∨ (l = 1 ∧ b = [] ∧ ∀ t ∈ k, (t.meas (d + 1)).2 = 0) := by
  have hc : chk l b.length k.length d = 0 := by
    by_cases hc : chk l b.length k.length d = 0
    · exact hc
    · rw [meas_err_of hc] at h; exact h
  have hk := meas_err_kids hc
  rw [h] at hk
  unfold chk at hc
  by_cases e1 : l = 1 ∧ 64 ≤ d
  · rw [if_pos e1] at hc; cases hc
  · rw [if_neg e1] at hc
    by_cases e2 : (l = 0 ∧ k.length = 0) ∨ (l = 1 ∧ b.length = 0)
    · rcases e2 with e | e
      · exact Or.inl ⟨e.1, List.eq_nil_of_length_eq_zero e.2⟩
      · exact Or.inr ⟨e.1, List.eq_nil_of_length_eq_zero e.2, measK_mem hk.symm⟩
    · rw [if_neg e2] at hc; cases hc

set_option maxHeartbeats 8000000 in
set_option maxRecDepth 100000 in
theorem refForm_text {b : List Nat} {xa ka : Option Addr} {xc kc : Nat} (w : World) (hB : BS w xa b.length xc (lb b)) (hw : b.length ≤ 1099511627776) :
    Calls Try.prog 52 #[.agg #[.int .i64 0, .slice xa b.length xc, .slice ka 0 kc]] w fun e w' => (∃ v', e = .returned v' ∧ OwnL w.heap.size w' v' (Tree.node 0 b []).enc) ∧ Below w.heap.size w w' := by
  have henc : (Tree.node 0 b []).enc = if b.length = 1 ∧ lb b 0 < 128 then b else hdB 128 b.length ++ b := by
    unfold Tree.enc Tree.encs
    rw [List.append_nil, if_pos rfl]
  have hb0 : Below w.heap.size w (w.alloc (.cells #[.int .i64 0, .slice xa b.length xc, .slice ka 0 kc] 26)) := (Below.refl _ w).alloc (Nat.le_refl _) _
  have hx0 := heap_new w (.cells #[.int .i64 0, .slice xa b.length xc, .slice ka 0 kc] 26)
  by_cases h1 : b.length = 1 ∧ lb b 0 < 128
  · rw [henc, if_pos h1]
    obtain ⟨ad, rfl, hc0⟩ := hB.cell 0 (by omega)
    rw [show ad.add 0 = ad from rfl] at hc0
    have hadl := World.block_lt_of_cell? _ _ hc0
    have g1 : (lb b 0 : Int) < 128 := by omega
    have hb1 := hb0.alloc hb0.size (.cells #[] 5 (0, 0))
    have hrow : OwnL w.heap.size ((w.alloc (.cells #[.int .i64 0, .slice (some ad) b.length xc, .slice ka 0 kc] 26)).alloc (.cells #[] 5 (0, 0))) (.slice (some ⟨w.heap.size + 1, 0, none⟩) 0 0) [] := ⟨rfl, Or.inr ⟨w.heap.size + 1, 0, #[], rfl, by omega, by have := heap_new (w.alloc (.cells #[.int .i64 0, .slice (some ad) b.length xc, .slice ka 0 kc] 26)) (.cells #[] 5 (0, 0)); rwa [World.size_alloc] at this, Nat.le_refl _, Nat.zero_le _, rfl, rfl⟩⟩
    obtain ⟨v', W2, hrun, hO, hb2, _⟩ := hrow.append (by simp; omega) (hB.moved hb1) (by simp; omega)
    rw [List.nil_append] at hO
    have HRUN := hideP hrun
    have HE := hideP (And.intro hO (hb1.trans hb2))
    generalize hy : lb b 0 = y at *
    have hbl := h1.1
    clear hrow hrun hO hb2 hb1 hb0 hx0 henc hB hw h1 hy
    rw [hbl] at HRUN ⊢
    clear hbl
    go_enter Try.func52, Try.ntmps52
    go_wp2_with (at_builtin; refine wpList_append_run rfl _ _ 23 rfl rfl rfl rfl HRUN.out ?_)
    go_ret
    exact ⟨⟨_, rfl, HE.out.1⟩, HE.out.2⟩
  · rw [henc, if_neg h1]
    have HHD := hideP (fun W => refhd_any 128 b.length (Or.inl rfl) hw W)
    have HBB := hideP (fun W (hb : Below w.heap.size w W) => hB.moved hb)
    have HLN : Hid ((hdB 128 b.length).length + b.length ≤ 4398046511104) := hideP (by
      rw [hdB_length]
      have : hsz b.length ≤ 7 := by
        unfold hsz
        have := NB_small hw
        unfold NB at this
        split <;> omega
      omega)
    have HX0 := hideP hx0
    have HB0 := hideP hb0
    have hby : b.length = 1 → ∃ ad, xa = some ad ∧ ad.block < w.heap.size ∧ w.cell? ad = some (.int .u8 (lb b 0)) ∧ ¬ (lb b 0 : Int) < 128 := fun e => by
      obtain ⟨ad, rfl, hc0⟩ := hB.cell 0 (by omega)
      rw [show ad.add 0 = ad from rfl] at hc0
      exact ⟨ad, rfl, World.block_lt_of_cell? _ _ hc0, hc0, fun h => h1 ⟨e, by omega⟩⟩
    clear hb0 hx0 henc hB h1 hw
    generalize lb b 0 = y at *
    generalize hnb : b.length = nb at *
    have HNB := hideP hnb
    clear hnb
    by_cases h1 : nb = 1
    · obtain ⟨ad, rfl, hadl, hc0, g1⟩ := hby h1
      subst h1
      clear hby
      go_enter Try.func52, Try.ntmps52
      go_wp2_with fail
      rename_i K1 hK1
      have HK1 := hideP hK1
      clear hK1
      refine region_lateK [6, 7] (fun V => V.heap[w.heap.size]? = some (.cells #[.int .i64 0, .slice (some ad) 1 xc, .slice ka 0 kc] 26 (0, 0)) ∧ Below w.heap.size w V) (by kernel_rfl) ⟨HX0.out, HB0.out.drew⟩ (fun hS => ?_)
      refine anyZ_take (i := 0) (g := 5) (v := ?_) rfl (by kernel_rfl) (by kernel_rfl) (by kernel_rfl) (by kernel_rfl) (by kernel_rfl) (fun _ _ _ h => h) (Or.inl ⟨by kernel_rfl, ?_⟩) hS ?_
      rotate_left
      · intro V0 hV
        go_simp
        (try with_reducible rfl)
      simp only [put_list, List.set_cons_succ, List.set_cons_zero]
      refine anyZ_take (i := 1) (g := 5) (v := ?_) rfl (by kernel_rfl) (by kernel_rfl) (by kernel_rfl) (by kernel_rfl) (by kernel_rfl) (fun _ _ _ h => h) (Or.inl ⟨by kernel_rfl, ?_⟩) hS ?_
      rotate_left
      · intro V0 hV
        obtain ⟨y0, y1, y2⟩ := cells3 hV.1
        go_simp
        (try with_reducible rfl)
      simp only [put_list, List.set_cons_succ, List.set_cons_zero]
      refine anyZ_take (i := 2) (g := 5) (v := ?_) rfl (by kernel_rfl) (by kernel_rfl) (by kernel_rfl) (by kernel_rfl) (by kernel_rfl) (fun _ _ _ h => h) (Or.inl ⟨by kernel_rfl, ?_⟩) hS ?_
      rotate_left
      · intro V0 hV
        go_simp
        (try with_reducible rfl)
      simp only [put_list, List.set_cons_succ, List.set_cons_zero]
      refine anyZ_take (i := 4) (g := 5) (v := ?_) rfl (by kernel_rfl) (by kernel_rfl) (by kernel_rfl) (by kernel_rfl) (by kernel_rfl) (fun _ _ _ h => h) (Or.inl ⟨by kernel_rfl, ?_⟩) hS ?_
      rotate_left
      · intro V0 hV
        go_simp
        (try with_reducible rfl)
      simp only [put_list, List.set_cons_succ, List.set_cons_zero]
      refine anyZ_take (i := 5) (g := 5) (v := ?_) rfl (by kernel_rfl) (by kernel_rfl) (by kernel_rfl) (by kernel_rfl) (by kernel_rfl) (fun _ _ _ h => h) (Or.inl ⟨by kernel_rfl, ?_⟩) hS ?_
      rotate_left
      · intro V0 hV
        obtain ⟨y0, y1, y2⟩ := cells3 hV.1
        go_simp
        (try with_reducible rfl)
      simp only [put_list, List.set_cons_succ, List.set_cons_zero]
      refine anyZ_one (i := 3) (by kernel_rfl) rfl (fun Kc hKc => ?_)
      go_simp
      refine (HHD.out _).mono ?_
      rintro e W4 ⟨⟨vh, rfl, hOh⟩, hb4⟩
      have hS4 : W4.heap[w.heap.size]? = some (.cells #[.int .i64 0, .slice (some ad) 1 xc, .slice ka 0 kc] 26 (0, 0)) ∧ Below w.heap.size w W4 := ⟨(hb4.block _ (lt_of_block hS.1)).trans hS.1, hS.2.trans (hb4.mono hS.2.size)⟩
      refine hKc.out _ _ (fun _ => hS4) ?_
      clear hKc Kc
      have hOw := hOh.lower hS.2.size
      obtain ⟨v', W5, hrun, hO5, hb5, _⟩ := hOw.append (b2 := b) hS4.2.size (by rw [HNB.out]; exact HBB.out _ hS4.2) (by rw [HNB.out]; exact HLN.out)
      rw [HNB.out] at hrun
      refine anyZ_one (i := 6) (by kernel_rfl) rfl (fun Kc hKc => ?_)
      refine step_append (ty := 23) (vs := vh) (vx := .slice (some ad) 1 xc) (v' := v') (w' := W5) (dd := 29) rfl (.tmp 26) (.tmp 28) 23 rfl rfl rfl rfl rfl hrun ?_
      have hS5 : Hid (Below w.heap.size w W5) := hideP (hS4.2.trans hb5)
      have HO5 := hideP hO5
      refine hKc.out _ _ (fun h => absurd (by decide) h) ?_
      clear hKc Kc hrun hO5 hb5 hOw hOh hb4
      simp only [put_list, List.set_cons_succ, List.set_cons_zero]
      refine anyZ_one (i := 7) (by kernel_rfl) rfl (fun Kc hKc => ?_)
      go_simp
      refine hKc.out _ _ (fun h => absurd (by decide) h) ?_
      clear hKc Kc
      refine anyZ_done (by kernel_rfl) ?_ _
      change K1 _ _
      refine HK1.out _ _ ?_
      clear HK1 hS hS4
      go_wp2_with fail
      go_ret
      exact ⟨⟨_, rfl, HO5.out⟩, hS5.out⟩
    · have g1 : ¬ (nb : Int) = 1 := by omega
      have g1' : ((nb : Int) == 1) = false := beq_eq_false_iff_ne.2 g1
      clear hby h1
      go_enter Try.func52, Try.ntmps52
      go_wp2_with fail
      rename_i K1 hK1
      have HK1 := hideP hK1
      clear hK1
      refine region_lateK [6, 7] (fun V => V.heap[w.heap.size]? = some (.cells #[.int .i64 0, .slice xa nb xc, .slice ka 0 kc] 26 (0, 0)) ∧ Below w.heap.size w V) (by kernel_rfl) ⟨HX0.out, HB0.out.drew⟩ (fun hS => ?_)
      refine anyZ_take (i := 0) (g := 5) (v := ?_) rfl (by kernel_rfl) (by kernel_rfl) (by kernel_rfl) (by kernel_rfl) (by kernel_rfl) (fun _ _ _ h => h) (Or.inl ⟨by kernel_rfl, ?_⟩) hS ?_
      rotate_left
      · intro V0 hV
        go_simp
        (try with_reducible rfl)
      simp only [put_list, List.set_cons_succ, List.set_cons_zero]
      refine anyZ_take (i := 1) (g := 5) (v := ?_) rfl (by kernel_rfl) (by kernel_rfl) (by kernel_rfl) (by kernel_rfl) (by kernel_rfl) (fun _ _ _ h => h) (Or.inl ⟨by kernel_rfl, ?_⟩) hS ?_
      rotate_left
      · intro V0 hV
        obtain ⟨y0, y1, y2⟩ := cells3 hV.1
        go_simp
        (try with_reducible rfl)
      simp only [put_list, List.set_cons_succ, List.set_cons_zero]
      refine anyZ_take (i := 2) (g := 5) (v := ?_) rfl (by kernel_rfl) (by kernel_rfl) (by kernel_rfl) (by kernel_rfl) (by kernel_rfl) (fun _ _ _ h => h) (Or.inl ⟨by kernel_rfl, ?_⟩) hS ?_
      rotate_left
      · intro V0 hV
        go_simp
        (try with_reducible rfl)
      simp only [put_list, List.set_cons_succ, List.set_cons_zero]
      refine anyZ_take (i := 4) (g := 5) (v := ?_) rfl (by kernel_rfl) (by kernel_rfl) (by kernel_rfl) (by kernel_rfl) (by kernel_rfl) (fun _ _ _ h => h) (Or.inl ⟨by kernel_rfl, ?_⟩) hS ?_
      rotate_left
      · intro V0 hV
        go_simp
        (try with_reducible rfl)
      simp only [put_list, List.set_cons_succ, List.set_cons_zero]
      refine anyZ_take (i := 5) (g := 5) (v := ?_) rfl (by kernel_rfl) (by kernel_rfl) (by kernel_rfl) (by kernel_rfl) (by kernel_rfl) (fun _ _ _ h => h) (Or.inl ⟨by kernel_rfl, ?_⟩) hS ?_
      rotate_left
      · intro V0 hV
        obtain ⟨y0, y1, y2⟩ := cells3 hV.1
        go_simp
        (try with_reducible rfl)
      simp only [put_list, List.set_cons_succ, List.set_cons_zero]
      refine anyZ_one (i := 3) (by kernel_rfl) rfl (fun Kc hKc => ?_)
      go_simp
      refine (HHD.out _).mono ?_
      rintro e W4 ⟨⟨vh, rfl, hOh⟩, hb4⟩
      have hS4 : W4.heap[w.heap.size]? = some (.cells #[.int .i64 0, .slice xa nb xc, .slice ka 0 kc] 26 (0, 0)) ∧ Below w.heap.size w W4 := ⟨(hb4.block _ (lt_of_block hS.1)).trans hS.1, hS.2.trans (hb4.mono hS.2.size)⟩
      refine hKc.out _ _ (fun _ => hS4) ?_
      clear hKc Kc
      have hOw := hOh.lower hS.2.size
      obtain ⟨v', W5, hrun, hO5, hb5, _⟩ := hOw.append (b2 := b) hS4.2.size (by rw [HNB.out]; exact HBB.out _ hS4.2) (by rw [HNB.out]; exact HLN.out)
      rw [HNB.out] at hrun
      refine anyZ_one (i := 6) (by kernel_rfl) rfl (fun Kc hKc => ?_)
      refine step_append (ty := 23) (vs := vh) (vx := .slice xa nb xc) (v' := v') (w' := W5) (dd := 29) rfl (.tmp 26) (.tmp 28) 23 rfl rfl rfl rfl rfl hrun ?_
      have hS5 : Hid (Below w.heap.size w W5) := hideP (hS4.2.trans hb5)
      have HO5 := hideP hO5
      refine hKc.out _ _ (fun h => absurd (by decide) h) ?_
      clear hKc Kc hrun hO5 hb5 hOw hOh hb4
      simp only [put_list, List.set_cons_succ, List.set_cons_zero]
      refine anyZ_one (i := 7) (by kernel_rfl) rfl (fun Kc hKc => ?_)
      go_simp
      refine hKc.out _ _ (fun h => absurd (by decide) h) ?_
      clear hKc Kc
      refine anyZ_done (by kernel_rfl) ?_ _
      change K1 _ _
      refine HK1.out _ _ ?_
      clear HK1 hS hS4
      go_wp2_with fail
      go_ret
      exact ⟨⟨_, rfl, HO5.out⟩, hS5.out⟩

theorem Tree.byK_mem {t : Tree} : ∀ {k : List Tree}, Tree.byK k → t ∈ k → t.by
  | [], _, h => by cases h
  | s :: ts, hb, h => by
    unfold Tree.byK at hb
    rcases List.mem_cons.1 h with rfl | h
    · exact hb.1
    · exact Tree.byK_mem hb.2 h

theorem OwnL.shape {N : Nat} {w : World} {v : Value} {b : List Nat} (h : OwnL N w v b) : ∃ a c, v = .slice a b.length c := by
  rcases h.2 with ⟨rfl, h0⟩ | ⟨g, cap, cur, rfl, _⟩
  · rw [h0]; exact ⟨_, _, rfl⟩
  · exact ⟨_, _, rfl⟩

/-- How the kids' forms stand, so many done. -/
structure FM (w W0 : World) (k : List Tree) (q : Nat) (av : Value) (wr : World) : Prop where
  row : OwnL W0.heap.size wr av (Tree.encs (k.take q))
  below : Below W0.heap.size W0 wr

set_option maxHeartbeats 8000000 in
set_option maxRecDepth 100000 in
theorem refForm_all : ∀ (N : Nat) (t : Tree) (v : Value) (d : Nat) (w : World), t.num ≤ N → (t.meas d).2 = 0 → t.wt ≤ 1099511627776 → IsItem w t v →
    Calls Try.prog 52 #[v] w fun e w' => (∃ v', e = .returned v' ∧ OwnL w.heap.size w' v' t.enc) ∧ Below w.heap.size w w'
  | 0, t, _, _, _, h, _, _, _ => absurd t.num_pos (by omega)
  | N + 1, .node l b k, v, d, w, hN, hm, hw, hI => by
    have hIby := hI.by
    obtain ⟨xa, xc, ka, kc, rfl, hB, hK, hKids⟩ := hI.form
    unfold Tree.wt at hw
    rcases form_kind hm with ⟨rfl, rfl⟩ | ⟨rfl, rfl, hkm⟩
    · exact refForm_text w hB (by omega)
    · unfold Tree.num at hN
      have hIH := fun t v w (h : t ∈ k) => refForm_all N t v (d + 1) w (by have := Tree.nums_mem h; omega) (hkm t h) (by have := Tree.wts_mem h; omega)
      have henc : (Tree.node 1 [] k).enc = hdB 192 (Tree.encs k).length ++ Tree.encs k := by
        unfold Tree.enc
        rw [if_neg (by simp), if_neg (by decide), List.nil_append]
      have hel := Tree.encs_le k (by omega)
      have hby : ∀ t ∈ k, ∀ j, lb t.enc j < 256 := fun t ht => lb_lt (Tree.enc_by t (by unfold Tree.by at hIby; exact Tree.byK_mem hIby.2 ht) (by have := Tree.wts_mem ht; omega))
      have hbs : ∀ j, lb (Tree.encs k) j < 256 := lb_lt (Tree.encs_by k (by unfold Tree.by at hIby; exact hIby.2) (by omega))
      have hnk : k.length ≤ 9223372036854775807 := by
        have e1 := hK.le
        have e2 := hK.room
        have e3 : maxLen = 9223372036854775807 := by decide
        omega
      have hb0 : Below w.heap.size w (w.alloc (.cells #[.int .i64 1, .slice xa 0 xc, .slice ka k.length kc] 26)) := (Below.refl _ w).alloc (Nat.le_refl _) _
      have hx0 := heap_new w (.cells #[.int .i64 1, .slice xa 0 xc, .slice ka k.length kc] 26)
      rw [henc]
      have HALL := hideP (And.intro hKids (And.intro hIH (And.intro hel (And.intro hby (And.intro hbs (And.intro hnk (show Tree.wts k ≤ 1099511627776 by omega)))))))
      have HX0 := hideP hx0
      have HB0 := hideP hb0
      have hsz0 : (w.alloc (.cells #[.int .i64 1, .slice xa 0 xc, .slice ka k.length kc] 26)).heap.size = w.heap.size + 1 := by simp
      have HSZ := hideP hsz0
      have HI0 : Hid (FM w (w.alloc (.cells #[.int .i64 1, .slice xa 0 xc, .slice ka k.length kc] 26)) k 0 (.slice none 0 0) (w.alloc (.cells #[.int .i64 1, .slice xa 0 xc, .slice ka k.length kc] 26))) := hideP ⟨by rw [List.take_zero, Tree.encs]; exact OwnL.nil _ _, Below.refl _ _⟩
      clear hB hK hKids hI hN hm hw hIH henc hel hby hbs hnk hb0 hx0 hkm hsz0 hIby
      rw [show ([] : List Nat).length = 0 from rfl]
      generalize hkn : k.length = nk at *
      have HKN := hideP hkn
      clear hkn
      go_enter Try.func52, Try.ntmps52
      go_wp2_with fail
      generalize w.alloc (.cells #[.int .i64 1, .slice xa 0 xc, .slice ka nk kc] 26) = W0 at *
      go_loopw [3, 4] (fun all i wr => ∃ (q : Nat) (a : Option Addr) (n c : Nat), all = .slice a n c ∧ i = .int .i64 (q : Int) ∧ q ≤ nk ∧ Hid (n = (Tree.encs (k.take q)).length ∧ FM w W0 k q (.slice a n c) wr)) (fun _ i _ => nk - (intOf i).toNat)
      case atStart => exact ⟨0, none, 0, 0, rfl, rfl, Nat.zero_le _, hideP ⟨by simp [Tree.encs], HI0.out⟩⟩
      case round =>
        obtain ⟨q, a, n, c, rfl, rfl, hqn, hFM⟩ := hrel
        obtain ⟨hne, hF⟩ := hFM.out
        obtain ⟨hKids, hIH, hel, hby, hbs, hnk, hwt⟩ := HALL.out
        have hsz := HSZ.out
        have hx1 := (hF.below.block _ (lt_of_block HX0.out)).trans HX0.out
        obtain ⟨cx0, cx1, cx2⟩ := cells3 hx1
        have hbw := HB0.out.trans (hF.below.mono HB0.out.size)
        have hbz := hF.below.size
        by_cases hlt : q < nk
        · have hl1 : q < k.length := by rw [HKN.out]; exact hlt
          obtain ⟨g, v0, v1, v2, rfl, d0, d1, d2, hit⟩ := hKids.get (List.getElem?_eq_getElem hl1)
          rw [Nat.zero_add] at d0 d1 d2
          have hcall := hIH k[q] (.agg #[v0, v1, v2]) wr (List.getElem_mem hl1) (hit.moved hbw)
          have hbyq := hby k[q] (List.getElem_mem hl1)
          have htk := encs_take hl1
          have htl := encs_take_le (k := k) (q := q + 1)
          have hgw := World.block_lt_of_cell? _ _ d0
          have d0 := (hbw.cell (p := ⟨g, q * 3, none⟩) hgw).trans d0
          have d1 := (hbw.cell (p := ⟨g, q * 3 + 1, none⟩) hgw).trans d1
          have d2 := (hbw.cell (p := ⟨g, q * 3 + 2, none⟩) hgw).trans d2
          generalize k[q] = tq at *
          cases tq with
          | node tl tb tk =>
          obtain ⟨_, _, _, _, hv, _, _, _⟩ := hit.form
          simp only [Value.agg.injEq, Array.mk.injEq, List.cons.injEq, and_true] at hv
          obtain ⟨rfl, rfl, rfl⟩ := hv
          generalize (Tree.node tl tb tk).enc = te at *
          have g1 : (q : Int) < (nk : Int) := by omega
          have g1' : (0 : Int) ≤ (q : Int) := by omega
          have e9 : IntKind.i64.wrap ((q : Int) + 1) = ((q + 1 : Nat) : Int) := by rw [IntKind.wrap_i64]; omega
          have HC := hideP hcall
          have HM := hideP (And.intro hne (And.intro hF (And.intro hbyq (And.intro htk (And.intro htl (And.intro hel (And.intro hwt hbz)))))))
          clear hcall hne hF hbyq htk htl hel hwt hit hKids hIH hby hbs hnk hx1 hbw hl1 hgw hsz hbz hFM
          generalize tb.length = tn at *
          generalize tk.length = tn' at *
          go_wp2_with fail
          refine HC.out.mono ?_
          rintro e W4 ⟨⟨v4, rfl, hO4⟩, hb4⟩
          obtain ⟨hne, hF, hbyq, htk, htl, hel, hwt, hbz⟩ := HM.out
          obtain ⟨a4, c4, rfl, hB4⟩ := row_BS hbyq hO4
          have hs4 := hb4.size
          rw [htk, List.length_append] at htl
          obtain ⟨v5, W5, hrun, hO5, hb5, _⟩ := (hF.row.moved hb4).append (by omega) hB4 (by omega)
          rw [← htk] at hO5
          obtain ⟨a5, c5, rfl⟩ := hO5.shape
          have HF5 : Hid ((Tree.encs (k.take (q + 1))).length = (Tree.encs (k.take (q + 1))).length ∧ FM w W0 k (q + 1) (.slice a5 (Tree.encs (k.take (q + 1))).length c5) W5) := hideP ⟨rfl, hO5, (hF.below.trans (hb4.mono hbz)).trans hb5⟩
          have HRUN := hideP hrun
          clear hne hF hbyq htk htl hel hwt hbz hO4 hB4 hs4 hrun hO5 hb5 hb4 HC HM cx0 cx1 cx2 d0 d1 d2
          generalize te.length = tl4 at *
          generalize hn5 : (Tree.encs (k.take (q + 1))).length = n5 at *
          have HN5 := hideP hn5
          clear hn5
          go_wp2_with (at_builtin; refine wpList_append_run rfl _ _ 23 rfl rfl rfl rfl HRUN.out ?_)
          exact ⟨⟨q + 1, a5, n5, c5, rfl, rfl, by omega, hideP ⟨HN5.out.symm, HF5.out.2⟩⟩, by simp [intOf]; omega⟩
        · have g1 : ¬ (q : Int) < (nk : Int) := by omega
          have htk : k.take q = k := List.take_of_length_le (by have := HKN.out; omega)
          have hrow := hF.row
          rw [htk] at hrow hne
          have hBa : BS wr a n c (lb (Tree.encs k)) := by
            obtain ⟨a', c', e, hB'⟩ := row_BS hbs hrow
            cases e
            rw [hne]
            exact hB'
          have hnl : n ≤ 1099511627776 := by omega
          have HHD := hideP (fun W => refhd_any 192 n (Or.inr rfl) hnl W)
          have HM := hideP (And.intro hBa (And.intro hne (And.intro hbw hnl)))
          clear hrow hBa hnl hne hF hKids hIH hel hby hbs hnk hwt hsz hx1 hbw hbz hFM htk
          go_wp2_with fail
          refine (HHD.out _).mono ?_
          rintro e W4 ⟨⟨vh, rfl, hOh⟩, hb4⟩
          obtain ⟨hBa, hne, hbw, hnl⟩ := HM.out
          have hs4 := hb4.size
          have hlen : (hdB 192 n).length + (Tree.encs k).length ≤ 4398046511104 := by
            rw [hdB_length]
            have : hsz n ≤ 7 := by
              unfold hsz
              have := NB_small hnl
              unfold NB at this
              split <;> omega
            omega
          obtain ⟨v5, W5, hrun, hO5, hb5, _⟩ := (hOh.lower hbw.size).append (b2 := Tree.encs k) (by have := hbw.size; omega) (by rw [← hne]; exact hBa.moved hb4) hlen
          rw [← hne] at hrun
          rw [hne] at hO5
          have HE := hideP (And.intro hO5 ((hbw.trans (hb4.mono hbw.size)).trans hb5))
          have HRUN := hideP hrun
          clear hBa hne hbw hnl hs4 hlen hrun hO5 hb5 hOh hb4 HM HHD cx0 cx1 cx2
          go_wp2_with (at_builtin; refine wpList_append_run rfl _ _ 23 rfl rfl rfl rfl HRUN.out ?_)
          go_ret
          exact ⟨⟨_, rfl, HE.out.1⟩, HE.out.2⟩

end Go.Proofs.Ytigebmidfddbcaa
