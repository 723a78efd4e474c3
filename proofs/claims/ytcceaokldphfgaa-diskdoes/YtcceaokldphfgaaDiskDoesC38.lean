/- YtcceaokldphfgaaDiskDoesC38 -/
import Derived.Test.YtcceaokldphfgaaDiskDoesC37
namespace Go.Proofs.Ytcceaokldphfgaa
open Go.RowKit Go.Shelf

set_option maxHeartbeats 2000000 in
set_option maxRecDepth 100000 in
theorem rsync_any {w : World} {role : DRole} {M n : Nat} {a : ASt} {rs : List DRep} {fv kv lv uv : Value} (h : DocOK w role M a rs fv kv lv uv) (hc : Coh a) (hf : FewA n a) (hn : n ≤ 998) (hs : SortedA a.fs) (t : ByteArray) :
    Calls Try.prog 41 #[.pointer (some ⟨M, 0, none⟩), .string t] w fun e w' => e = .returned (.int .i64 (syncA a t).2) ∧ Hid (DocTo w role M (syncA a t).1 kv lv uv w') := by
  have hbg := rbegin_any h hf (by omega)
  obtain ⟨X, hX⟩ : ∃ X, X = syncA a t := ⟨_, rfl⟩
  rw [← hX]
  by_cases he : (beginA a).2 = 0
  · have hba : (beginA a).1 = bumpA a := (begin_zero he).1
    rw [he, hba] at hbg
    have HG := hideP (And.intro hc (And.intro hf (And.intro hs (And.intro he hX))))
    clear h hc hf hs he hX hba
    go_enter Try.func41, Try.ntmps41
    go_wp2_with fail
    refine hbg.mono ?_
    rintro e9 W1 ⟨rfl, HT⟩
    clear hbg
    obtain ⟨role1, rs1, fv1, h1, s1⟩ := HT.out
    obtain ⟨hc, hf, hs, he, hX⟩ := HG.out
    have hfew : FewD rs1 := h1.few hf.bump (by omega)
    have hfs : a.fs = rs1.map (·.a) := h1.fs
    have hfd := rfind_any h1 hfew.1 t
    have H1 := hideP (And.intro h1 (And.intro s1 (And.intro hfew hfs)))
    clear h1 s1 hfew hfs hc hf hs he hX HT
    go_wp2_with fail
    refine hfd.mono ?_
    rintro e9 w9 ⟨⟨x, rfl, HFR⟩, rfl⟩
    clear hfd
    obtain ⟨h1, s1, hfew, hfs⟩ := H1.out
    obtain ⟨hc, hf, hs, he, hX⟩ := HG.out
    rcases HFR.out with ⟨hx, hno⟩ | ⟨i, r, hx, hr, hnm, hfst⟩
    · subst hx
      have hXv : X = (bumpA a, 13) := by rw [hX]; exact on_no he (by rw [hfs]; exact find_no hno)
      have HF : Hid (DocTo w role M X.1 kv lv uv W1) := by rw [hXv]; exact ⟨role1, rs1, fv1, h1, s1⟩
      have HX2 : Hid (X.2 = 13) := (by rw [hXv] : X.2 = 13)
      clear h1 s1 hfew hfs hc hf hs he hX hno hXv H1 HG HFR
      go_wp2
      go_ret
      refine ⟨?_, HF⟩
      rw [HX2.out]
      rfl
    · subst hx
      have hfa : findA a.fs t = some r.a := by rw [hfs]; exact find_yes hr hnm hfst
      have hi0 : ¬ (i : Int) < 0 := by omega
      have hmem := List.mem_of_getElem? hr
      have hil : i < rs1.length := (List.getElem?_eq_some_iff.1 hr).1
      have hi1 : (i : Int) < 1000 := by have := hfew.1; omega
      obtain ⟨g, cap, hfv, hcap, hgz, hg2, c0, c1, c2, hfr⟩ := h1.file hr
      have m5 : W1.cell? ⟨M, 5, none⟩ = some fv1 := blk_cell (o := 5) h1.str rfl
      have hF := h1.files r hmem
      have hW := h1.whole hc.bump hmem
      have hld := hF.lenD hW
      have hbd : Below W1.heap.size W1 W1.drew := (Below.refl _ W1).drew
      have hdat := ((h1.still hbd).files r hmem).dataD hW (hfew.2 r hmem)
      have hXv : X = ({ bumpA a with fs := setA (bumpA a).fs r.a.name syncF }, 0) := by rw [hX]; exact on_yes he hfa
      have hset : setA (bumpA a).fs r.a.name syncF = (bumpA a).fs.set i (syncF r.a) := (set_name syncF hs (i := i) (x := r.a) (by rw [hfs, List.getElem?_map, hr]; rfl)).symm
      obtain ⟨x1, x2, x3, ex⟩ : ∃ q n c, r.sv = .slice q n c := by
        obtain ⟨q, c, e, _⟩ := own_slice hF.safe.1
        exact ⟨_, _, _, e⟩
      obtain ⟨y1, y2, ey, _⟩ := hF.crow
      have hMg : M ≠ g := fun e => by have := h1.roleM; rw [e] at this; omega
      have HDT : Hid (Calls Try.prog 48 #[.agg #[.string r.a.name, r.sv, r.cv]] W1.drew fun e w' => ∃ q n k, e = .returned (.slice q n k) ∧ w'.cell? ⟨M, 5, none⟩ = some fv1 ∧ w'.cell? ⟨g, i * 3 + 1, none⟩ = some r.sv ∧ w'.cell? ⟨g, i * 3 + 2, none⟩ = some r.cv ∧ w'.frozen? ⟨g, i * 3 + 1, none⟩ = false ∧ w'.frozen? ⟨g, i * 3 + 2, none⟩ = false ∧ (w'.setCell ⟨g, i * 3 + 1, none⟩ (.slice q n k)).cell? ⟨M, 5, none⟩ = some fv1 ∧ ((w'.setCell ⟨g, i * 3 + 1, none⟩ (.slice q n k)).setCell ⟨g, i * 3 + 2, none⟩ (.slice none 0 0)).cell? ⟨M, 5, none⟩ = some fv1 ∧ Hid (DocTo w role M X.1 kv lv uv ((w'.setCell ⟨g, i * 3 + 1, none⟩ (.slice q n k)).setCell ⟨g, i * 3 + 2, none⟩ (.slice none 0 0)))) := by
        refine hdat.mono ?_
        rintro e9 w' ⟨q, n, k, rfl, HO⟩
        have hb2 : Below W1.heap.size W1 w' := hbd.trans (HO.out.1.2.mono hbd.size)
        have h2 := h1.still hb2
        obtain ⟨g', cap', hfv', _, hgz', _, _, d1, d2, hfr'⟩ := h2.file hr
        have e10 : g = g' := by
          rw [hfv] at hfv'
          simp only [Value.slice.injEq, Option.some.injEq, Addr.mk.injEq] at hfv'
          exact hfv'.1.1
        subst e10
        have hm : w'.cell? ⟨M, 5, none⟩ = some fv1 := blk_cell (o := 5) h2.str rfl
        have hown := HO.out.1.1
        have hnd : n = r.a.data.length := HO.out.2
        obtain ⟨role2, g1, g2, g3⟩ := DocOK.lay (f' := syncF r.a) h2 hr (own_zero hown) (fun k9 e9 => by
          by_cases hx : role1 k9 = 0
          · exact hx
          · have h5 := h1.dom k9 hx
            have h6 := (hown.lt k9 e9).1
            have h7 := hbd.size
            omega) hld rfl hW.symm rfl hfv
        have hM2 : ∀ v, (w'.setCell ⟨g, i * 3 + 1, none⟩ v).cell? ⟨M, 5, none⟩ = some fv1 := fun v => by
          have : (w'.setCell ⟨g, i * 3 + 1, none⟩ v).heap[M]? = w'.heap[M]? := Below.heap_setCell _ _ _ _ hMg
          simp only [World.cell?, this] at hm ⊢
          exact hm
        have hM3 : ∀ v u, ((w'.setCell ⟨g, i * 3 + 1, none⟩ v).setCell ⟨g, i * 3 + 2, none⟩ u).cell? ⟨M, 5, none⟩ = some fv1 := fun v u => by
          have : ((w'.setCell ⟨g, i * 3 + 1, none⟩ v).setCell ⟨g, i * 3 + 2, none⟩ u).heap[M]? = w'.heap[M]? := (Below.heap_setCell _ _ _ _ hMg).trans (Below.heap_setCell _ _ _ _ hMg)
          simp only [World.cell?, this] at hm ⊢
          exact hm
        refine ⟨q, n, k, rfl, hm, d1, d2, hfr' _, hfr' _, hM2 _, hM3 _ _, ?_⟩
        rw [hXv]
        rw [← hset] at g1
        refine ⟨role2, _, _, g1, s1.trans ⟨hb2.os, hb2.tape, hb2.output, by simp [World.setCell]; exact hb2.size, fun k9 hk9 => ?_, fun k9 hk9 hr9 => (g3 k9 (by omega)).trans (hb2.block k9 hk9)⟩⟩
        · rcases g2 k9 with e | e
          · exact e
          · have h6 := (hown.lt k9 e).1
            have h7 := hbd.size
            omega
      have HX2 : Hid (X.2 = 0) := (by rw [hXv] : X.2 = 0)
      rw [ex] at c1 HDT
      rw [ey] at c2 HDT
      rw [hfv] at m5 HDT
      generalize hnr : rs1.length = nr at *
      generalize r.a.chs.length = nc at *
      generalize r.a.name = nm at *
      clear h1 s1 hfew hfs hc hf hs he hX hXv H1 HG HFR hmem hfa hr hnm hfst hF hW hdat hld hbd hset hMg hfr
      go_wp2_with fail
      refine wp_region_heldS (S := fun V => V.cell? ⟨M, 5, none⟩ = some (.slice (some ⟨g, 0, none⟩) nr cap)) (by kernel_rfl) m5 (fun hS => ?_)
      refine wpAnyH_takeL (i := 0) (v := ?_) rfl (by kernel_rfl) (by kernel_rfl) (by kernel_rfl) (fun _ _ _ h => h) (Or.inl ⟨by kernel_rfl, ?_⟩) hS ?_
      rotate_left
      · intro V hV
        (try dsimp only at hV)
        go_simp
        (try with_reducible rfl)
      simp only [put_list, List.set_cons_succ, List.set_cons_zero]
      refine wpAnyH_takeL (i := 1) (v := ?_) rfl (by kernel_rfl) (by kernel_rfl) (by kernel_rfl) (fun _ _ _ h => h) (Or.inl ⟨by kernel_rfl, ?_⟩) hS ?_
      rotate_left
      · intro V hV
        (try dsimp only at hV)
        go_simp
        (try with_reducible rfl)
      simp only [put_list, List.set_cons_succ, List.set_cons_zero]
      refine wpAnyH_takeL (i := 2) (v := ?_) rfl (by kernel_rfl) (by kernel_rfl) (by kernel_rfl) (fun _ _ _ h => h) (Or.inl ⟨by kernel_rfl, ?_⟩) hS ?_
      rotate_left
      · intro V hV
        (try dsimp only at hV)
        go_simp
        (try with_reducible rfl)
      simp only [put_list, List.set_cons_succ, List.set_cons_zero]
      refine wpAnyH_takeL (i := 3) (v := ?_) rfl (by kernel_rfl) (by kernel_rfl) (by kernel_rfl) (fun _ _ _ h => h) (Or.inl ⟨by kernel_rfl, ?_⟩) hS ?_
      rotate_left
      · intro V hV
        (try dsimp only at hV)
        go_simp
        (try with_reducible rfl)
      simp only [put_list, List.set_cons_succ, List.set_cons_zero]
      refine wpAnyH_takeL (i := 4) (v := ?_) rfl (by kernel_rfl) (by kernel_rfl) (by kernel_rfl) (fun _ _ _ h => h) (Or.inl ⟨by kernel_rfl, ?_⟩) hS ?_
      rotate_left
      · intro V hV
        (try dsimp only at hV)
        go_simp
        (try with_reducible rfl)
      simp only [put_list, List.set_cons_succ, List.set_cons_zero]
      refine wpAnyH_takeL (i := 5) (v := ?_) rfl (by kernel_rfl) (by kernel_rfl) (by kernel_rfl) (fun _ _ _ h => h) (Or.inl ⟨by kernel_rfl, ?_⟩) hS ?_
      rotate_left
      · intro V hV
        (try dsimp only at hV)
        go_simp
        (try with_reducible rfl)
      simp only [put_list, List.set_cons_succ, List.set_cons_zero]
      refine wpAnyH_takeL (i := 6) (v := ?_) rfl (by kernel_rfl) (by kernel_rfl) (by kernel_rfl) (fun _ _ _ h => h) (Or.inl ⟨by kernel_rfl, ?_⟩) hS ?_
      rotate_left
      · intro V hV
        (try dsimp only at hV)
        go_simp
        (try with_reducible rfl)
      simp only [put_list, List.set_cons_succ, List.set_cons_zero]
      refine wpAnyH_takeL (i := 7) (v := ?_) rfl (by kernel_rfl) (by kernel_rfl) (by kernel_rfl) (fun _ _ _ h => h) (Or.inl ⟨by kernel_rfl, ?_⟩) hS ?_
      rotate_left
      · intro V hV
        (try dsimp only at hV)
        go_simp
        (try with_reducible rfl)
      simp only [put_list, List.set_cons_succ, List.set_cons_zero]
      refine wpAnyH_takeL (i := 8) (v := ?_) rfl (by kernel_rfl) (by kernel_rfl) (by kernel_rfl) (fun _ _ _ h => h) (Or.inl ⟨by kernel_rfl, ?_⟩) hS ?_
      rotate_left
      · intro V hV
        (try dsimp only at hV)
        go_simp
        (try with_reducible rfl)
      simp only [put_list, List.set_cons_succ, List.set_cons_zero]
      refine wpAnyH_takeL (i := 9) (v := ?_) rfl (by kernel_rfl) (by kernel_rfl) (by kernel_rfl) (fun _ _ _ h => h) (Or.inl ⟨by kernel_rfl, ?_⟩) hS ?_
      rotate_left
      · intro V hV
        (try dsimp only at hV)
        go_simp
        (try with_reducible rfl)
      simp only [put_list, List.set_cons_succ, List.set_cons_zero]
      refine wpAnyH_takeL (i := 10) (v := ?_) rfl (by kernel_rfl) (by kernel_rfl) (by kernel_rfl) (fun _ _ _ h => h) (Or.inl ⟨by kernel_rfl, ?_⟩) hS ?_
      rotate_left
      · intro V hV
        (try dsimp only at hV)
        go_simp
        (try with_reducible rfl)
      simp only [put_list, List.set_cons_succ, List.set_cons_zero]
      refine wpAnyH_takeL (i := 11) (v := ?_) rfl (by kernel_rfl) (by kernel_rfl) (by kernel_rfl) (fun _ _ _ h => h) (Or.inl ⟨by kernel_rfl, ?_⟩) hS ?_
      rotate_left
      · intro V hV
        (try dsimp only at hV)
        go_simp
        (try with_reducible rfl)
      simp only [put_list, List.set_cons_succ, List.set_cons_zero]
      refine wpAnyH_takeL (i := 12) (v := ?_) rfl (by kernel_rfl) (by kernel_rfl) (by kernel_rfl) (fun _ _ _ h => h) (Or.inl ⟨by kernel_rfl, ?_⟩) hS ?_
      rotate_left
      · intro V hV
        (try dsimp only at hV)
        go_simp
        (try with_reducible rfl)
      simp only [put_list, List.set_cons_succ, List.set_cons_zero]
      refine wpAnyH_takeL (i := 13) (v := ?_) rfl (by kernel_rfl) (by kernel_rfl) (by kernel_rfl) (fun _ _ _ h => h) (Or.inl ⟨by kernel_rfl, ?_⟩) hS ?_
      rotate_left
      · intro V hV
        (try dsimp only at hV)
        go_simp
        (try with_reducible rfl)
      simp only [put_list, List.set_cons_succ, List.set_cons_zero]
      refine wpAnyH_takeL (i := 14) (v := ?_) rfl (by kernel_rfl) (by kernel_rfl) (by kernel_rfl) (fun _ _ _ h => h) (Or.inl ⟨by kernel_rfl, ?_⟩) hS ?_
      rotate_left
      · intro V hV
        (try dsimp only at hV)
        go_simp
        (try with_reducible rfl)
      simp only [put_list, List.set_cons_succ, List.set_cons_zero]
      refine wpAnyH_takeL (i := 15) (v := ?_) rfl (by kernel_rfl) (by kernel_rfl) (by kernel_rfl) (fun _ _ _ h => h) (Or.inl ⟨by kernel_rfl, ?_⟩) hS ?_
      rotate_left
      · intro V hV
        (try dsimp only at hV)
        go_simp
        (try with_reducible rfl)
      simp only [put_list, List.set_cons_succ, List.set_cons_zero]
      refine wpAnyH_ready (rs := [16]) (by kernel_rfl) (by simp) (AllReadyH.cons rfl (fun K hK => ?_) (AllReadyH.nil))
      go_simp
      refine hK.out _ _ (by (first | exact hS | exact z1 | exact z6 | exact z7)) (fun hS => ?_)
      clear hK K
      refine wpAnyH_ready (rs := [17]) (by kernel_rfl) (by simp) (AllReadyH.cons rfl (fun K hK => ?_) (AllReadyH.nil))
      go_simp
      refine HDT.out.mono ?_
      rintro e9 w9 ⟨q9, n9, k9, rfl, z1, z2, z3, z4, z5, z6, z7, HF⟩
      refine hK.out _ _ (by (first | exact hS | exact z1 | exact z6 | exact z7)) (fun hS => ?_)
      clear hK K
      refine wpAnyH_takeL (i := 18) (v := ?_) rfl (by kernel_rfl) (by kernel_rfl) (by kernel_rfl) (fun _ _ _ h => h) (Or.inl ⟨by kernel_rfl, ?_⟩) hS ?_
      rotate_left
      · intro V hV
        (try dsimp only at hV)
        go_simp
        (try with_reducible rfl)
      simp only [put_list, List.set_cons_succ, List.set_cons_zero]
      refine wpAnyH_takeL (i := 19) (v := ?_) rfl (by kernel_rfl) (by kernel_rfl) (by kernel_rfl) (fun _ _ _ h => h) (Or.inl ⟨by kernel_rfl, ?_⟩) hS ?_
      rotate_left
      · intro V hV
        (try dsimp only at hV)
        go_simp
        (try with_reducible rfl)
      simp only [put_list, List.set_cons_succ, List.set_cons_zero]
      refine wpAnyH_ready (rs := [20]) (by kernel_rfl) (by simp) (AllReadyH.cons rfl (fun K hK => ?_) (AllReadyH.nil))
      go_simp
      refine hK.out _ _ (by (first | exact hS | exact z1 | exact z6 | exact z7)) (fun hS => ?_)
      clear hK K
      refine wpAnyH_takeL (i := 21) (v := ?_) rfl (by kernel_rfl) (by kernel_rfl) (by kernel_rfl) (fun _ _ _ h => h) (Or.inl ⟨by kernel_rfl, ?_⟩) hS ?_
      rotate_left
      · intro V hV
        (try dsimp only at hV)
        go_simp
        (try with_reducible rfl)
      simp only [put_list, List.set_cons_succ, List.set_cons_zero]
      refine wpAnyH_takeL (i := 22) (v := ?_) rfl (by kernel_rfl) (by kernel_rfl) (by kernel_rfl) (fun _ _ _ h => h) (Or.inl ⟨by kernel_rfl, ?_⟩) hS ?_
      rotate_left
      · intro V hV
        (try dsimp only at hV)
        go_simp
        (try with_reducible rfl)
      simp only [put_list, List.set_cons_succ, List.set_cons_zero]
      refine wpAnyH_ready (rs := [23]) (by kernel_rfl) (by simp) (AllReadyH.cons rfl (fun K hK => ?_) (AllReadyH.nil))
      go_simp
      refine hK.out _ _ (by (first | exact hS | exact z1 | exact z6 | exact z7)) (fun hS => ?_)
      clear hK K
      refine wpAnyH_done (by kernel_rfl) ?_ _
      clear hS
      go_wp2
      go_ret
      refine ⟨?_, HF⟩
      rw [HX2.out]
      rfl
  · have hXv : X = beginA a := by rw [hX]; exact on_err he
    have hne : ((beginA a).2 != 0) = true := by simpa using he
    rw [← hXv] at hbg hne
    clear h hc hf hs hX hXv he
    generalize X.2 = y at *
    go_enter Try.func41, Try.ntmps41
    go_wp2_with fail
    refine hbg.mono ?_
    rintro e9 W1 ⟨rfl, HT⟩
    clear hbg
    go_wp2
    go_ret
    exact ⟨rfl, HT⟩

end Go.Proofs.Ytcceaokldphfgaa

namespace Go.Proofs.Ytcceaokldphfgaa
open Go.RowKit Go.Shelf

theorem filesC_len (rs : List DRep) : (filesC rs).length = rs.length * 3 := by
  induction rs with
  | nil => rfl
  | cons r rs ih =>
    show ([Value.string r.a.name, r.sv, r.cv] ++ filesC rs).length = _
    rw [List.length_append, ih, List.length_cons]
    simp; omega

theorem filesC_append (A B : List DRep) : filesC (A ++ B) = filesC A ++ filesC B := by unfold filesC; rw [List.flatMap_append]

theorem filesC_take (rs : List DRep) (i : Nat) : filesC (rs.take i) = (filesC rs).take (i * 3) := by
  rcases Nat.lt_or_ge i rs.length with h | h
  · conv => rhs; rw [← List.take_append_drop i rs, filesC_append]
    exact (List.take_left' (by rw [filesC_len, List.length_take]; omega)).symm
  · rw [List.take_of_length_le h, List.take_of_length_le (by rw [filesC_len]; omega)]

theorem filesC_drop (rs : List DRep) (i : Nat) : filesC (rs.drop i) = (filesC rs).drop (i * 3) := by
  rcases Nat.lt_or_ge i rs.length with h | h
  · conv => rhs; rw [← List.take_append_drop i rs, filesC_append]
    exact (List.drop_left' (by rw [filesC_len, List.length_take]; omega)).symm
  · rw [List.drop_of_length_le h, List.drop_of_length_le (by rw [filesC_len]; omega)]
    rfl

theorem filesC_one {w : World} {role : DRole} {rs : List DRep} (h : ∀ r ∈ rs, DFileOK w role r) : ∀ u ∈ filesC rs, u.oneCell' = true := by
  intro u hu
  unfold filesC at hu
  rw [List.mem_flatMap] at hu
  obtain ⟨r, hr, hu⟩ := hu
  have hF := h r hr
  simp only [List.mem_cons, List.not_mem_nil, or_false] at hu
  rcases hu with rfl | rfl | rfl
  · rfl
  · obtain ⟨q, c, e, _⟩ := own_slice hF.safe.1
    rw [e]; rfl
  · obtain ⟨q, c, e, _⟩ := hF.crow
    rw [e]; rfl

theorem DocOK.cut {V : World} {role : DRole} {M i : Nat} {a : ASt} {rs : List DRep} {r : DRep} {fv kv lv uv : Value} (h : DocOK V role M a rs fv kv lv uv) (hi : rs[i]? = some r) (hn : rs.length ≤ 1000) {g cap : Nat} (hfv : fv = .slice (some ⟨g, 0, none⟩) rs.length cap) :
    ∃ q1 c1 w1 q2 c2 w2, Hid ((Builtin.append_ #[39, 39] 39 #[.slice none 0 0, .slice (some ⟨g, 0, none⟩) i cap]).run Try.prog V = .ok (.slice q1 i c1) w1) ∧
      Hid ((Builtin.append_ #[39, 39] 39 #[.slice q1 i c1, .slice (if cap = i + 1 then some ⟨g, 0, none⟩ else some ⟨g, (i + 1) * 3, none⟩) (rs.length - (i + 1)) (cap - (i + 1))]).run Try.prog w1 = .ok (.slice q2 (rs.length - 1) c2) w2) ∧
      Below V.heap.size V w1 ∧ Below V.heap.size V w2 ∧
      Hid (∃ role', DocOK (w2.setCell ⟨M, 5, none⟩ (.slice q2 (rs.length - 1) c2)) role' M { a with fs := a.fs.eraseIdx i } (rs.eraseIdx i) (.slice q2 (rs.length - 1) c2) kv lv uv ∧ DStp role role' V (w2.setCell ⟨M, 5, none⟩ (.slice q2 (rs.length - 1) c2)) ∧ DFileOK (w2.setCell ⟨M, 5, none⟩ (.slice q2 (rs.length - 1) c2)) role' r ∧ ∀ q ∈ rs.eraseIdx i, ∀ k, r.cv.ownBlock = some k → q.cv.ownBlock ≠ some k) := by
  have hil : i < rs.length := (List.getElem?_eq_some_iff.1 hi).1
  obtain ⟨i0, hi0, hz0, hz1, hz2⟩ := info_parts Try.info90
  have hrow : V.ownsRow 0 90 3 (.slice (some ⟨g, 0, none⟩) rs.length cap) rs.length (filesC rs) := by rw [← hfv]; exact h.row
  have hone := filesC_one h.files
  have hcells : ∀ (k : Nat) u, (filesC rs)[k]? = some u → V.cell? ⟨g, k, none⟩ = some u := fun k u hu => by
    obtain ⟨g', cap', e, _, _, hc, _⟩ := own_cell hrow hu
    cases e
    exact hc
  have hcapn : rs.length ≤ cap := by
    rcases hrow.2 with ⟨e, _⟩ | ⟨g', cap', cur, e, _, _, h1, _⟩
    · cases e
    · cases e; exact h1
  have hgz : g < V.heap.size := h.dom g (by rw [h.rowR g (by rw [hfv]; rfl)]; omega)
  obtain ⟨v1, w1, hr1, ho1, hg1⟩ := app_wide (P := Try.prog) V 39 39 90 i0 _ 3 64 Try.underlying39 hi0 hz0 hz1 hz2 rfl (by decide) (.slice none 0 0) 0 [] (World.ownsRow_nil _ _ _ _) ⟨g, 0, none⟩ i cap ((filesC rs).take (i * 3)) (by rw [List.length_take, filesC_len]; omega)
    (fun j u hu => by
      rw [Addr.add_lit, Nat.zero_add]
      rw [List.getElem?_take] at hu
      split at hu
      · exact hcells j u hu
      · cases hu) (fun u hu => hone u (List.mem_of_mem_take hu)) (by unfold maxLen; omega) (by omega)
  rw [Nat.zero_add, List.nil_append] at ho1
  have hs1 : ∃ q1 c1, v1 = .slice q1 i c1 := by
    rcases ho1.2 with ⟨e, h0⟩ | ⟨g', cap', cur, e, _⟩
    · exact ⟨none, 0, by rw [h0]; exact e⟩
    · exact ⟨_, _, e⟩
  obtain ⟨q1, c1, rfl⟩ := hs1
  have hb1 : Below V.heap.size V w1 := (Below.refl _ V).grown hg1.by_ (Nat.le_refl _) (fun k e => by cases e)
  have hnew1 : ∀ k, (Value.slice q1 i c1).ownBlock = some k → V.heap.size ≤ k := fun k e => by
    rcases hg1.at_ k e with h1 | h1
    · cases h1
    · exact h1
  obtain ⟨v2, w2, hr2, ho2, hg2⟩ := app_wide (P := Try.prog) w1 39 39 90 i0 _ 3 64 Try.underlying39 hi0 hz0 hz1 hz2 rfl (by decide) (.slice q1 i c1) i _ ho1 (if cap = i + 1 then ⟨g, 0, none⟩ else ⟨g, (i + 1) * 3, none⟩) (rs.length - (i + 1)) (cap - (i + 1)) ((filesC rs).drop ((i + 1) * 3)) (by rw [List.length_drop, filesC_len]; omega)
    (fun j u hu => by
      rw [List.getElem?_drop] at hu
      have hlt := (List.getElem?_eq_some_iff.1 hu).1
      rw [filesC_len] at hlt
      rw [if_neg (by omega), Addr.add_lit]
      exact (hb1.cell (p := ⟨g, (i + 1) * 3 + j, none⟩) hgz).trans (hcells _ u hu)) (fun u hu => hone u (List.mem_of_mem_drop hu)) (by unfold maxLen; omega) (by omega)
  rw [show i + (rs.length - (i + 1)) = rs.length - 1 by omega] at ho2
  have hs2 : ∃ q2 c2, v2 = .slice q2 (rs.length - 1) c2 := by
    rcases ho2.2 with ⟨e, h0⟩ | ⟨g', cap', cur, e, _⟩
    · exact ⟨none, 0, by rw [h0]; exact e⟩
    · exact ⟨_, _, e⟩
  obtain ⟨q2, c2, rfl⟩ := hs2
  have hb2 : Below V.heap.size V w2 := hb1.grown hg2.by_ hb1.size (fun k e => hnew1 k e)
  have hnew2 : ∀ k, (Value.slice q2 (rs.length - 1) c2).ownBlock = some k → V.heap.size ≤ k := fun k e => by
    rcases hg2.at_ k e with h1 | h1
    · exact hnew1 k h1
    · have := hb1.size; omega
  refine ⟨q1, c1, w1, q2, c2, w2, hr1, ?_, hb1, hb2, ?_⟩
  · have e : (if cap = i + 1 then some (⟨g, 0, none⟩ : Addr) else some ⟨g, (i + 1) * 3, none⟩) = some (if cap = i + 1 then ⟨g, 0, none⟩ else ⟨g, (i + 1) * 3, none⟩) := by split <;> rfl
    rw [e]
    exact hr2
  have h2 := h.still hb2
  have hM1 := h.roleM
  have hMz := h.dom M (by omega)
  have hne : ∀ k, k ≠ M → (w2.setCell ⟨M, 5, none⟩ (.slice q2 (rs.length - 1) c2)).heap[k]? = w2.heap[k]? := fun k hk => Below.heap_setCell _ _ _ k hk
  have hneR : ∀ k, role k ≠ 1 → k ≠ M := fun k hk e => hk (by rw [e]; exact hM1)
  obtain ⟨role', hrole⟩ : ∃ role' : DRole, role' = fun k => if (Value.slice q2 (rs.length - 1) c2).ownBlock = some k then 2 else role k := ⟨_, rfl⟩
  have hro : ∀ k, k < V.heap.size → role' k = role k := fun k hk => by
    rw [hrole]
    exact if_neg (fun e => by have := hnew2 k e; omega)
  have h44 : ∀ k, role k = 4 → k < V.heap.size → (w2.setCell ⟨M, 5, none⟩ (.slice q2 (rs.length - 1) c2)).heap[k]? = V.heap[k]? ∧ role' k = 4 := fun k e hk => ⟨(hne k (hneR k (by omega))).trans (hb2.block k hk), (hro k hk).trans e⟩
  have hkept : ∀ q ∈ rs, DFileOK (w2.setCell ⟨M, 5, none⟩ (.slice q2 (rs.length - 1) c2)) role' q := fun q hq => (h.files q hq).kept h44 (fun k e => by
    have h3 := (h.files q hq).rowR k e
    have hkz := ((h.files q hq).row.lt k e).2
    exact ⟨(hne k (hneR k (by omega))).trans (hb2.block k hkz), (hro k hkz).trans h3⟩)
  have hsz : (w2.setCell ⟨M, 5, none⟩ (.slice q2 (rs.length - 1) c2)).heap.size = w2.heap.size := by simp [World.setCell]
  have hel : (rs.eraseIdx i).length = rs.length - 1 := List.length_eraseIdx_of_lt hil
  have hfe : filesC (rs.eraseIdx i) = (filesC rs).take (i * 3) ++ (filesC rs).drop ((i + 1) * 3) := by
    rw [List.eraseIdx_eq_take_drop_succ, filesC_append, filesC_take, filesC_drop]
  refine ⟨role', h.re hro (fun k e hk => (h44 k e hk).1) ?_ rfl rfl rfl rfl rfl ?_ ?_ ?_ (fun q hq => hkept q (List.mem_of_mem_eraseIdx hq)) (h.apart.sublist (List.eraseIdx_sublist _ _)) ?_ ?_, ?_, hkept r (List.mem_of_getElem? hi), ?_⟩
  · exact (blk_set (o := 5) ((hb2.block M hMz).trans h.str) _).trans (by rfl)
  · show a.fs.eraseIdx i = _
    rw [h.fs, List.eraseIdx_eq_take_drop_succ, List.eraseIdx_eq_take_drop_succ, List.map_append, List.map_take, List.map_drop]
  · rw [hel, hfe]
    exact own_keep ho2 (fun k e => hne k (fun e2 => by have := hnew2 k e; omega))
  · intro k e
    rw [hrole]
    exact if_pos e
  · intro k e
    rw [hrole] at e
    simp only at e
    split at e
    · omega
    · exact h.one k e
  · intro k e
    rw [hsz]
    rw [hrole] at e
    simp only at e
    split at e
    · rename_i e2
      exact (ho2.lt k e2).2
    · exact Nat.lt_of_lt_of_le (h.dom k e) hb2.size
  · exact ⟨hb2.os, hb2.tape, hb2.output, by rw [hsz]; exact hb2.size, hro, fun k hk hr => (hne k (hneR k (by omega))).trans (hb2.block k hk)⟩
  · intro q hq k e1 e2
    obtain ⟨j, hj⟩ := List.mem_iff_getElem?.1 hq
    rw [List.getElem?_eraseIdx] at hj
    split at hj
    · have := apart_get h.apart hi hj e1 e2; omega
    · have := apart_get h.apart hi hj e1 e2; omega

end Go.Proofs.Ytcceaokldphfgaa
