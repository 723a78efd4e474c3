/- YtcceaokldphfgaaDiskTwinsC43 -/
import Derived.Test.YtcceaokldphfgaaDiskTwinsC42
namespace Go.Proofs.Ytcceaokldphfgaa
open Go.RowKit Go.Shelf

/-- The clone of a change, and the row with it. -/
theorem clone_step {w wr : World} {role0 : Role} {f : FRep} {p j : Nat} {c : Chg} {cv : Value} (hI : CloneI w f p j wr) (hc : f.a.chs[j]? = some c) (hat : ChgAt wr role0 c cv) (hl0 : ∀ k q, role0 k = some q → k < wr.heap.size) (hn : f.a.chs.length ≤ 1099511627776) :
    ∃ chV, wr.cell? ⟨p, 2, none⟩ = some chV ∧ (∃ a n k, chV = .slice a n k) ∧ ∃ fn av, (cv = .iface 106 av ∧ fn = 107 ∨ cv = .iface 109 av ∧ fn = 111) ∧ Hid (Calls Try.prog fn #[av] wr.drew fun r w2 => ∃ ty av', r = .returned (.iface ty av') ∧
      Hid (w2.cell? ⟨p, 2, none⟩ = some chV ∧ (w2.alloc (.cells #[.iface ty av'] 119)).cell? ⟨p, 2, none⟩ = some chV ∧ ∃ a3 n3 k3 w3, Hid ((Builtin.append_ #[85, 85] 85 #[chV, .slice (some ⟨w2.heap.size, 0, none⟩) 1 1]).run Try.prog (w2.alloc (.cells #[.iface ty av'] 119)) = .ok (.slice a3 n3 k3) w3) ∧
        w3.cell? ⟨p, 2, none⟩ = some chV ∧ w3.frozen? ⟨p, 2, none⟩ = false ∧ Hid (CloneI w f p (j + 1) (w3.setCell ⟨p, 2, none⟩ (.slice a3 n3 k3))))) := by
  obtain ⟨role, f', hF, hN, hp, ha⟩ := hI.ex
  have hcp : wr.cell? ⟨p, 2, none⟩ = some f'.chV := by rw [← hp]; exact blk_cell hF.blk rfl
  obtain ⟨vals, hv, _⟩ := hF.och
  obtain ⟨a, k, hch, _⟩ := own_slice hv
  have key : ∀ (w2 : World) (cv' : Value), Below wr.heap.size wr w2 → ChgAt w2 (extR role wr w2 (6, 0)) c cv' → Hid (w2.cell? ⟨p, 2, none⟩ = some f'.chV ∧ (w2.alloc (.cells #[cv'] 119)).cell? ⟨p, 2, none⟩ = some f'.chV ∧ ∃ a3 n3 k3 w3, Hid ((Builtin.append_ #[85, 85] 85 #[f'.chV, .slice (some ⟨w2.heap.size, 0, none⟩) 1 1]).run Try.prog (w2.alloc (.cells #[cv'] 119)) = .ok (.slice a3 n3 k3) w3) ∧
        w3.cell? ⟨p, 2, none⟩ = some f'.chV ∧ w3.frozen? ⟨p, 2, none⟩ = false ∧ Hid (CloneI w f p (j + 1) (w3.setCell ⟨p, 2, none⟩ (.slice a3 n3 k3)))) := by
    intro w2 cv' hb2 hc2
    have hF2 : FileOK w2 (extR role wr w2 (6, 0)) f' := hF.kept (fun k hk _ => hb2.block k (by rcases hk with ⟨i, hk⟩ | hk <;> exact hN.hi k _ hk)) (fun k q e => extR_old hN.hi k q e)
    have hfl : f'.a.chs.length ≤ 1099511627776 := by rw [ha]; simp; omega
    obtain ⟨a3, n3, k3, w3, q1, q2, q3, q4, q5⟩ := file_app hF2 (fun k q e => extR_dom hb2.size k q e) hc2 hfl
    have hcp2 : w2.cell? ⟨p, 2, none⟩ = some f'.chV := by rw [← hp]; exact blk_cell hF2.blk rfl
    rw [hp] at q2 q3
    refine ⟨hcp2, (World.grownBy_alloc w2 _ none).cell hcp2 (by simp), a3, n3, k3, w3, q1, q2, q3, ?_⟩
    have := clone_next hI.below hb2 hF hN hp ha hc q4 q5
    rw [hp] at this
    exact this
  refine ⟨f'.chV, hcp, ⟨a, _, k, hch⟩, ?_⟩
  cases c with
  | inl q =>
    obtain ⟨at_, l⟩ := q
    obtain ⟨bv, rfl, hrd, hro, hle⟩ := hat
    obtain ⟨qa, qc, rfl, hq1, hq2⟩ := id hrd
    refine ⟨107, _, .inl ⟨rfl, rfl⟩, ?_⟩
    have hrd' : Rd wr.drew (.slice qa l.length qc) l := hrd
    refine (wclone_any hrd' (fun b e hne => ?_) (by omega)).mono ?_
    · have := hro b l.length qc (by rw [e])
      exact hl0 _ _ this
    · rintro r w2 ⟨b, rfl, ho, hb⟩
      have hb2 : Below wr.heap.size wr w2 := ⟨hb.os, hb.tape, hb.output, hb.size, hb.block⟩
      refine ⟨_, _, rfl, key w2 _ hb2 ⟨_, rfl, Rd.of_own (own_zero ho.out), fun a' n' c' e => ?_, hle⟩⟩
      simp only [Value.slice.injEq, Option.some.injEq] at e
      rw [← e.1]
      have h9 := ho.out.lt b rfl
      exact extR_new h9.1 h9.2
  | inr long =>
    obtain ⟨rfl, hle⟩ := hat
    refine ⟨111, _, .inr ⟨rfl, rfl⟩, ?_⟩
    refine (cclone_any (w := wr.drew)).mono ?_
    rintro r w2 ⟨rfl, hb⟩
    have hb2 : Below wr.heap.size wr w2 := ⟨hb.os, hb.tape, hb.output, hb.size, hb.block⟩
    exact ⟨_, _, rfl, key w2 _ hb2 ⟨rfl, hle⟩⟩

/-- The two rows of bytes and the box of a clone. -/
theorem clone_rows {w : World} {role : Role} {f : FRep} (hF : FileOK w role f) (hd : ∀ k q, role k = some q → k < w.heap.size) :
    Hid (Calls Try.prog 46 #[f.safeV] w.drew fun r w1 => ∃ bs, r = .returned (.slice (some ⟨bs, 0, none⟩) f.a.safe.length f.a.safe.length) ∧ (w1.cell? ⟨f.p, 0, none⟩ = some (.string f.a.name) ∧ w1.cell? ⟨f.p, 1, none⟩ = some f.safeV ∧ w1.cell? ⟨f.p, 3, none⟩ = some f.dataV) ∧
      Hid (Calls Try.prog 46 #[f.dataV] w1 fun r w2 => ∃ bd, r = .returned (.slice (some ⟨bd, 0, none⟩) f.a.data.length f.a.data.length) ∧ (w2.cell? ⟨f.p, 0, none⟩ = some (.string f.a.name) ∧ w2.cell? ⟨f.p, 1, none⟩ = some f.safeV ∧ w2.cell? ⟨f.p, 3, none⟩ = some f.dataV) ∧
        Hid (CloneI w f w2.heap.size 0 (w2.alloc (.cells #[.string f.a.name, .slice (some ⟨bs, 0, none⟩) f.a.safe.length f.a.safe.length, .slice none 0 0, .slice (some ⟨bd, 0, none⟩) f.a.data.length f.a.data.length] 87)))) ) := by
  have hlt := hd _ _ hF.rp
  have hcells : ∀ w', Below w.heap.size w w' → (w'.cell? ⟨f.p, 0, none⟩ = some (.string f.a.name) ∧ w'.cell? ⟨f.p, 1, none⟩ = some f.safeV ∧ w'.cell? ⟨f.p, 3, none⟩ = some f.dataV) := fun w' hb => by
    have hbl := (hb.block _ hlt).trans hF.blk
    exact ⟨blk_cell hbl rfl, blk_cell hbl rfl, blk_cell hbl rfl⟩
  have hls := hF.lsafe
  have hld := hF.ldata
  refine (copyBytes_any _ f.a.safe w.drew (Rd.of_own hF.osafe) (by omega)).mono ?_
  rintro r w1 ⟨rfl, ho1, hb1⟩
  have hb1' : Below w.heap.size w w1 := ⟨hb1.os, hb1.tape, hb1.output, hb1.size, hb1.block⟩
  refine ⟨_, rfl, hcells _ hb1', ?_⟩
  have hF1 : FileOK w1 role f := hF.kept (fun k hk _ => hb1'.block k (by rcases hk with ⟨i, hk⟩ | hk <;> exact hd k _ hk)) (fun k q e => e)
  refine (copyBytes_any _ f.a.data w1 (Rd.of_own hF1.odata) (by omega)).mono ?_
  rintro r w2 ⟨rfl, ho2, hb2⟩
  have hb2' : Below w1.heap.size w1 w2 := hb2
  have hb02 : Below w.heap.size w w2 := hb1'.trans (hb2'.mono hb1'.size)
  refine ⟨_, rfl, hcells _ hb02, ?_⟩
  have hl1 := ho1.lt w.heap.size rfl
  refine clone_begin (hb02.alloc hb02.size _) (World.alloc_heap_new w2 _) hb02.size ((own_below ho1 hb2').alloc _) (row_to (ho2.alloc _) hb1'.size (fun _ _ _ => rfl)) ?_ hls hld
  show w.heap.size ≠ w1.heap.size
  omega

set_option maxHeartbeats 4000000 in
set_option maxRecDepth 100000 in
theorem fclone_any {w : World} {role : Role} {f : FRep} (hF : FileOK w role f) (hd : ∀ k q, role k = some q → k < w.heap.size) (hn : f.a.chs.length ≤ 1099511627776) :
    Calls Try.prog 52 #[.pointer (some ⟨f.p, 0, none⟩)] w fun r w' => ∃ p, r = .returned (.pointer (some ⟨p, 0, none⟩)) ∧ Hid (CloneI w f p f.a.chs.length w') := by
  have c0 : w.cell? ⟨f.p, 0, none⟩ = some (.string f.a.name) := blk_cell hF.blk rfl
  have c1 : w.cell? ⟨f.p, 1, none⟩ = some f.safeV := blk_cell hF.blk rfl
  have c3 : w.cell? ⟨f.p, 3, none⟩ = some f.dataV := blk_cell hF.blk rfl
  have HROW := clone_rows hF hd
  obtain ⟨as_, ks, hsv, _⟩ := own_slice hF.osafe
  obtain ⟨ad, kd, hdv, _⟩ := own_slice hF.odata
  obtain ⟨vals, hvals, _⟩ := hF.och
  obtain ⟨ac, kc, hcv, _⟩ := own_slice hvals
  rw [hsv] at c1 HROW
  rw [hdv] at c3 HROW
  have HC2 : Hid (∀ p j wr, CloneI w f p j wr → wr.cell? ⟨f.p, 2, none⟩ = some (.slice ac f.a.chs.length kc)) := fun p j wr hI => by
    rw [← hcv]
    exact blk_cell ((hI.below.block _ (hd _ _ hF.rp)).trans hF.blk) rfl
  have HFW : Hid (∀ p j wr, CloneI w f p j wr → FileOK wr role f ∧ ∀ k q, role k = some q → k < wr.heap.size) := fun p j wr hI => ⟨hF.kept (fun k hk _ => hI.below.block k (by rcases hk with ⟨i, hk⟩ | hk <;> exact hd k _ hk)) (fun k q e => e), fun k q e => Nat.lt_of_lt_of_le (hd k q e) hI.below.size⟩
  have HCV := hideP hcv
  have HN := hideP hn
  clear hF hd hsv hdv hvals hcv
  go_enter Try.func52, Try.ntmps52
  go_wp2
  go_region_held3 (fun w' => w'.cell? ⟨f.p, 0, none⟩ = some (.string f.a.name) ∧ w'.cell? ⟨f.p, 1, none⟩ = some (.slice as_ f.a.safe.length ks) ∧ w'.cell? ⟨f.p, 3, none⟩ = some (.slice ad f.a.data.length kd)) (go_keep) (first | (go_at_call 46; refine HR2.out.mono ?_; rintro r w2 ⟨bd, rfl, ⟨e0, e1, e3⟩, HI0⟩) | (go_at_call 46; refine HROW.out.mono ?_; rintro r w1 ⟨bs, rfl, ⟨d0, d1, d3⟩, HR2⟩))
  have m2 := HC2.out _ _ _ HI0.out
  generalize hW : w2.alloc (.cells #[.string f.a.name, .slice (some ⟨bs, 0, none⟩) f.a.safe.length f.a.safe.length, .slice none 0 0, .slice (some ⟨bd, 0, none⟩) f.a.data.length f.a.data.length] 87) = W at m2 HI0 ⊢
  generalize w2.heap.size = p at HI0 ⊢
  clear hW e0 e1 e3 d0 d1 d3 c0 c1 c3 HR2 HROW
  go_wp2
  go_loopw [5, 27] (fun _ q wr => ∃ j : Nat, j ≤ f.a.chs.length ∧ q = .int .i64 j ∧ Hid (CloneI w f p j wr)) (fun _ q _ => f.a.chs.length - (intOf q).toNat)
  case atStart => exact ⟨0, Nat.zero_le _, rfl, HI0⟩
  case round =>
    obtain ⟨j, hj, rfl, hin⟩ := hrel
    by_cases hjl : j < f.a.chs.length
    · obtain ⟨hF2, hd2⟩ := HFW.out _ _ _ hin.out
      obtain ⟨vals, hvals, hat⟩ := hF2.och
      obtain ⟨cv, hcvj, hcat⟩ := hat j f.a.chs[j] (by simp [hjl])
      obtain ⟨g, hg, hgc⟩ : ∃ g, ac = some ⟨g, 0, none⟩ ∧ wr.cell? ⟨g, j, none⟩ = some cv := by
        have e := HCV.out
        simp only [e] at hvals
        rcases hvals.2 with ⟨_, e0⟩ | ⟨g, cap, cur, e0, _, hgg, _, _, _, ht⟩
        · exact absurd hjl (by omega)
        · simp only [Value.slice.injEq] at e0
          refine ⟨g, e0.1, blk_cell hgg ?_⟩
          rw [← ht, List.getElem?_take] at hcvj
          split at hcvj
          · simpa using hcvj
          · cases hcvj
      subst hg
      obtain ⟨c, hcc⟩ : ∃ c, c = f.a.chs[j] := ⟨_, rfl⟩
      rw [← hcc] at hcat
      obtain ⟨chV, hch, ⟨a, n, k, rfl⟩, fn, av, hcase, HCL⟩ := clone_step hin.out (c := c) (by rw [hcc]; simp [hjl]) hcat hd2 HN.out
      cases c with
      | inl q =>
        obtain ⟨at_, l⟩ := q
        obtain ⟨bv, rfl, _⟩ := id hcat
        rcases hcase with ⟨e, rfl⟩ | ⟨e, _⟩
        rotate_left
        · simp at e
        simp only [Value.iface.injEq, true_and] at e
        subst e
        have hna := nilAhead_wc (.int .i64 at_) bv
        have hme := method_wc (.int .i64 at_) bv
        clear hF2 hd2 hvals hat hcvj hcat hcc hin m2
        go_wp2
        refine wp_region_heldS (S := fun _ => True) (by kernel_rfl) trivial (fun _ => ?_)
        refine wpAnyH_takeL (i := 0) (v := ?_) rfl (by kernel_rfl) (by kernel_rfl) (by kernel_rfl) (fun _ _ _ h => h) (Or.inl ⟨by kernel_rfl, ?_⟩) trivial ?_
        rotate_left
        · intro V _
          go_simp
          (try with_reducible rfl)
        simp only [put_list, List.set_cons_succ, List.set_cons_zero]
        refine wpAnyH_takeL (i := 1) (v := ?_) rfl (by kernel_rfl) (by kernel_rfl) (by kernel_rfl) (fun _ _ _ h => h) (Or.inl ⟨by kernel_rfl, ?_⟩) trivial ?_
        rotate_left
        · intro V _
          go_simp
          (try with_reducible rfl)
        simp only [put_list, List.set_cons_succ, List.set_cons_zero]
        refine wpAnyH_takeL (i := 2) (v := ?_) rfl (by kernel_rfl) (by kernel_rfl) (by kernel_rfl) (fun _ _ _ h => h) (Or.inl ⟨by kernel_rfl, ?_⟩) trivial ?_
        rotate_left
        · intro V _
          go_simp
          (try with_reducible rfl)
        simp only [put_list, List.set_cons_succ, List.set_cons_zero]
        refine wpAnyH_takeL (i := 3) (v := ?_) rfl (by kernel_rfl) (by kernel_rfl) (by kernel_rfl) (fun _ _ _ h => h) (Or.inl ⟨by kernel_rfl, ?_⟩) trivial ?_
        rotate_left
        · intro V _
          go_simp
          (try with_reducible rfl)
        simp only [put_list, List.set_cons_succ, List.set_cons_zero]
        refine wpAnyH_takeL (i := 5) (v := ?_) rfl (by kernel_rfl) (by kernel_rfl) (by kernel_rfl) (fun _ _ _ h => h) (Or.inl ⟨by kernel_rfl, ?_⟩) trivial ?_
        rotate_left
        · intro V _
          go_simp
          (try with_reducible rfl)
        simp only [put_list, List.set_cons_succ, List.set_cons_zero]
        refine wpAnyH_ready (rs := [4, 6]) (by kernel_rfl) (by simp) (AllReadyH.cons rfl (fun K hK => ?_) (AllReadyH.cons rfl (fun K hK => ?_) (AllReadyH.nil)))
        · go_simp
          refine hK.out _ _ trivial (fun _ => ?_)
          clear hK K
          refine wpAnyH_ready (rs := [6]) (by kernel_rfl) (by simp) (AllReadyH.cons rfl (fun K hK => ?_) (AllReadyH.nil))
          go_simp
          refine HCL.out.mono ?_
          rintro r w2 ⟨ty, av', rfl, HX⟩
          obtain ⟨z1, z2, a3, n3, k3, w3, HRN, z4, z5, HFI⟩ := HX.out
          refine hK.out _ _ trivial (fun _ => ?_)
          clear hK K
          refine wpAnyH_ready (rs := [7]) (by kernel_rfl) (by simp) (AllReadyH.cons rfl (fun K hK => ?_) (AllReadyH.nil))
          go_simp
          refine hK.out _ _ trivial (fun _ => ?_)
          clear hK K
          refine wpAnyH_ready (rs := [8]) (by kernel_rfl) (by simp) (AllReadyH.cons rfl (fun K hK => ?_) (AllReadyH.nil))
          rw [if_pos (by rfl)]
          refine Lib.wp_append_run _ _ _ 85 85 rfl _ _ rfl rfl _ _ HRN.out ?_
          go_simp
          refine hK.out _ _ trivial (fun _ => ?_)
          clear hK K
          refine wpAnyH_takeL (i := 9) (v := ?_) rfl (by kernel_rfl) (by kernel_rfl) (by kernel_rfl) (fun _ _ _ h => h) (Or.inl ⟨by kernel_rfl, ?_⟩) trivial ?_
          rotate_left
          · intro V _
            go_simp
            (try with_reducible rfl)
          simp only [put_list, List.set_cons_succ, List.set_cons_zero]
          refine wpAnyH_takeL (i := 10) (v := ?_) rfl (by kernel_rfl) (by kernel_rfl) (by kernel_rfl) (fun _ _ _ h => h) (Or.inl ⟨by kernel_rfl, ?_⟩) trivial ?_
          rotate_left
          · intro V _
            go_simp
            (try with_reducible rfl)
          simp only [put_list, List.set_cons_succ, List.set_cons_zero]
          refine wpAnyH_ready (rs := [11]) (by kernel_rfl) (by simp) (AllReadyH.cons rfl (fun K hK => ?_) (AllReadyH.nil))
          go_simp
          refine hK.out _ _ trivial (fun _ => ?_)
          clear hK K
          refine wpAnyH_done (by kernel_rfl) ?_ _
          go_wp2
          go_roundw
          case rel => exact ⟨j + 1, by omega, by go_num, HFI⟩
          case measure => simp [intOf]; omega
        · go_simp
          refine HCL.out.mono ?_
          rintro r w2 ⟨ty, av', rfl, HX⟩
          obtain ⟨z1, z2, a3, n3, k3, w3, HRN, z4, z5, HFI⟩ := HX.out
          refine hK.out _ _ trivial (fun _ => ?_)
          clear hK K
          refine wpAnyH_ready (rs := [4, 7]) (by kernel_rfl) (by simp) (AllReadyH.cons rfl (fun K hK => ?_) (AllReadyH.cons rfl (fun K hK => ?_) (AllReadyH.nil)))
          · go_simp
            refine hK.out _ _ trivial (fun _ => ?_)
            clear hK K
            refine wpAnyH_ready (rs := [7]) (by kernel_rfl) (by simp) (AllReadyH.cons rfl (fun K hK => ?_) (AllReadyH.nil))
            go_simp
            refine hK.out _ _ trivial (fun _ => ?_)
            clear hK K
            refine wpAnyH_ready (rs := [8]) (by kernel_rfl) (by simp) (AllReadyH.cons rfl (fun K hK => ?_) (AllReadyH.nil))
            rw [if_pos (by rfl)]
            refine Lib.wp_append_run _ _ _ 85 85 rfl _ _ rfl rfl _ _ HRN.out ?_
            go_simp
            refine hK.out _ _ trivial (fun _ => ?_)
            clear hK K
            refine wpAnyH_takeL (i := 9) (v := ?_) rfl (by kernel_rfl) (by kernel_rfl) (by kernel_rfl) (fun _ _ _ h => h) (Or.inl ⟨by kernel_rfl, ?_⟩) trivial ?_
            rotate_left
            · intro V _
              go_simp
              (try with_reducible rfl)
            simp only [put_list, List.set_cons_succ, List.set_cons_zero]
            refine wpAnyH_takeL (i := 10) (v := ?_) rfl (by kernel_rfl) (by kernel_rfl) (by kernel_rfl) (fun _ _ _ h => h) (Or.inl ⟨by kernel_rfl, ?_⟩) trivial ?_
            rotate_left
            · intro V _
              go_simp
              (try with_reducible rfl)
            simp only [put_list, List.set_cons_succ, List.set_cons_zero]
            refine wpAnyH_ready (rs := [11]) (by kernel_rfl) (by simp) (AllReadyH.cons rfl (fun K hK => ?_) (AllReadyH.nil))
            go_simp
            refine hK.out _ _ trivial (fun _ => ?_)
            clear hK K
            refine wpAnyH_done (by kernel_rfl) ?_ _
            go_wp2
            go_roundw
            case rel => exact ⟨j + 1, by omega, by go_num, HFI⟩
            case measure => simp [intOf]; omega
          · go_simp
            refine hK.out _ _ trivial (fun _ => ?_)
            clear hK K
            refine wpAnyH_ready (rs := [4]) (by kernel_rfl) (by simp) (AllReadyH.cons rfl (fun K hK => ?_) (AllReadyH.nil))
            go_simp
            refine hK.out _ _ trivial (fun _ => ?_)
            clear hK K
            refine wpAnyH_ready (rs := [8]) (by kernel_rfl) (by simp) (AllReadyH.cons rfl (fun K hK => ?_) (AllReadyH.nil))
            rw [if_pos (by rfl)]
            refine Lib.wp_append_run _ _ _ 85 85 rfl _ _ rfl rfl _ _ HRN.out ?_
            go_simp
            refine hK.out _ _ trivial (fun _ => ?_)
            clear hK K
            refine wpAnyH_takeL (i := 9) (v := ?_) rfl (by kernel_rfl) (by kernel_rfl) (by kernel_rfl) (fun _ _ _ h => h) (Or.inl ⟨by kernel_rfl, ?_⟩) trivial ?_
            rotate_left
            · intro V _
              go_simp
              (try with_reducible rfl)
            simp only [put_list, List.set_cons_succ, List.set_cons_zero]
            refine wpAnyH_takeL (i := 10) (v := ?_) rfl (by kernel_rfl) (by kernel_rfl) (by kernel_rfl) (fun _ _ _ h => h) (Or.inl ⟨by kernel_rfl, ?_⟩) trivial ?_
            rotate_left
            · intro V _
              go_simp
              (try with_reducible rfl)
            simp only [put_list, List.set_cons_succ, List.set_cons_zero]
            refine wpAnyH_ready (rs := [11]) (by kernel_rfl) (by simp) (AllReadyH.cons rfl (fun K hK => ?_) (AllReadyH.nil))
            go_simp
            refine hK.out _ _ trivial (fun _ => ?_)
            clear hK K
            refine wpAnyH_done (by kernel_rfl) ?_ _
            go_wp2
            go_roundw
            case rel => exact ⟨j + 1, by omega, by go_num, HFI⟩
            case measure => simp [intOf]; omega
      | inr long =>
        obtain ⟨rfl, _⟩ := id hcat
        rcases hcase with ⟨e, _⟩ | ⟨e, rfl⟩
        · simp at e
        simp only [Value.iface.injEq, true_and] at e
        subst e
        have hna := nilAhead_cc (.int .i64 long)
        have hme := method_cc (.int .i64 long)
        clear hF2 hd2 hvals hat hcvj hcat hcc hin m2
        go_wp2
        refine wp_region_heldS (S := fun _ => True) (by kernel_rfl) trivial (fun _ => ?_)
        refine wpAnyH_takeL (i := 0) (v := ?_) rfl (by kernel_rfl) (by kernel_rfl) (by kernel_rfl) (fun _ _ _ h => h) (Or.inl ⟨by kernel_rfl, ?_⟩) trivial ?_
        rotate_left
        · intro V _
          go_simp
          (try with_reducible rfl)
        simp only [put_list, List.set_cons_succ, List.set_cons_zero]
        refine wpAnyH_takeL (i := 1) (v := ?_) rfl (by kernel_rfl) (by kernel_rfl) (by kernel_rfl) (fun _ _ _ h => h) (Or.inl ⟨by kernel_rfl, ?_⟩) trivial ?_
        rotate_left
        · intro V _
          go_simp
          (try with_reducible rfl)
        simp only [put_list, List.set_cons_succ, List.set_cons_zero]
        refine wpAnyH_takeL (i := 2) (v := ?_) rfl (by kernel_rfl) (by kernel_rfl) (by kernel_rfl) (fun _ _ _ h => h) (Or.inl ⟨by kernel_rfl, ?_⟩) trivial ?_
        rotate_left
        · intro V _
          go_simp
          (try with_reducible rfl)
        simp only [put_list, List.set_cons_succ, List.set_cons_zero]
        refine wpAnyH_takeL (i := 3) (v := ?_) rfl (by kernel_rfl) (by kernel_rfl) (by kernel_rfl) (fun _ _ _ h => h) (Or.inl ⟨by kernel_rfl, ?_⟩) trivial ?_
        rotate_left
        · intro V _
          go_simp
          (try with_reducible rfl)
        simp only [put_list, List.set_cons_succ, List.set_cons_zero]
        refine wpAnyH_takeL (i := 5) (v := ?_) rfl (by kernel_rfl) (by kernel_rfl) (by kernel_rfl) (fun _ _ _ h => h) (Or.inl ⟨by kernel_rfl, ?_⟩) trivial ?_
        rotate_left
        · intro V _
          go_simp
          (try with_reducible rfl)
        simp only [put_list, List.set_cons_succ, List.set_cons_zero]
        refine wpAnyH_ready (rs := [4, 6]) (by kernel_rfl) (by simp) (AllReadyH.cons rfl (fun K hK => ?_) (AllReadyH.cons rfl (fun K hK => ?_) (AllReadyH.nil)))
        · go_simp
          refine hK.out _ _ trivial (fun _ => ?_)
          clear hK K
          refine wpAnyH_ready (rs := [6]) (by kernel_rfl) (by simp) (AllReadyH.cons rfl (fun K hK => ?_) (AllReadyH.nil))
          go_simp
          refine HCL.out.mono ?_
          rintro r w2 ⟨ty, av', rfl, HX⟩
          obtain ⟨z1, z2, a3, n3, k3, w3, HRN, z4, z5, HFI⟩ := HX.out
          refine hK.out _ _ trivial (fun _ => ?_)
          clear hK K
          refine wpAnyH_ready (rs := [7]) (by kernel_rfl) (by simp) (AllReadyH.cons rfl (fun K hK => ?_) (AllReadyH.nil))
          go_simp
          refine hK.out _ _ trivial (fun _ => ?_)
          clear hK K
          refine wpAnyH_ready (rs := [8]) (by kernel_rfl) (by simp) (AllReadyH.cons rfl (fun K hK => ?_) (AllReadyH.nil))
          rw [if_pos (by rfl)]
          refine Lib.wp_append_run _ _ _ 85 85 rfl _ _ rfl rfl _ _ HRN.out ?_
          go_simp
          refine hK.out _ _ trivial (fun _ => ?_)
          clear hK K
          refine wpAnyH_takeL (i := 9) (v := ?_) rfl (by kernel_rfl) (by kernel_rfl) (by kernel_rfl) (fun _ _ _ h => h) (Or.inl ⟨by kernel_rfl, ?_⟩) trivial ?_
          rotate_left
          · intro V _
            go_simp
            (try with_reducible rfl)
          simp only [put_list, List.set_cons_succ, List.set_cons_zero]
          refine wpAnyH_takeL (i := 10) (v := ?_) rfl (by kernel_rfl) (by kernel_rfl) (by kernel_rfl) (fun _ _ _ h => h) (Or.inl ⟨by kernel_rfl, ?_⟩) trivial ?_
          rotate_left
          · intro V _
            go_simp
            (try with_reducible rfl)
          simp only [put_list, List.set_cons_succ, List.set_cons_zero]
          refine wpAnyH_ready (rs := [11]) (by kernel_rfl) (by simp) (AllReadyH.cons rfl (fun K hK => ?_) (AllReadyH.nil))
          go_simp
          refine hK.out _ _ trivial (fun _ => ?_)
          clear hK K
          refine wpAnyH_done (by kernel_rfl) ?_ _
          go_wp2
          go_roundw
          case rel => exact ⟨j + 1, by omega, by go_num, HFI⟩
          case measure => simp [intOf]; omega
        · go_simp
          refine HCL.out.mono ?_
          rintro r w2 ⟨ty, av', rfl, HX⟩
          obtain ⟨z1, z2, a3, n3, k3, w3, HRN, z4, z5, HFI⟩ := HX.out
          refine hK.out _ _ trivial (fun _ => ?_)
          clear hK K
          refine wpAnyH_ready (rs := [4, 7]) (by kernel_rfl) (by simp) (AllReadyH.cons rfl (fun K hK => ?_) (AllReadyH.cons rfl (fun K hK => ?_) (AllReadyH.nil)))
          · go_simp
            refine hK.out _ _ trivial (fun _ => ?_)
            clear hK K
            refine wpAnyH_ready (rs := [7]) (by kernel_rfl) (by simp) (AllReadyH.cons rfl (fun K hK => ?_) (AllReadyH.nil))
            go_simp
            refine hK.out _ _ trivial (fun _ => ?_)
            clear hK K
            refine wpAnyH_ready (rs := [8]) (by kernel_rfl) (by simp) (AllReadyH.cons rfl (fun K hK => ?_) (AllReadyH.nil))
            rw [if_pos (by rfl)]
            refine Lib.wp_append_run _ _ _ 85 85 rfl _ _ rfl rfl _ _ HRN.out ?_
            go_simp
            refine hK.out _ _ trivial (fun _ => ?_)
            clear hK K
            refine wpAnyH_takeL (i := 9) (v := ?_) rfl (by kernel_rfl) (by kernel_rfl) (by kernel_rfl) (fun _ _ _ h => h) (Or.inl ⟨by kernel_rfl, ?_⟩) trivial ?_
            rotate_left
            · intro V _
              go_simp
              (try with_reducible rfl)
            simp only [put_list, List.set_cons_succ, List.set_cons_zero]
            refine wpAnyH_takeL (i := 10) (v := ?_) rfl (by kernel_rfl) (by kernel_rfl) (by kernel_rfl) (fun _ _ _ h => h) (Or.inl ⟨by kernel_rfl, ?_⟩) trivial ?_
            rotate_left
            · intro V _
              go_simp
              (try with_reducible rfl)
            simp only [put_list, List.set_cons_succ, List.set_cons_zero]
            refine wpAnyH_ready (rs := [11]) (by kernel_rfl) (by simp) (AllReadyH.cons rfl (fun K hK => ?_) (AllReadyH.nil))
            go_simp
            refine hK.out _ _ trivial (fun _ => ?_)
            clear hK K
            refine wpAnyH_done (by kernel_rfl) ?_ _
            go_wp2
            go_roundw
            case rel => exact ⟨j + 1, by omega, by go_num, HFI⟩
            case measure => simp [intOf]; omega
          · go_simp
            refine hK.out _ _ trivial (fun _ => ?_)
            clear hK K
            refine wpAnyH_ready (rs := [4]) (by kernel_rfl) (by simp) (AllReadyH.cons rfl (fun K hK => ?_) (AllReadyH.nil))
            go_simp
            refine hK.out _ _ trivial (fun _ => ?_)
            clear hK K
            refine wpAnyH_ready (rs := [8]) (by kernel_rfl) (by simp) (AllReadyH.cons rfl (fun K hK => ?_) (AllReadyH.nil))
            rw [if_pos (by rfl)]
            refine Lib.wp_append_run _ _ _ 85 85 rfl _ _ rfl rfl _ _ HRN.out ?_
            go_simp
            refine hK.out _ _ trivial (fun _ => ?_)
            clear hK K
            refine wpAnyH_takeL (i := 9) (v := ?_) rfl (by kernel_rfl) (by kernel_rfl) (by kernel_rfl) (fun _ _ _ h => h) (Or.inl ⟨by kernel_rfl, ?_⟩) trivial ?_
            rotate_left
            · intro V _
              go_simp
              (try with_reducible rfl)
            simp only [put_list, List.set_cons_succ, List.set_cons_zero]
            refine wpAnyH_takeL (i := 10) (v := ?_) rfl (by kernel_rfl) (by kernel_rfl) (by kernel_rfl) (fun _ _ _ h => h) (Or.inl ⟨by kernel_rfl, ?_⟩) trivial ?_
            rotate_left
            · intro V _
              go_simp
              (try with_reducible rfl)
            simp only [put_list, List.set_cons_succ, List.set_cons_zero]
            refine wpAnyH_ready (rs := [11]) (by kernel_rfl) (by simp) (AllReadyH.cons rfl (fun K hK => ?_) (AllReadyH.nil))
            go_simp
            refine hK.out _ _ trivial (fun _ => ?_)
            clear hK K
            refine wpAnyH_done (by kernel_rfl) ?_ _
            go_wp2
            go_roundw
            case rel => exact ⟨j + 1, by omega, by go_num, HFI⟩
            case measure => simp [intOf]; omega
    · have hjl' : j = f.a.chs.length := by omega
      subst hjl'
      go_wp2
      go_ret
      exact ⟨_, rfl, hin⟩

end Go.Proofs.Ytcceaokldphfgaa
