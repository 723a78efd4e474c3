/- YtcceaokldphfgaaDiskDoesC18 -/
import Derived.Test.YtcceaokldphfgaaDiskDoesC17
namespace Go.Proofs.Ytcceaokldphfgaa
open Go.RowKit Go.Shelf

/-- How an operation on a file begins. -/
def OnD (w : World) (role : Role) (D : Nat) (s : DSt) (t : ByteArray) (r : Ending) (w' : World) : Prop :=
  ∃ v e role' s', r = .returned (.tuple #[v, .int .i64 e]) ∧ DiskOK w' role' D s' ∧ Stp role role' w w' ∧
    ((e ≠ 0 ∧ v = .pointer none ∧ ∀ k, onA (abs s) t k = (abs s', e)) ∨
     (e = 0 ∧ ∃ (f : FRep) (i : Nat), v = ptrV f ∧ s'.fs[i]? = some f ∧ f.a.name = t ∧ (nchs s'.fs : Int) + 1 ≤ s'.ops ∧ ∀ k, onA (abs s) t k = k (abs s') f.a))

theorem beginOn_D {w : World} {role : Role} {D : Nat} {s : DSt} (h : DiskOK w role D s) (ho : s.ops < 1099511627776) (t : ByteArray) : Calls Try.prog 54 #[.pointer (some ⟨D, 0, none⟩), .string t] w (OnD w role D s t) := by
  refine (beginOn_any h ho t).mono ?_
  rintro r w' ⟨role', s', v, e, rfl, hd, hs, hon⟩
  refine ⟨v, e, role', s', rfl, hd, hs, ?_⟩
  by_cases he : e = 0
  · subst he
    obtain ⟨hbg, f, i, rfl, hi, hfn, hff⟩ := hon.found
    exact .inr ⟨rfl, f, i, rfl, hi, hfn, hbg.nch h, fun k => hon.fn0 hff k⟩
  · exact .inl ⟨he, (hon.fn he (fun b _ => (b, 0))).2, fun k => (hon.fn he k).1⟩

theorem change_D {w : World} {role : Role} {D i : Nat} {s : DSt} {f : FRep} {c : Chg} {cv : Value} (h : DiskOK w role D s) (hi : s.fs[i]? = some f) (hc : ChgAt w role c cv) (long : Nat) (hlong : long = (applyC c f.a.data).length) (hn : (nchs s.fs : Int) + 1 ≤ s.ops) :
    Calls Try.prog 62 #[.pointer (some ⟨D, 0, none⟩), .pointer (some ⟨f.p, 0, none⟩), cv, .int .i64 long] w (Done w role D (chgA c (abs s) f.a)) := by
  refine (change_any h hi hc long hlong hn).mono ?_
  rintro r w' ⟨role', s', h1, h2, h3, h4, h5⟩
  rw [hlong] at h5
  rcases h5 with ⟨g1, rfl, g2⟩ | ⟨g1, rfl, g2⟩
  · have := ChangeR.fn h hi (e := 12) (s' := s') (c := c) ⟨h3, h4, .inl ⟨g1, rfl, g2⟩⟩
    rw [this]
    exact ⟨rfl, role', s', h1, h2, rfl⟩
  · have := ChangeR.fn h hi (e := 0) (s' := s') (c := c) ⟨h3, h4, .inr ⟨g1, rfl, g2⟩⟩
    rw [this]
    exact ⟨rfl, role', s', h1, h2, rfl⟩

theorem Done.trans {w w1 w2 : World} {role role1 : Role} {D : Nat} {x : ASt × Int} {r : Ending} (hs : Stp role role1 w w1) (h : Done w1 role1 D x r w2) : Done w role D x r w2 := by
  obtain ⟨h1, role', s', h2, h3, h4⟩ := h
  exact ⟨h1, role', s', h2, hs.trans h3, h4⟩

theorem append_D {w : World} {role : Role} {D : Nat} {s : DSt} (h : DiskOK w role D s) (ho : s.ops < 1099511627776) (t : ByteArray) (bv : Value) (l : List UInt8) (hrd : Rd w bv l) (hbs : Beside role bv) (hl : l.length ≤ 140737488355328) :
    Calls Try.prog 30 #[.pointer (some ⟨D, 0, none⟩), .string t, bv] w (Done w role D (appendA (abs s) t l)) := by
  refine (append_any h ho t bv l hrd hbs hl).mono ?_
  rintro r w' ⟨role', s', e, rfl, hd, hs, hr⟩
  have hsd : ∀ s1, BeginR s s1 0 → SortedA (abs s1).fs := fun s1 hb => by
    obtain ⟨_, e⟩ := hb.live
    subst e
    exact h.sortedA
  rw [hr.fn hsd]
  exact ⟨rfl, role', s', hd, hs, rfl⟩

set_option maxHeartbeats 1000000 in
set_option maxRecDepth 100000 in
theorem writeAt_D {w : World} {role : Role} {D : Nat} {s : DSt} (h : DiskOK w role D s) (ho : s.ops < 1099511627776) (t : ByteArray) (at_ : Int) (hat : I64 at_) (bv : Value) (l : List UInt8) (hrd : Rd w bv l) (hbs : Beside role bv) (hl : l.length ≤ 140737488355328) :
    Calls Try.prog 33 #[.pointer (some ⟨D, 0, none⟩), .string t, .int .i64 at_, bv] w (Done w role D (writeA (abs s) t at_ l)) := by
  have hb := beginOn_D h ho t
  obtain ⟨ab, cb, hbe, _⟩ := id hrd
  have HRD := hideP hrd
  have HBS := hideP hbs
  obtain ⟨ha1, ha2⟩ := hat
  clear h ho hrd hbs
  subst hbe
  go_enter Try.func33, Try.ntmps33
  go_wp2_with fail
  refine hb.mono ?_
  rintro r w1 ⟨v, e, role1, s1, rfl, hd1, hs1, hon⟩
  rcases hon with ⟨he, rfl, hon⟩ | ⟨rfl, f, i, rfl, hi, hfn, hnc, hon⟩
  · have hq : (e != 0) = true := by simp [he]
    have HF : Hid (Done w role D (writeA (abs s) t at_ l) (.returned (.int .i64 e)) w1) := by
      unfold writeA
      rw [hon]
      exact ⟨rfl, role1, s1, hd1, hs1, rfl⟩
    clear hon hd1 hs1 hb he
    go_wp2
    go_ret
    exact HF.out
  · have hF := hd1.each f (List.mem_of_getElem? hi)
    have hcd : w1.cell? ⟨f.p, 3, none⟩ = some f.dataV := blk_cell hF.blk rfl
    obtain ⟨av, cv, hv, _⟩ := own_slice hF.odata
    rw [hv] at hcd
    have hld := hF.ldata
    have hrd1 := HRD.out.stp HBS.out hs1
    have HW : Hid (writeA (abs s) t at_ l = if at_ < 0 then (abs s1, 1) else if 268435456 < at_ + l.length then (abs s1, 2) else chgA (.inl (at_.toNat, l)) (abs s1) f.a) := hon _
    simp only [ptrV]
    by_cases h0 : at_ < 0
    · have HF : Hid (Done w role D (writeA (abs s) t at_ l) (.returned (.int .i64 1)) w1) := by
        rw [HW.out, if_pos h0]
        exact ⟨rfl, role1, s1, hd1, hs1, rfl⟩
      clear hon hd1 hs1 hb hF hrd1 hi
      go_wp2
      go_ret
      exact HF.out
    · by_cases h2 : 268435456 < at_ + l.length
      · have HF : Hid (Done w role D (writeA (abs s) t at_ l) (.returned (.int .i64 2)) w1) := by
          rw [HW.out, if_neg h0, if_pos h2]
          exact ⟨rfl, role1, s1, hd1, hs1, rfl⟩
        clear hon hd1 hs1 hb hF hrd1 hi
        by_cases h3 : 268435456 < at_
        · go_wp2
          go_ret
          exact HF.out
        · go_wp2
          go_ret
          exact HF.out
      · obtain ⟨n, rfl⟩ : ∃ n : Nat, at_ = n := ⟨at_.toNat, by omega⟩
        have h3 : ¬ 268435456 < (n : Int) := by omega
        have h4 : ¬ 268435456 - (n : Int) < (l.length : Int) := by omega
        have hwr : IntKind.i64.wrap ((n : Int) + (l.length : Int)) = (n : Int) + (l.length : Int) := by rw [IntKind.wrap_i64]; omega
        have hdw := hd1.drew
        have hcp : Calls Try.prog 46 #[.slice ab l.length cb] w1.drew fun r w' => ∃ b, r = .returned (.slice (some ⟨b, 0, none⟩) l.length l.length) ∧ w'.cell? ⟨f.p, 3, none⟩ = some (.slice av f.a.data.length cv) ∧
            Hid (Calls Try.prog 62 #[.pointer (some ⟨D, 0, none⟩), .pointer (some ⟨f.p, 0, none⟩), .iface 106 (.agg #[.int .i64 n, .slice (some ⟨b, 0, none⟩) l.length l.length]), .int .i64 (if (n : Int) + (l.length : Int) < (f.a.data.length : Int) then (f.a.data.length : Int) else (n : Int) + (l.length : Int))] w' (Done w role D (writeA (abs s) t n l))) := by
          refine (copyBytes_any _ l w1.drew hrd1 (by omega)).mono ?_
          rintro r w2 ⟨rfl, ho2, hb2⟩
          have hd2 := hdw.below hb2 (6, 0)
          have hrd2 := Rd.of_own (own_base ho2)
          have hlt2 := (ho2.lt w1.drew.heap.size rfl).2
          have hch : ChgAt w2 (extR role1 w1.drew w2 (6, 0)) (.inl (n, l)) (.iface 106 (.agg #[.int .i64 n, .slice (some ⟨w1.drew.heap.size, 0, none⟩) l.length l.length])) :=
            ⟨_, rfl, hrd2, fun a n c e => by cases e; exact extR_new (Nat.le_refl _) hlt2, by omega⟩
          have hlen : max (n + l.length) f.a.data.length = (applyC (.inl (n, l)) f.a.data).length := by
            simp only [applyC]; rw [length_applyW]; omega
          have hchg := change_D hd2 hi hch _ hlen hnc
          have hcd2 : w2.cell? ⟨f.p, 3, none⟩ = some f.dataV := blk_cell (hd2.each f (List.mem_of_getElem? hi)).blk rfl
          rw [hv] at hcd2
          refine ⟨_, rfl, hcd2, ?_⟩
          have e1 : ((max (n + l.length) f.a.data.length : Nat) : Int) = (if (n : Int) + (l.length : Int) < (f.a.data.length : Int) then (f.a.data.length : Int) else (n : Int) + (l.length : Int)) := by split <;> omega
          rw [← e1, HW.out, if_neg h0, if_neg h2]
          exact hchg.mono fun r w' hr => Done.trans (hs1.trans (Stp.of_drew (Stp.ofBelow (6, 0) hb2))) hr
        have HCP := hideP hcp
        clear hon hd1 hs1 hi hF hrd1 hv hb hfn hdw hcp
        by_cases hlt : (n : Int) + (l.length : Int) < (f.a.data.length : Int)
        · simp only [hlt, if_true] at HCP
          go_wp2
          refine wp_region_heldS (S := fun _ => True) (by kernel_rfl) trivial (fun _ => ?_)
          refine wpAnyH_takeL (i := 0) (v := ?_) rfl (by kernel_rfl) (by kernel_rfl) (by kernel_rfl) (fun _ _ _ h => h) (Or.inl ⟨by kernel_rfl, ?_⟩) trivial ?_
          rotate_left
          · intro V _
            go_simp
            (try with_reducible rfl)
          simp only [put_list, List.set_cons_succ, List.set_cons_zero]
          refine wpAnyH_takeL (i := 1) (v := ?_) rfl (by kernel_rfl) (by kernel_rfl) (by kernel_rfl) (fun _ _ _ h => h) (Or.inl ⟨by kernel_rfl, ?_⟩) trivial ?_
          rotate_left
          · intro V _
            go_simp
            (try with_reducible rfl)
          simp only [put_list, List.set_cons_succ, List.set_cons_zero]
          refine wpAnyH_takeL (i := 2) (v := ?_) rfl (by kernel_rfl) (by kernel_rfl) (by kernel_rfl) (fun _ _ _ h => h) (Or.inl ⟨by kernel_rfl, ?_⟩) trivial ?_
          rotate_left
          · intro V _
            go_simp
            (try with_reducible rfl)
          simp only [put_list, List.set_cons_succ, List.set_cons_zero]
          refine wpAnyH_takeL (i := 3) (v := ?_) rfl (by kernel_rfl) (by kernel_rfl) (by kernel_rfl) (fun _ _ _ h => h) (Or.inl ⟨by kernel_rfl, ?_⟩) trivial ?_
          rotate_left
          · intro V _
            go_simp
            (try with_reducible rfl)
          simp only [put_list, List.set_cons_succ, List.set_cons_zero]
          refine wpAnyH_takeL (i := 7) (v := ?_) rfl (by kernel_rfl) (by kernel_rfl) (by kernel_rfl) (fun _ _ _ h => h) (Or.inl ⟨by kernel_rfl, ?_⟩) trivial ?_
          rotate_left
          · intro V _
            go_simp
            (try with_reducible rfl)
          simp only [put_list, List.set_cons_succ, List.set_cons_zero]
          refine wpAnyH_takeL (i := 8) (v := ?_) rfl (by kernel_rfl) (by kernel_rfl) (by kernel_rfl) (fun _ _ _ h => h) (Or.inl ⟨by kernel_rfl, ?_⟩) trivial ?_
          rotate_left
          · intro V _
            go_simp
            (try with_reducible rfl)
          simp only [put_list, List.set_cons_succ, List.set_cons_zero]
          refine wpAnyH_takeL (i := 9) (v := ?_) rfl (by kernel_rfl) (by kernel_rfl) (by kernel_rfl) (fun _ _ _ h => h) (Or.inl ⟨by kernel_rfl, ?_⟩) trivial ?_
          rotate_left
          · intro V _
            go_simp
            (try with_reducible rfl)
          simp only [put_list, List.set_cons_succ, List.set_cons_zero]
          refine wpAnyH_takeL (i := 10) (v := ?_) rfl (by kernel_rfl) (by kernel_rfl) (by kernel_rfl) (fun _ _ _ h => h) (Or.inl ⟨by kernel_rfl, ?_⟩) trivial ?_
          rotate_left
          · intro V _
            go_simp
            (try with_reducible rfl)
          simp only [put_list, List.set_cons_succ, List.set_cons_zero]
          refine wpAnyH_takeL (i := 11) (v := ?_) rfl (by kernel_rfl) (by kernel_rfl) (by kernel_rfl) (fun _ _ _ h => h) (Or.inl ⟨by kernel_rfl, ?_⟩) trivial ?_
          rotate_left
          · intro V _
            go_simp
            (try with_reducible rfl)
          simp only [put_list, List.set_cons_succ, List.set_cons_zero]
          refine wpAnyH_takeL (i := 12) (v := ?_) rfl (by kernel_rfl) (by kernel_rfl) (by kernel_rfl) (fun _ _ _ h => h) (Or.inl ⟨by kernel_rfl, ?_⟩) trivial ?_
          rotate_left
          · intro V _
            go_simp
            (try with_reducible rfl)
          simp only [put_list, List.set_cons_succ, List.set_cons_zero]
          refine wpAnyH_takeL (i := 13) (v := ?_) rfl (by kernel_rfl) (by kernel_rfl) (by kernel_rfl) (fun _ _ _ h => h) (Or.inl ⟨by kernel_rfl, ?_⟩) trivial ?_
          rotate_left
          · intro V _
            go_simp
            (try with_reducible rfl)
          simp only [put_list, List.set_cons_succ, List.set_cons_zero]
          refine wpAnyH_ready (rs := [4, 14]) (by kernel_rfl) (by simp) (AllReadyH.cons rfl (fun K hK => ?_) (AllReadyH.cons rfl (fun K hK => ?_) (AllReadyH.nil)))
          · go_simp
            refine HCP.out.mono ?_
            rintro r w2 ⟨b, rfl, hcd2, HC⟩
            refine hK.out _ _ trivial (fun _ => ?_)
            clear hK K
            refine wpAnyH_takeL (i := 5) (v := ?_) rfl (by kernel_rfl) (by kernel_rfl) (by kernel_rfl) (fun _ _ _ h => h) (Or.inl ⟨by kernel_rfl, ?_⟩) trivial ?_
            rotate_left
            · intro V _
              go_simp
              (try with_reducible rfl)
            simp only [put_list, List.set_cons_succ, List.set_cons_zero]
            refine wpAnyH_takeL (i := 6) (v := ?_) rfl (by kernel_rfl) (by kernel_rfl) (by kernel_rfl) (fun _ _ _ h => h) (Or.inl ⟨by kernel_rfl, ?_⟩) trivial ?_
            rotate_left
            · intro V _
              go_simp
              (try with_reducible rfl)
            simp only [put_list, List.set_cons_succ, List.set_cons_zero]
            refine wpAnyH_ready (rs := [14]) (by kernel_rfl) (by simp) (AllReadyH.cons rfl (fun K hK => ?_) (AllReadyH.nil))
            go_simp
            refine hK.out _ _ trivial (fun _ => ?_)
            clear hK K
            refine wpAnyH_takeL (i := 15) (v := ?_) rfl (by kernel_rfl) (by kernel_rfl) (by kernel_rfl) (fun _ _ _ h => h) (Or.inl ⟨by kernel_rfl, ?_⟩) trivial ?_
            rotate_left
            · intro V _
              go_simp
              (try with_reducible rfl)
            simp only [put_list, List.set_cons_succ, List.set_cons_zero]
            refine wpAnyH_takeL (i := 16) (v := ?_) rfl (by kernel_rfl) (by kernel_rfl) (by kernel_rfl) (fun _ _ _ h => h) (Or.inl ⟨by kernel_rfl, ?_⟩) trivial ?_
            rotate_left
            · intro V _
              go_simp
              (try with_reducible rfl)
            simp only [put_list, List.set_cons_succ, List.set_cons_zero]
            refine wpAnyH_ready (rs := [17]) (by kernel_rfl) (by simp) (AllReadyH.cons rfl (fun K hK => ?_) (AllReadyH.nil))
            go_simp
            refine HC.out.mono ?_
            rintro r w3 ⟨rfl, HF⟩
            refine hK.out _ _ trivial (fun _ => ?_)
            clear hK K
            refine wpAnyH_ready (rs := [18]) (by kernel_rfl) (by simp) (AllReadyH.cons rfl (fun K hK => ?_) (AllReadyH.nil))
            go_simp
            refine hK.out _ _ trivial (fun _ => ?_)
            clear hK K
            refine wpAnyH_done (by kernel_rfl) ?_ _
            go_wp2
            all_goals go_ret
            all_goals exact ⟨rfl, HF⟩
          · go_simp
            refine hK.out _ _ trivial (fun _ => ?_)
            clear hK K
            refine wpAnyH_takeL (i := 15) (v := ?_) rfl (by kernel_rfl) (by kernel_rfl) (by kernel_rfl) (fun _ _ _ h => h) (Or.inl ⟨by kernel_rfl, ?_⟩) trivial ?_
            rotate_left
            · intro V _
              go_simp
              (try with_reducible rfl)
            simp only [put_list, List.set_cons_succ, List.set_cons_zero]
            refine wpAnyH_takeL (i := 16) (v := ?_) rfl (by kernel_rfl) (by kernel_rfl) (by kernel_rfl) (fun _ _ _ h => h) (Or.inl ⟨by kernel_rfl, ?_⟩) trivial ?_
            rotate_left
            · intro V _
              go_simp
              (try with_reducible rfl)
            simp only [put_list, List.set_cons_succ, List.set_cons_zero]
            refine wpAnyH_ready (rs := [4]) (by kernel_rfl) (by simp) (AllReadyH.cons rfl (fun K hK => ?_) (AllReadyH.nil))
            go_simp
            refine HCP.out.mono ?_
            rintro r w2 ⟨b, rfl, hcd2, HC⟩
            refine hK.out _ _ trivial (fun _ => ?_)
            clear hK K
            refine wpAnyH_takeL (i := 5) (v := ?_) rfl (by kernel_rfl) (by kernel_rfl) (by kernel_rfl) (fun _ _ _ h => h) (Or.inl ⟨by kernel_rfl, ?_⟩) trivial ?_
            rotate_left
            · intro V _
              go_simp
              (try with_reducible rfl)
            simp only [put_list, List.set_cons_succ, List.set_cons_zero]
            refine wpAnyH_takeL (i := 6) (v := ?_) rfl (by kernel_rfl) (by kernel_rfl) (by kernel_rfl) (fun _ _ _ h => h) (Or.inl ⟨by kernel_rfl, ?_⟩) trivial ?_
            rotate_left
            · intro V _
              go_simp
              (try with_reducible rfl)
            simp only [put_list, List.set_cons_succ, List.set_cons_zero]
            refine wpAnyH_ready (rs := [17]) (by kernel_rfl) (by simp) (AllReadyH.cons rfl (fun K hK => ?_) (AllReadyH.nil))
            go_simp
            refine HC.out.mono ?_
            rintro r w3 ⟨rfl, HF⟩
            refine hK.out _ _ trivial (fun _ => ?_)
            clear hK K
            refine wpAnyH_ready (rs := [18]) (by kernel_rfl) (by simp) (AllReadyH.cons rfl (fun K hK => ?_) (AllReadyH.nil))
            go_simp
            refine hK.out _ _ trivial (fun _ => ?_)
            clear hK K
            refine wpAnyH_done (by kernel_rfl) ?_ _
            go_wp2
            all_goals go_ret
            all_goals exact ⟨rfl, HF⟩
        · have HLT := hideP hlt
          clear hlt
          go_wp2
          refine wp_region_heldS (S := fun _ => True) (by kernel_rfl) trivial (fun _ => ?_)
          refine wpAnyH_takeL (i := 0) (v := ?_) rfl (by kernel_rfl) (by kernel_rfl) (by kernel_rfl) (fun _ _ _ h => h) (Or.inl ⟨by kernel_rfl, ?_⟩) trivial ?_
          rotate_left
          · intro V _
            go_simp
            (try with_reducible rfl)
          simp only [put_list, List.set_cons_succ, List.set_cons_zero]
          refine wpAnyH_takeL (i := 1) (v := ?_) rfl (by kernel_rfl) (by kernel_rfl) (by kernel_rfl) (fun _ _ _ h => h) (Or.inl ⟨by kernel_rfl, ?_⟩) trivial ?_
          rotate_left
          · intro V _
            go_simp
            (try with_reducible rfl)
          simp only [put_list, List.set_cons_succ, List.set_cons_zero]
          refine wpAnyH_takeL (i := 2) (v := ?_) rfl (by kernel_rfl) (by kernel_rfl) (by kernel_rfl) (fun _ _ _ h => h) (Or.inl ⟨by kernel_rfl, ?_⟩) trivial ?_
          rotate_left
          · intro V _
            go_simp
            (try with_reducible rfl)
          simp only [put_list, List.set_cons_succ, List.set_cons_zero]
          refine wpAnyH_takeL (i := 3) (v := ?_) rfl (by kernel_rfl) (by kernel_rfl) (by kernel_rfl) (fun _ _ _ h => h) (Or.inl ⟨by kernel_rfl, ?_⟩) trivial ?_
          rotate_left
          · intro V _
            go_simp
            (try with_reducible rfl)
          simp only [put_list, List.set_cons_succ, List.set_cons_zero]
          refine wpAnyH_takeL (i := 7) (v := ?_) rfl (by kernel_rfl) (by kernel_rfl) (by kernel_rfl) (fun _ _ _ h => h) (Or.inl ⟨by kernel_rfl, ?_⟩) trivial ?_
          rotate_left
          · intro V _
            go_simp
            (try with_reducible rfl)
          simp only [put_list, List.set_cons_succ, List.set_cons_zero]
          refine wpAnyH_takeL (i := 8) (v := ?_) rfl (by kernel_rfl) (by kernel_rfl) (by kernel_rfl) (fun _ _ _ h => h) (Or.inl ⟨by kernel_rfl, ?_⟩) trivial ?_
          rotate_left
          · intro V _
            go_simp
            (try with_reducible rfl)
          simp only [put_list, List.set_cons_succ, List.set_cons_zero]
          refine wpAnyH_takeL (i := 9) (v := ?_) rfl (by kernel_rfl) (by kernel_rfl) (by kernel_rfl) (fun _ _ _ h => h) (Or.inl ⟨by kernel_rfl, ?_⟩) trivial ?_
          rotate_left
          · intro V _
            go_simp
            (try with_reducible rfl)
          simp only [put_list, List.set_cons_succ, List.set_cons_zero]
          refine wpAnyH_takeL (i := 10) (v := ?_) rfl (by kernel_rfl) (by kernel_rfl) (by kernel_rfl) (fun _ _ _ h => h) (Or.inl ⟨by kernel_rfl, ?_⟩) trivial ?_
          rotate_left
          · intro V _
            go_simp
            (try with_reducible rfl)
          simp only [put_list, List.set_cons_succ, List.set_cons_zero]
          refine wpAnyH_takeL (i := 11) (v := ?_) rfl (by kernel_rfl) (by kernel_rfl) (by kernel_rfl) (fun _ _ _ h => h) (Or.inl ⟨by kernel_rfl, ?_⟩) trivial ?_
          rotate_left
          · intro V _
            go_simp
            (try with_reducible rfl)
          simp only [put_list, List.set_cons_succ, List.set_cons_zero]
          refine wpAnyH_takeL (i := 12) (v := ?_) rfl (by kernel_rfl) (by kernel_rfl) (by kernel_rfl) (fun _ _ _ h => h) (Or.inl ⟨by kernel_rfl, ?_⟩) trivial ?_
          rotate_left
          · intro V _
            go_simp
            (try with_reducible rfl)
          simp only [put_list, List.set_cons_succ, List.set_cons_zero]
          refine wpAnyH_takeL (i := 13) (v := ?_) rfl (by kernel_rfl) (by kernel_rfl) (by kernel_rfl) (fun _ _ _ h => h) (Or.inl ⟨by kernel_rfl, ?_⟩) trivial ?_
          rotate_left
          · intro V _
            go_simp
            (try with_reducible rfl)
          simp only [put_list, List.set_cons_succ, List.set_cons_zero]
          refine wpAnyH_ready (rs := [4, 14]) (by kernel_rfl) (by simp) (AllReadyH.cons rfl (fun K hK => ?_) (AllReadyH.cons rfl (fun K hK => ?_) (AllReadyH.nil)))
          · go_simp
            refine HCP.out.mono ?_
            rintro r w2 ⟨b, rfl, hcd2, HC⟩
            refine hK.out _ _ trivial (fun _ => ?_)
            clear hK K
            refine wpAnyH_takeL (i := 5) (v := ?_) rfl (by kernel_rfl) (by kernel_rfl) (by kernel_rfl) (fun _ _ _ h => h) (Or.inl ⟨by kernel_rfl, ?_⟩) trivial ?_
            rotate_left
            · intro V _
              go_simp
              (try with_reducible rfl)
            simp only [put_list, List.set_cons_succ, List.set_cons_zero]
            refine wpAnyH_takeL (i := 6) (v := ?_) rfl (by kernel_rfl) (by kernel_rfl) (by kernel_rfl) (fun _ _ _ h => h) (Or.inl ⟨by kernel_rfl, ?_⟩) trivial ?_
            rotate_left
            · intro V _
              go_simp
              (try with_reducible rfl)
            simp only [put_list, List.set_cons_succ, List.set_cons_zero]
            refine wpAnyH_ready (rs := [14]) (by kernel_rfl) (by simp) (AllReadyH.cons rfl (fun K hK => ?_) (AllReadyH.nil))
            go_simp
            refine hK.out _ _ trivial (fun _ => ?_)
            clear hK K
            refine wpAnyH_takeL (i := 15) (v := ?_) rfl (by kernel_rfl) (by kernel_rfl) (by kernel_rfl) (fun _ _ _ h => h) (Or.inl ⟨by kernel_rfl, ?_⟩) trivial ?_
            rotate_left
            · intro V _
              go_simp
              (try with_reducible rfl)
            simp only [put_list, List.set_cons_succ, List.set_cons_zero]
            refine wpAnyH_takeL (i := 16) (v := ?_) rfl (by kernel_rfl) (by kernel_rfl) (by kernel_rfl) (fun _ _ _ h => h) (Or.inl ⟨by kernel_rfl, ?_⟩) trivial ?_
            rotate_left
            · intro V _
              go_simp
              (try with_reducible rfl)
            simp only [put_list, List.set_cons_succ, List.set_cons_zero]
            refine wpAnyH_ready (rs := [17]) (by kernel_rfl) (by simp) (AllReadyH.cons rfl (fun K hK => ?_) (AllReadyH.nil))
            go_simp
            refine HC.out.mono ?_
            rintro r w3 ⟨rfl, HF⟩
            refine hK.out _ _ trivial (fun _ => ?_)
            clear hK K
            refine wpAnyH_ready (rs := [18]) (by kernel_rfl) (by simp) (AllReadyH.cons rfl (fun K hK => ?_) (AllReadyH.nil))
            go_simp
            refine hK.out _ _ trivial (fun _ => ?_)
            clear hK K
            refine wpAnyH_done (by kernel_rfl) ?_ _
            go_wp2
            all_goals go_ret
            all_goals exact ⟨rfl, HF⟩
          · go_simp
            refine hK.out _ _ trivial (fun _ => ?_)
            clear hK K
            refine wpAnyH_takeL (i := 15) (v := ?_) rfl (by kernel_rfl) (by kernel_rfl) (by kernel_rfl) (fun _ _ _ h => h) (Or.inl ⟨by kernel_rfl, ?_⟩) trivial ?_
            rotate_left
            · intro V _
              go_simp
              (try with_reducible rfl)
            simp only [put_list, List.set_cons_succ, List.set_cons_zero]
            refine wpAnyH_takeL (i := 16) (v := ?_) rfl (by kernel_rfl) (by kernel_rfl) (by kernel_rfl) (fun _ _ _ h => h) (Or.inl ⟨by kernel_rfl, ?_⟩) trivial ?_
            rotate_left
            · intro V _
              go_simp
              (try with_reducible rfl)
            simp only [put_list, List.set_cons_succ, List.set_cons_zero]
            refine wpAnyH_ready (rs := [4]) (by kernel_rfl) (by simp) (AllReadyH.cons rfl (fun K hK => ?_) (AllReadyH.nil))
            go_simp
            refine HCP.out.mono ?_
            rintro r w2 ⟨b, rfl, hcd2, HC⟩
            refine hK.out _ _ trivial (fun _ => ?_)
            clear hK K
            refine wpAnyH_takeL (i := 5) (v := ?_) rfl (by kernel_rfl) (by kernel_rfl) (by kernel_rfl) (fun _ _ _ h => h) (Or.inl ⟨by kernel_rfl, ?_⟩) trivial ?_
            rotate_left
            · intro V _
              go_simp
              (try with_reducible rfl)
            simp only [put_list, List.set_cons_succ, List.set_cons_zero]
            refine wpAnyH_takeL (i := 6) (v := ?_) rfl (by kernel_rfl) (by kernel_rfl) (by kernel_rfl) (fun _ _ _ h => h) (Or.inl ⟨by kernel_rfl, ?_⟩) trivial ?_
            rotate_left
            · intro V _
              go_simp
              (try with_reducible rfl)
            simp only [put_list, List.set_cons_succ, List.set_cons_zero]
            refine wpAnyH_ready (rs := [17]) (by kernel_rfl) (by simp) (AllReadyH.cons rfl (fun K hK => ?_) (AllReadyH.nil))
            go_simp
            refine HC.out.mono ?_
            rintro r w3 ⟨rfl, HF⟩
            refine hK.out _ _ trivial (fun _ => ?_)
            clear hK K
            refine wpAnyH_ready (rs := [18]) (by kernel_rfl) (by simp) (AllReadyH.cons rfl (fun K hK => ?_) (AllReadyH.nil))
            go_simp
            refine hK.out _ _ trivial (fun _ => ?_)
            clear hK K
            refine wpAnyH_done (by kernel_rfl) ?_ _
            go_wp2
            all_goals go_ret
            all_goals exact ⟨rfl, HF⟩

end Go.Proofs.Ytcceaokldphfgaa
