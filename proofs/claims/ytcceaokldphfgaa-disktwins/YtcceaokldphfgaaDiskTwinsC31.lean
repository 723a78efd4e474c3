/- YtcceaokldphfgaaDiskTwinsC31 -/
import Derived.Test.YtcceaokldphfgaaDiskTwinsC30
namespace Go.Proofs.Ytcceaokldphfgaa
open Go.RowKit Go.Shelf

theorem safe_put {w w1 : World} {role : Role} {D i : Nat} {s : DSt} {f : FRep} {v : Value} {xs : List UInt8} (h : DiskOK w role D s) (hi : s.fs[i]? = some f) (hg : Grew w w1 f.safeV v) (ho : w1.ownsRow 0 5 1 v xs.length (xs.map byteV)) (hx : xs.length ≤ 268435456) :
    ∃ a k, v = .slice a xs.length k ∧ w1.cell? ⟨f.p, 1, none⟩ = some f.safeV ∧ w1.frozen? ⟨f.p, 1, none⟩ = false ∧
      Hid (∃ role', DiskOK (w1.setCell ⟨f.p, 1, none⟩ v) role' D { s with fs := s.fs.set i { f with safeV := v, a := { f.a with safe := xs } } } ∧ Stp role role' w (w1.setCell ⟨f.p, 1, none⟩ v)) := by
  have hF := h.each f (List.mem_of_getElem? hi)
  have hp := h.dom _ _ hF.rp
  obtain ⟨a, k, e, _⟩ := own_slice ho
  have hbl : w1.heap[f.p]? = some (.cells #[.string f.a.name, f.safeV, f.chV, f.dataV] 87 (0, 0)) := (hg.by_.block _ hp (fun e => by have := hF.rsafe _ e.symm; rw [hF.rp] at this; cases this)).trans hF.blk
  exact ⟨a, k, e, blk_cell hbl rfl, blk_free hbl, _, h.putSafe hi hg ho hx⟩

/-- A change is done to the safe bytes. -/
def SafeR (w : World) (role : Role) (D i : Nat) (s : DSt) (f : FRep) (xs : List UInt8) (e : Ending) (w1 : World) : Prop :=
  ∃ a n k, e = .returned (.slice a n k) ∧ w1.cell? ⟨f.p, 1, none⟩ = some f.safeV ∧ w1.frozen? ⟨f.p, 1, none⟩ = false ∧
    Hid (∃ role', DiskOK (w1.setCell ⟨f.p, 1, none⟩ (.slice a n k)) role' D { s with fs := s.fs.set i { f with safeV := .slice a n k, a := { f.a with safe := xs } } } ∧ Stp role role' w (w1.setCell ⟨f.p, 1, none⟩ (.slice a n k)))

theorem safe_write {w : World} {role : Role} {D i : Nat} {s : DSt} {f : FRep} {at_ : Nat} {l : List UInt8} {bv : Value} (h : DiskOK w role D s) (hi : s.fs[i]? = some f) (hc : ChgAt w role (.inl (at_, l)) (.iface 106 (.agg #[.int .i64 at_, bv]))) :
    Calls Try.prog 106 #[.agg #[.int .i64 at_, bv], f.safeV] w (SafeR w role D i s f (applyC (.inl (at_, l)) f.a.safe)) := by
  have hF := h.each f (List.mem_of_getElem? hi)
  have hl := length_applyC hc hF.lsafe
  obtain ⟨bv', e, hrd, hro, hb⟩ := hc
  cases e
  refine (applyW_any f.safeV bv at_ l f.a.safe w hF.osafe hrd (fun a n c e => (ne_of_ro hF hro a n c e).2) hb hF.lsafe).mono ?_
  rintro e w1 ⟨v, rfl, ho, hg⟩
  obtain ⟨a, k, rfl, h1, h2, h3⟩ := safe_put h hi hg ho hl
  exact ⟨_, _, _, rfl, h1, h2, h3⟩

theorem safe_cut {w : World} {role : Role} {D i : Nat} {s : DSt} {f : FRep} {long : Nat} (h : DiskOK w role D s) (hi : s.fs[i]? = some f) (hc : ChgAt w role (.inr long) (.iface 109 (.agg #[.int .i64 long]))) :
    Calls Try.prog 110 #[.agg #[.int .i64 long], f.safeV] w (SafeR w role D i s f (applyC (.inr long) f.a.safe)) := by
  have hF := h.each f (List.mem_of_getElem? hi)
  have hl := length_applyC hc hF.lsafe
  refine (applyT_any f.safeV long f.a.safe w hF.osafe hc.2 hF.lsafe).mono ?_
  rintro e w1 ⟨v, rfl, ho, hg⟩
  obtain ⟨a, k, rfl, h1, h2, h3⟩ := safe_put h hi hg ho hl
  exact ⟨_, _, _, rfl, h1, h2, h3⟩

theorem applyAll_snoc (cs : List Chg) (c : Chg) (xs : List UInt8) : applyAll (cs ++ [c]) xs = applyC c (applyAll cs xs) := by simp [applyAll, List.foldl_append]

/-- So many changes have been done. -/
def SyncI (w : World) (role : Role) (D i : Nat) (s : DSt) (f : FRep) (j : Nat) (wr : World) : Prop :=
  ∃ role' sv, DiskOK wr role' D { s with fs := s.fs.set i { f with safeV := sv, a := { f.a with safe := applyAll (f.a.chs.take j) f.a.safe } } } ∧ Stp role role' w wr

theorem sync_next {w wr w4 : World} {role role2 role4 : Role} {D i j : Nat} {s : DSt} {f : FRep} {sv v : Value} {c : Chg} (hc : f.a.chs[j]? = some c) (hs2 : Stp role role2 w wr)
    (hd : DiskOK w4 role4 D { ({ s with fs := s.fs.set i { f with safeV := sv, a := { f.a with safe := applyAll (f.a.chs.take j) f.a.safe } } } : DSt) with fs := (s.fs.set i { f with safeV := sv, a := { f.a with safe := applyAll (f.a.chs.take j) f.a.safe } }).set i { ({ f with safeV := sv, a := { f.a with safe := applyAll (f.a.chs.take j) f.a.safe } } : FRep) with safeV := v, a := { ({ f.a with safe := applyAll (f.a.chs.take j) f.a.safe } : AFile) with safe := applyC c (applyAll (f.a.chs.take j) f.a.safe) } } })
    (hs4 : Stp role2 role4 wr w4) : SyncI w role D i s f (j + 1) w4 := by
  refine ⟨role4, v, ?_, hs2.trans hs4⟩
  have hlt := (List.getElem?_eq_some_iff.1 hc).1
  have e : applyAll (f.a.chs.take (j + 1)) f.a.safe = applyC c (applyAll (f.a.chs.take j) f.a.safe) := by
    rw [List.take_succ_eq_append_getElem hlt, applyAll_snoc, (List.getElem?_eq_some_iff.1 hc).2]
  simp only [List.set_set] at hd
  rw [e]
  exact hd

set_option maxHeartbeats 2000000 in
set_option maxRecDepth 100000 in
theorem fsync_any {w : World} {role : Role} {D i : Nat} {s : DSt} {f : FRep} (h : DiskOK w role D s) (hi : s.fs[i]? = some f) :
    Calls Try.prog 55 #[.pointer (some ⟨f.p, 0, none⟩)] w fun r w' => r = .returned (.tuple #[]) ∧ Hid (∃ role' s', DiskOK w' role' D s' ∧ Stp role role' w w' ∧ abs s' = { abs s with fs := setA (abs s).fs f.a.name syncF }) := by
  have hF := h.each f (List.mem_of_getElem? hi)
  have hch : w.cell? ⟨f.p, 2, none⟩ = some f.chV := blk_cell hF.blk rfl
  obtain ⟨vals, hvals, _⟩ := hF.och
  obtain ⟨ac, kc, hcv, _⟩ := own_slice hvals
  rw [hcv] at hch
  have hchl : f.a.chs.length ≤ nchs s.fs := by
    have := nchs_set (f' := { f with a := { f.a with chs := [] } }) hi
    simp only [List.length_nil] at this
    omega
  have hcl : f.a.chs.length ≤ 1099511627776 := by
    have h4 := h.iO
    have h5 := h.nch
    omega
  have HD := hideP h
  have HI := hideP hi
  have HCV := hideP hcv
  have hin0 : Hid (SyncI w role D i s f 0 w) := by
    refine ⟨role, f.safeV, ?_, Stp.refl _ _⟩
    have e : s.fs.set i { f with safeV := f.safeV, a := { f.a with safe := applyAll (f.a.chs.take 0) f.a.safe } } = s.fs := by
      obtain ⟨h1, h2⟩ := List.getElem?_eq_some_iff.1 hi
      simp only [List.take_zero, applyAll, List.foldl_nil]
      rw [← h2, List.set_getElem_self]
    rw [e]
    exact h
  clear h hi hF hvals hcv hchl
  go_enter Try.func55, Try.ntmps55
  go_wp2
  go_loopw [3, 9] (fun _ q wr => ∃ j : Nat, j ≤ f.a.chs.length ∧ q = .int .i64 j ∧ Hid (SyncI w role D i s f j wr)) (fun _ q _ => f.a.chs.length - (intOf q).toNat)
  case atStart => exact ⟨0, Nat.zero_le _, rfl, hin0⟩
  case round =>
    obtain ⟨j, hj, rfl, hin⟩ := hrel
    by_cases hjl : j < f.a.chs.length
    · obtain ⟨role2, sv, hd2, hs2⟩ := hin.out
      have hF2i : (s.fs.set i { f with safeV := sv, a := { f.a with safe := applyAll (f.a.chs.take j) f.a.safe } })[i]? = some { f with safeV := sv, a := { f.a with safe := applyAll (f.a.chs.take j) f.a.safe } } := by
        simp [(List.getElem?_eq_some_iff.1 HI.out).1]
      have hF2 := hd2.each _ (List.mem_of_getElem? hF2i)
      obtain ⟨vals, hvals, hat⟩ := hF2.och
      obtain ⟨cv, hcvj, hcat⟩ := hat j f.a.chs[j] (by simp [hjl])
      obtain ⟨g, hg, hgc⟩ : ∃ g, ac = some ⟨g, 0, none⟩ ∧ wr.cell? ⟨g, j, none⟩ = some cv := by
        have e := HCV.out
        simp only [e] at hvals
        rcases hvals.2 with ⟨_, e0⟩ | ⟨g, cap, cur, e0, _, hgg, _, _, _, ht⟩
        · exact absurd hjl (by omega)
        · simp only [Value.slice.injEq] at e0
          refine ⟨g, e0.1, blk_cell hgg ?_⟩
          rw [← ht, List.getElem?_take] at hcvj
          split at hcvj
          · simpa using hcvj
          · cases hcvj
      subst hg
      have hsc : wr.cell? ⟨f.p, 1, none⟩ = some sv := blk_cell hF2.blk rfl
      obtain ⟨as_, ks, hsv, _⟩ := own_slice hF2.osafe
      simp only at hsv
      obtain ⟨c, hcc⟩ : ∃ c, c = f.a.chs[j] := ⟨_, rfl⟩
      rw [← hcc] at hcat
      have HC : Hid (f.a.chs[j]? = some c) := by show _ = _; rw [hcc]; simp [hjl]
      cases c with
      | inl q =>
        obtain ⟨at_, l⟩ := q
        obtain ⟨bv, rfl, _⟩ := id hcat
        have hap := safe_write hd2.drew hF2i hcat
        simp only at hap
        rw [hsv] at hsc hap
        have HAP := hideP hap
        have HS2 := hideP hs2
        have hna := nilAhead_wa (.int .i64 at_) bv
        have hme := method_wa (.int .i64 at_) bv
        clear hd2 hs2 hF2 hF2i hvals hat hcvj hcat hap hcc hin
        go_wp2
        go_region_with (first | (go_at_call 106; refine HAP.out.mono ?_; rintro e w4 ⟨a4, n4, k4, rfl, p1, p2, HF⟩))
        all_goals go_wp2
        all_goals go_roundw
        all_goals first
          | (obtain ⟨role4, hd4, hs4⟩ := HF.out
             exact ⟨j + 1, by omega, by go_num, sync_next HC.out HS2.out hd4 (Stp.of_drew hs4)⟩)
          | (simp [intOf]; omega)
      | inr long =>
        obtain ⟨rfl, _⟩ := id hcat
        have hap := safe_cut hd2.drew hF2i hcat
        simp only at hap
        rw [hsv] at hsc hap
        have HAP := hideP hap
        have HS2 := hideP hs2
        have hna := nilAhead_ca (.int .i64 long)
        have hme := method_ca (.int .i64 long)
        clear hd2 hs2 hF2 hF2i hvals hat hcvj hcat hap hcc hin
        go_wp2
        go_region_with (first | (go_at_call 110; refine HAP.out.mono ?_; rintro e w4 ⟨a4, n4, k4, rfl, p1, p2, HF⟩))
        all_goals go_wp2
        all_goals go_roundw
        all_goals first
          | (obtain ⟨role4, hd4, hs4⟩ := HF.out
             exact ⟨j + 1, by omega, by go_num, sync_next HC.out HS2.out hd4 (Stp.of_drew hs4)⟩)
          | (simp [intOf]; omega)
    · have hjl' : j = f.a.chs.length := by omega
      subst hjl'
      obtain ⟨role2, sv, hd2, hs2⟩ := hin.out
      have hF2i : (s.fs.set i { f with safeV := sv, a := { f.a with safe := applyAll (f.a.chs.take f.a.chs.length) f.a.safe } })[i]? = some { f with safeV := sv, a := { f.a with safe := applyAll (f.a.chs.take f.a.chs.length) f.a.safe } } := by
        simp [(List.getElem?_eq_some_iff.1 HI.out).1]
      have hF2 := hd2.each _ (List.mem_of_getElem? hF2i)
      have hc2 : wr.cell? ⟨f.p, 2, none⟩ = some f.chV := blk_cell hF2.blk rfl
      have hf2 : wr.frozen? ⟨f.p, 2, none⟩ = false := blk_free hF2.blk
      obtain ⟨q1, q2⟩ := hd2.putChs hF2i (w1 := wr) (v := .slice none 0 0) (cs := []) (vals := []) ⟨World.grownBy.refl _ _, fun k hk => by simp [Value.ownBlock] at hk⟩ (World.ownsRow_nil _ _ _ _) (fun j c hj => by simp at hj) (Int.le_trans (Int.le_of_eq (Int.add_zero _)) (Int.le_trans hd2.nch (Int.le_add_of_nonneg_right (Int.natCast_nonneg _))))
      have HF : Hid (∃ role' s', DiskOK (wr.setCell ⟨f.p, 2, none⟩ (.slice none 0 0)) role' D s' ∧ Stp role role' w (wr.setCell ⟨f.p, 2, none⟩ (.slice none 0 0)) ∧ abs s' = { abs s with fs := setA (abs s).fs f.a.name syncF }) := by
        refine ⟨_, _, q1, hs2.trans q2, ?_⟩
        have hx : (abs s).fs[i]? = some f.a := by simp [abs, HI.out]
        rw [← set_name syncF HD.out.sortedA hx]
        simp [abs, syncF]
      clear hd2 hs2 hF2 hF2i q1 q2 hin
      go_wp2
      go_end0
      exact ⟨rfl, HF⟩

set_option maxHeartbeats 1000000 in
set_option maxRecDepth 100000 in
theorem sync_D {w : World} {role : Role} {D : Nat} {s : DSt} (h : DiskOK w role D s) (ho : s.ops < 1099511627776) (t : ByteArray) :
    Calls Try.prog 26 #[.pointer (some ⟨D, 0, none⟩), .string t] w (Done w role D (syncA (abs s) t)) := by
  have hb := beginOn_D h ho t
  clear h ho
  go_enter Try.func26, Try.ntmps26
  go_wp2_with fail
  refine hb.mono ?_
  rintro r w1 ⟨v, e, role1, s1, rfl, hd1, hs1, hon⟩
  clear hb
  rcases hon with ⟨he, rfl, hon⟩ | ⟨rfl, f, i, rfl, hi, hfn, hnc, hon⟩
  · have hq : (e != 0) = true := by simp [he]
    have HF : Hid (Done w role D (syncA (abs s) t) (.returned (.int .i64 e)) w1) := by
      unfold syncA
      rw [hon]
      exact ⟨rfl, role1, s1, hd1, hs1, rfl⟩
    clear hon hd1 hs1 he
    go_wp2
    go_ret
    exact HF.out
  · have HC : Hid (Calls Try.prog 55 #[.pointer (some ⟨f.p, 0, none⟩)] w1 fun r w' => r = .returned (.tuple #[]) ∧ Hid (Done w role D (syncA (abs s) t) (.returned (.int .i64 0)) w')) := by
      refine (fsync_any hd1 hi).mono ?_
      rintro r w' ⟨rfl, role', s', q1, q2, q3⟩
      refine ⟨rfl, ?_⟩
      unfold syncA
      rw [hon]
      exact ⟨rfl, role', s', q1, hs1.trans q2, q3⟩
    simp only [ptrV]
    clear hon hd1 hs1 hi hfn
    go_wp2_with fail
    refine HC.out.mono ?_
    rintro r w3 ⟨rfl, HF⟩
    go_wp2
    go_ret
    exact HF.out

end Go.Proofs.Ytcceaokldphfgaa
