/- YtcceaokldphfgaaDiskDoesC21 -/
import Derived.Test.YtcceaokldphfgaaDiskDoesC20
import Derived.Test.YtcceaokldphfgaaDiskDoesC12
namespace Go.Proofs.Ytcceaokldphfgaa
open Go.RowKit Go.Shelf

theorem safe_put {w w1 : World} {role : Role} {D i : Nat} {s : DSt} {f : FRep} {v : Value} {xs : List UInt8} (h : DiskOK w role D s) (hi : s.fs[i]? = some f) (hg : Grew w w1 f.safeV v) (ho : w1.ownsRow 0 5 1 v xs.length (xs.map byteV)) (hx : xs.length ≤ 268435456) :
    ∃ a k, v = .slice a xs.length k ∧ w1.cell? ⟨f.p, 1, none⟩ = some f.safeV ∧ w1.frozen? ⟨f.p, 1, none⟩ = false ∧
      Hid (∃ role', DiskOK (w1.setCell ⟨f.p, 1, none⟩ v) role' D { s with fs := s.fs.set i { f with safeV := v, a := { f.a with safe := xs } } } ∧ Stp role role' w (w1.setCell ⟨f.p, 1, none⟩ v)) := by
  have hF := h.each f (List.mem_of_getElem? hi)
  have hp := h.dom _ _ hF.rp
  obtain ⟨a, k, e, _⟩ := own_slice ho
  have hbl : w1.heap[f.p]? = some (.cells #[.string f.a.name, f.safeV, f.chV, f.dataV] 87 (0, 0)) := (hg.by_.block _ hp (fun e => by have := hF.rsafe _ e.symm; rw [hF.rp] at this; cases this)).trans hF.blk
  exact ⟨a, k, e, blk_cell hbl rfl, blk_free hbl, _, h.putSafe hi hg ho hx⟩

/-- A change is done to the safe bytes. -/
def SafeR (w : World) (role : Role) (D i : Nat) (s : DSt) (f : FRep) (xs : List UInt8) (e : Ending) (w1 : World) : Prop :=
  ∃ a n k, e = .returned (.slice a n k) ∧ w1.cell? ⟨f.p, 1, none⟩ = some f.safeV ∧ w1.frozen? ⟨f.p, 1, none⟩ = false ∧
    Hid (∃ role', DiskOK (w1.setCell ⟨f.p, 1, none⟩ (.slice a n k)) role' D { s with fs := s.fs.set i { f with safeV := .slice a n k, a := { f.a with safe := xs } } } ∧ Stp role role' w (w1.setCell ⟨f.p, 1, none⟩ (.slice a n k)))

theorem safe_write {w : World} {role : Role} {D i : Nat} {s : DSt} {f : FRep} {at_ : Nat} {l : List UInt8} {bv : Value} (h : DiskOK w role D s) (hi : s.fs[i]? = some f) (hc : ChgAt w role (.inl (at_, l)) (.iface 106 (.agg #[.int .i64 at_, bv]))) :
    Calls Try.prog 106 #[.agg #[.int .i64 at_, bv], f.safeV] w (SafeR w role D i s f (applyC (.inl (at_, l)) f.a.safe)) := by
  have hF := h.each f (List.mem_of_getElem? hi)
  have hl := length_applyC hc hF.lsafe
  obtain ⟨bv', e, hrd, hro, hb⟩ := hc
  cases e
  refine (applyW_any f.safeV bv at_ l f.a.safe w hF.osafe hrd (fun a n c e => (ne_of_ro hF hro a n c e).2) hb hF.lsafe).mono ?_
  rintro e w1 ⟨v, rfl, ho, hg⟩
  obtain ⟨a, k, rfl, h1, h2, h3⟩ := safe_put h hi hg ho hl
  exact ⟨_, _, _, rfl, h1, h2, h3⟩

theorem safe_cut {w : World} {role : Role} {D i : Nat} {s : DSt} {f : FRep} {long : Nat} (h : DiskOK w role D s) (hi : s.fs[i]? = some f) (hc : ChgAt w role (.inr long) (.iface 109 (.agg #[.int .i64 long]))) :
    Calls Try.prog 110 #[.agg #[.int .i64 long], f.safeV] w (SafeR w role D i s f (applyC (.inr long) f.a.safe)) := by
  have hF := h.each f (List.mem_of_getElem? hi)
  have hl := length_applyC hc hF.lsafe
  refine (applyT_any f.safeV long f.a.safe w hF.osafe hc.2 hF.lsafe).mono ?_
  rintro e w1 ⟨v, rfl, ho, hg⟩
  obtain ⟨a, k, rfl, h1, h2, h3⟩ := safe_put h hi hg ho hl
  exact ⟨_, _, _, rfl, h1, h2, h3⟩

theorem applyAll_snoc (cs : List Chg) (c : Chg) (xs : List UInt8) : applyAll (cs ++ [c]) xs = applyC c (applyAll cs xs) := by simp [applyAll, List.foldl_append]

/-- So many changes have been done. -/
def SyncI (w : World) (role : Role) (D i : Nat) (s : DSt) (f : FRep) (j : Nat) (wr : World) : Prop :=
  ∃ role' sv, DiskOK wr role' D { s with fs := s.fs.set i { f with safeV := sv, a := { f.a with safe := applyAll (f.a.chs.take j) f.a.safe } } } ∧ Stp role role' w wr

theorem sync_next {w wr w4 : World} {role role2 role4 : Role} {D i j : Nat} {s : DSt} {f : FRep} {sv v : Value} {c : Chg} (hc : f.a.chs[j]? = some c) (hs2 : Stp role role2 w wr)
    (hd : DiskOK w4 role4 D { ({ s with fs := s.fs.set i { f with safeV := sv, a := { f.a with safe := applyAll (f.a.chs.take j) f.a.safe } } } : DSt) with fs := (s.fs.set i { f with safeV := sv, a := { f.a with safe := applyAll (f.a.chs.take j) f.a.safe } }).set i { ({ f with safeV := sv, a := { f.a with safe := applyAll (f.a.chs.take j) f.a.safe } } : FRep) with safeV := v, a := { ({ f.a with safe := applyAll (f.a.chs.take j) f.a.safe } : AFile) with safe := applyC c (applyAll (f.a.chs.take j) f.a.safe) } } })
    (hs4 : Stp role2 role4 wr w4) : SyncI w role D i s f (j + 1) w4 := by
  refine ⟨role4, v, ?_, hs2.trans hs4⟩
  have hlt := (List.getElem?_eq_some_iff.1 hc).1
  have e : applyAll (f.a.chs.take (j + 1)) f.a.safe = applyC c (applyAll (f.a.chs.take j) f.a.safe) := by
    rw [List.take_succ_eq_append_getElem hlt, applyAll_snoc, (List.getElem?_eq_some_iff.1 hc).2]
  simp only [List.set_set] at hd
  rw [e]
  exact hd

set_option maxHeartbeats 2000000 in
set_option maxRecDepth 100000 in
theorem fsync_any {w : World} {role : Role} {D i : Nat} {s : DSt} {f : FRep} (h : DiskOK w role D s) (hi : s.fs[i]? = some f) :
    Calls Try.prog 55 #[.pointer (some ⟨f.p, 0, none⟩)] w fun r w' => r = .returned (.tuple #[]) ∧ Hid (∃ role' s', DiskOK w' role' D s' ∧ Stp role role' w w' ∧ abs s' = { abs s with fs := setA (abs s).fs f.a.name syncF }) := by
  have hF := h.each f (List.mem_of_getElem? hi)
  have hch : w.cell? ⟨f.p, 2, none⟩ = some f.chV := blk_cell hF.blk rfl
  obtain ⟨vals, hvals, _⟩ := hF.och
  obtain ⟨ac, kc, hcv, _⟩ := own_slice hvals
  rw [hcv] at hch
  have hchl : f.a.chs.length ≤ nchs s.fs := by
    have := nchs_set (f' := { f with a := { f.a with chs := [] } }) hi
    simp only [List.length_nil] at this
    omega
  have hcl : f.a.chs.length ≤ 1099511627776 := by
    have h4 := h.iO
    have h5 := h.nch
    omega
  have HD := hideP h
  have HI := hideP hi
  have HCV := hideP hcv
  have hin0 : Hid (SyncI w role D i s f 0 w) := by
    refine ⟨role, f.safeV, ?_, Stp.refl _ _⟩
    have e : s.fs.set i { f with safeV := f.safeV, a := { f.a with safe := applyAll (f.a.chs.take 0) f.a.safe } } = s.fs := by
      obtain ⟨h1, h2⟩ := List.getElem?_eq_some_iff.1 hi
      simp only [List.take_zero, applyAll, List.foldl_nil]
      rw [← h2, List.set_getElem_self]
    rw [e]
    exact h
  clear h hi hF hvals hcv hchl
  go_enter Try.func55, Try.ntmps55
  go_wp2
  go_loopw [3, 9] (fun _ q wr => ∃ j : Nat, j ≤ f.a.chs.length ∧ q = .int .i64 j ∧ Hid (SyncI w role D i s f j wr)) (fun _ q _ => f.a.chs.length - (intOf q).toNat)
  case atStart => exact ⟨0, Nat.zero_le _, rfl, hin0⟩
  case round =>
    obtain ⟨j, hj, rfl, hin⟩ := hrel
    by_cases hjl : j < f.a.chs.length
    · obtain ⟨role2, sv, hd2, hs2⟩ := hin.out
      have hF2i : (s.fs.set i { f with safeV := sv, a := { f.a with safe := applyAll (f.a.chs.take j) f.a.safe } })[i]? = some { f with safeV := sv, a := { f.a with safe := applyAll (f.a.chs.take j) f.a.safe } } := by
        simp [(List.getElem?_eq_some_iff.1 HI.out).1]
      have hF2 := hd2.each _ (List.mem_of_getElem? hF2i)
      obtain ⟨vals, hvals, hat⟩ := hF2.och
      obtain ⟨cv, hcvj, hcat⟩ := hat j f.a.chs[j] (by simp [hjl])
      obtain ⟨g, hg, hgc⟩ : ∃ g, ac = some ⟨g, 0, none⟩ ∧ wr.cell? ⟨g, j, none⟩ = some cv := by
        have e := HCV.out
        simp only [e] at hvals
        rcases hvals.2 with ⟨_, e0⟩ | ⟨g, cap, cur, e0, _, hgg, _, _, _, ht⟩
        · exact absurd hjl (by omega)
        · simp only [Value.slice.injEq] at e0
          refine ⟨g, e0.1, blk_cell hgg ?_⟩
          rw [← ht, List.getElem?_take] at hcvj
          split at hcvj
          · simpa using hcvj
          · cases hcvj
      subst hg
      have hsc : wr.cell? ⟨f.p, 1, none⟩ = some sv := blk_cell hF2.blk rfl
      obtain ⟨as_, ks, hsv, _⟩ := own_slice hF2.osafe
      simp only at hsv
      obtain ⟨c, hcc⟩ : ∃ c, c = f.a.chs[j] := ⟨_, rfl⟩
      rw [← hcc] at hcat
      have HC : Hid (f.a.chs[j]? = some c) := by show _ = _; rw [hcc]; simp [hjl]
      cases c with
      | inl q =>
        obtain ⟨at_, l⟩ := q
        obtain ⟨bv, rfl, _⟩ := id hcat
        have hap := safe_write hd2.drew hF2i hcat
        simp only at hap
        rw [hsv] at hsc hap
        have HAP := hideP hap
        have HS2 := hideP hs2
        have hna := nilAhead_wa (.int .i64 at_) bv
        have hme := method_wa (.int .i64 at_) bv
        clear hd2 hs2 hF2 hF2i hvals hat hcvj hcat hap hcc hin
        go_wp2
        go_region_with (first | (go_at_call 106; refine HAP.out.mono ?_; rintro e w4 ⟨a4, n4, k4, rfl, p1, p2, HF⟩))
        all_goals go_wp2
        all_goals go_roundw
        all_goals first
          | (obtain ⟨role4, hd4, hs4⟩ := HF.out
             exact ⟨j + 1, by omega, by go_num, sync_next HC.out HS2.out hd4 (Stp.of_drew hs4)⟩)
          | (simp [intOf]; omega)
      | inr long =>
        obtain ⟨rfl, _⟩ := id hcat
        have hap := safe_cut hd2.drew hF2i hcat
        simp only at hap
        rw [hsv] at hsc hap
        have HAP := hideP hap
        have HS2 := hideP hs2
        have hna := nilAhead_ca (.int .i64 long)
        have hme := method_ca (.int .i64 long)
        clear hd2 hs2 hF2 hF2i hvals hat hcvj hcat hap hcc hin
        go_wp2
        go_region_with (first | (go_at_call 110; refine HAP.out.mono ?_; rintro e w4 ⟨a4, n4, k4, rfl, p1, p2, HF⟩))
        all_goals go_wp2
        all_goals go_roundw
        all_goals first
          | (obtain ⟨role4, hd4, hs4⟩ := HF.out
             exact ⟨j + 1, by omega, by go_num, sync_next HC.out HS2.out hd4 (Stp.of_drew hs4)⟩)
          | (simp [intOf]; omega)
    · have hjl' : j = f.a.chs.length := by omega
      subst hjl'
      obtain ⟨role2, sv, hd2, hs2⟩ := hin.out
      have hF2i : (s.fs.set i { f with safeV := sv, a := { f.a with safe := applyAll (f.a.chs.take f.a.chs.length) f.a.safe } })[i]? = some { f with safeV := sv, a := { f.a with safe := applyAll (f.a.chs.take f.a.chs.length) f.a.safe } } := by
        simp [(List.getElem?_eq_some_iff.1 HI.out).1]
      have hF2 := hd2.each _ (List.mem_of_getElem? hF2i)
      have hc2 : wr.cell? ⟨f.p, 2, none⟩ = some f.chV := blk_cell hF2.blk rfl
      have hf2 : wr.frozen? ⟨f.p, 2, none⟩ = false := blk_free hF2.blk
      obtain ⟨q1, q2⟩ := hd2.putChs hF2i (w1 := wr) (v := .slice none 0 0) (cs := []) (vals := []) ⟨World.grownBy.refl _ _, fun k hk => by simp [Value.ownBlock] at hk⟩ (World.ownsRow_nil _ _ _ _) (fun j c hj => by simp at hj) (Int.le_trans (Int.le_of_eq (Int.add_zero _)) (Int.le_trans hd2.nch (Int.le_add_of_nonneg_right (Int.natCast_nonneg _))))
      have HF : Hid (∃ role' s', DiskOK (wr.setCell ⟨f.p, 2, none⟩ (.slice none 0 0)) role' D s' ∧ Stp role role' w (wr.setCell ⟨f.p, 2, none⟩ (.slice none 0 0)) ∧ abs s' = { abs s with fs := setA (abs s).fs f.a.name syncF }) := by
        refine ⟨_, _, q1, hs2.trans q2, ?_⟩
        have hx : (abs s).fs[i]? = some f.a := by simp [abs, HI.out]
        rw [← set_name syncF HD.out.sortedA hx]
        simp [abs, syncF]
      clear hd2 hs2 hF2 hF2i q1 q2 hin
      go_wp2
      go_end0
      exact ⟨rfl, HF⟩

set_option maxHeartbeats 1000000 in
set_option maxRecDepth 100000 in
theorem sync_D {w : World} {role : Role} {D : Nat} {s : DSt} (h : DiskOK w role D s) (ho : s.ops < 1099511627776) (t : ByteArray) :
    Calls Try.prog 26 #[.pointer (some ⟨D, 0, none⟩), .string t] w (Done w role D (syncA (abs s) t)) := by
  have hb := beginOn_D h ho t
  clear h ho
  go_enter Try.func26, Try.ntmps26
  go_wp2_with fail
  refine hb.mono ?_
  rintro r w1 ⟨v, e, role1, s1, rfl, hd1, hs1, hon⟩
  clear hb
  rcases hon with ⟨he, rfl, hon⟩ | ⟨rfl, f, i, rfl, hi, hfn, hnc, hon⟩
  · have hq : (e != 0) = true := by simp [he]
    have HF : Hid (Done w role D (syncA (abs s) t) (.returned (.int .i64 e)) w1) := by
      unfold syncA
      rw [hon]
      exact ⟨rfl, role1, s1, hd1, hs1, rfl⟩
    clear hon hd1 hs1 he
    go_wp2
    go_ret
    exact HF.out
  · have HC : Hid (Calls Try.prog 55 #[.pointer (some ⟨f.p, 0, none⟩)] w1 fun r w' => r = .returned (.tuple #[]) ∧ Hid (Done w role D (syncA (abs s) t) (.returned (.int .i64 0)) w')) := by
      refine (fsync_any hd1 hi).mono ?_
      rintro r w' ⟨rfl, role', s', q1, q2, q3⟩
      refine ⟨rfl, ?_⟩
      unfold syncA
      rw [hon]
      exact ⟨rfl, role', s', q1, hs1.trans q2, q3⟩
    simp only [ptrV]
    clear hon hd1 hs1 hi hfn
    go_wp2_with fail
    refine HC.out.mono ?_
    rintro r w3 ⟨rfl, HF⟩
    go_wp2
    go_ret
    exact HF.out

end Go.Proofs.Ytcceaokldphfgaa

namespace Go.Proofs.Ytcceaokldphfgaa
open Go.RowKit Go.Shelf

theorem chs_die (keep : List Int) : ∀ (l : List AFile) (n : Nat), ∀ a ∈ dieAll keep n l, a.chs = []
  | [], _, a, h => by simp [dieAll] at h
  | x :: l, n, a, h => by
    simp only [dieAll, List.mem_cons] at h
    rcases h with rfl | h
    · rfl
    · exact chs_die keep l _ a h

theorem nchs_zero {fs : List FRep} (h : ∀ a ∈ fs.map (·.a), a.chs = []) : nchs fs = 0 := by
  unfold nchs
  induction fs with
  | nil => rfl
  | cons f fs ih =>
    have h1 := h f.a (by simp)
    have h2 := ih (fun a ha => h a (by simp only [List.map_cons, List.mem_cons]; exact .inr ha))
    simp only [List.map_cons, List.sum_cons, h1, h2, List.length_nil]

/-- A plan's list, beside the disk. -/
structure PlanArg (w : World) (role : Role) (v : Value) (l : List Int) : Prop where
  rd : RdI w v l
  ro : ∀ a n c, v = .slice (some a) n c → a.block < w.heap.size ∧ role a.block = none
  len : l.length * 8 ≤ 140737488351232
  each : ∀ x ∈ l, I64 x

theorem PlanArg.stp {w w' : World} {role role' : Role} {v : Value} {l : List Int} (h : PlanArg w role v l) (hs : Stp role role' w w') : PlanArg w' role' v l :=
  ⟨h.rd.same hs.size (fun a n c e _ => hs.keep _ (h.ro a n c e).1 (.inl (h.ro a n c e).2)), fun a n c e => ⟨Nat.lt_of_lt_of_le (h.ro a n c e).1 hs.size, by rw [hs.ext _ (h.ro a n c e).1]; exact (h.ro a n c e).2⟩, h.len, h.each⟩

theorem PlanArg.shape {w : World} {role : Role} {v : Value} {l : List Int} (h : PlanArg w role v l) : ∃ a n c, v = .slice a n c := by rcases h.rd with ⟨e, _⟩ | ⟨b, o, c, e, _⟩ <;> exact ⟨_, _, _, e⟩

theorem PlanArg.nil (w : World) (role : Role) : PlanArg w role (.slice none 0 0) [] := ⟨.inl ⟨rfl, rfl⟩, fun _ _ _ e => by simp at e, by simp, fun _ h => by simp at h⟩

set_option maxHeartbeats 1000000 in
set_option maxRecDepth 100000 in
/-- Start of a disk that lives. -/
theorem start_live {w : World} {role : Role} {D : Nat} {s : DSt} (h : DiskOK w role D s) (hdd : s.dead = false) (crash room : Int) (keepV failV fullV : Value) (keep fail full : List Int) (h1 : PlanArg w role keepV keep) (h2 : PlanArg w role failV fail) (h3 : PlanArg w role fullV full) (hC : I64 crash) (hR : I64 room) :
    Calls Try.prog 27 #[.pointer (some ⟨D, 0, none⟩), .agg #[.int .i64 crash, keepV, failV, fullV, .int .i64 room]] w fun r w' => r = .returned (.int .i64 0) ∧
      Hid (∃ role' s', DiskOK w' role' D s' ∧ Stp role role' w w' ∧ abs s' = startA (abs s) crash room keep fail full) := by
  obtain ⟨a1, n1, c1, q1⟩ := h1.shape
  obtain ⟨a2, n2, c2, q2⟩ := h2.shape
  obtain ⟨a3, n3, c3, q3⟩ := h3.shape
  subst q1 q2 q3
  obtain ⟨W0, hW0⟩ : ∃ W0, W0 = w.alloc (.cells #[.int .i64 crash, .slice a1 n1 c1, .slice a2 n2 c2, .slice a3 n3 c3, .int .i64 room] 24) := ⟨_, rfl⟩
  have hb0 : Below w.heap.size w W0 := by rw [hW0]; exact (Below.refl _ w).alloc (Nat.le_refl _) _
  have hbx : W0.heap[w.heap.size]? = some (.cells #[.int .i64 crash, .slice a1 n1 c1, .slice a2 n2 c2, .slice a3 n3 c3, .int .i64 room] 24 (0, 0)) := by rw [hW0]; exact World.alloc_heap_new w _
  have hd0 := h.still hb0
  have hdie := die_any hd0
  have hDlt := h.dom _ _ h.rD
  have hBl : w.heap.size < W0.heap.size := (Array.getElem?_eq_some_iff.1 hbx).1
  have hBr : role w.heap.size = none := no_role h (Nat.le_refl _)
  have HS0 : Hid (Stp role role w W0) := Stp.still hb0
  have HP1 := hideP (h1.stp (Stp.still hb0))
  have HP2 := hideP (h2.stp (Stp.still hb0))
  have HP3 := hideP (h3.stp (Stp.still hb0))
  have u0 : w.cell? ⟨D, 0, none⟩ = some (.bool true) := h.cells.1
  have u1 : w.cell? ⟨D, 1, none⟩ = some (.bool false) := by rw [← hdd]; exact h.cells.2.1
  have HBX := hideP hbx
  have HB := hideP (And.intro hBl hBr)
  have HDI : Hid (Calls Try.prog 56 #[.pointer (some ⟨D, 0, none⟩)] (w.alloc (.cells #[.int .i64 crash, .slice a1 n1 c1, .slice a2 n2 c2, .slice a3 n3 c3, .int .i64 room] 24)) fun e w' => (∃ v, e = .returned v) ∧ ∃ role' s', DiskOK w' role' D s' ∧ Stp role role' W0 w' ∧
      s' = { s with dead := true, fs := s'.fs } ∧ s'.fs.map (·.a) = dieAll s.keep 0 (s.fs.map (·.a))) := by rw [← hW0]; exact hdie
  have HDD := hideP hdd
  clear hW0 h h1 h2 h3 hd0 hb0 hbx hdie hdd hBl hBr
  go_enter Try.func27, Try.ntmps27
  go_wp2_with fail
  refine HDI.out.mono ?_
  rintro r w1 ⟨⟨v, rfl⟩, role1, s1, hd1, hs1, e1, e2⟩
  have hz1 : nchs s1.fs = 0 := nchs_zero (by rw [e2]; exact chs_die _ _ _)
  have hdd1 : s1.dead = true := by rw [e1]
  have hDlt1 := hd1.dom _ _ hd1.rD
  have hbx1 : w1.heap[w.heap.size]? = some (.cells #[.int .i64 crash, .slice a1 n1 c1, .slice a2 n2 c2, .slice a3 n3 c3, .int .i64 room] 24 (0, 0)) := (hs1.keep _ HB.out.1 (.inl HB.out.2)).trans HBX.out
  have hBD : w.heap.size ≠ D := by omega
  obtain ⟨hd2, hs2⟩ := hd1.setHead (s' := { s1 with dead := false }) (o := 1) (v := .bool false) rfl ⟨rfl, rfl, rfl, rfl⟩ ⟨rfl, rfl, rfl, rfl⟩ hd1.iC hd1.iR hd1.iO hd1.nch
  have hbx2 : (w1.setCell ⟨D, 1, none⟩ (.bool false)).heap[w.heap.size]? = some (.cells #[.int .i64 crash, .slice a1 n1 c1, .slice a2 n2 c2, .slice a3 n3 c3, .int .i64 room] 24 (0, 0)) := (Below.heap_setCell w1 _ _ _ hBD).trans hbx1
  have hst2 := hs1.trans hs2
  have p1 := HP1.out.stp hst2
  have p2 := HP2.out.stp hst2
  have p3 := HP3.out.stp hst2
  have hcp := copyPlan_any crash room (.slice a1 n1 c1) (.slice a2 n2 c2) (.slice a3 n3 c3) keep fail full _ p1.rd p2.rd p3.rd p1.len p2.len p3.len (fun a n c e => (p1.ro a n c e).1) (fun a n c e => (p2.ro a n c e).1) (fun a n c e => (p3.ro a n c e).1)
  have u2 : w1.cell? ⟨D, 1, none⟩ = some (.bool true) := by rw [← hdd1]; exact hd1.cells.2.1
  have u3 : w1.frozen? ⟨D, 1, none⟩ = false := blk_free hd1.blk
  have v0 : (w1.setCell ⟨D, 1, none⟩ (.bool false)).cell? ⟨w.heap.size, 0, none⟩ = some (.int .i64 crash) := blk_cell hbx2 rfl
  have v1 : (w1.setCell ⟨D, 1, none⟩ (.bool false)).cell? ⟨w.heap.size, 1, none⟩ = some (.slice a1 n1 c1) := blk_cell hbx2 rfl
  have v2 : (w1.setCell ⟨D, 1, none⟩ (.bool false)).cell? ⟨w.heap.size, 2, none⟩ = some (.slice a2 n2 c2) := blk_cell hbx2 rfl
  have v3 : (w1.setCell ⟨D, 1, none⟩ (.bool false)).cell? ⟨w.heap.size, 3, none⟩ = some (.slice a3 n3 c3) := blk_cell hbx2 rfl
  have v4 : (w1.setCell ⟨D, 1, none⟩ (.bool false)).cell? ⟨w.heap.size, 4, none⟩ = some (.int .i64 room) := blk_cell hbx2 rfl
  have HD2 := hideP hd2
  have HST : Hid (Stp role role1 w (w1.setCell ⟨D, 1, none⟩ (.bool false))) := HS0.out.trans hst2
  have HCP := hideP hcp
  have HP1' := hideP p1
  have HP2' := hideP p2
  have HP3' := hideP p3
  have HE : Hid (s1.fs.map (·.a) = dieAll s.keep 0 (s.fs.map (·.a))) := e2
  have HZ := hideP hz1
  clear hd1 hs1 e1 e2 hz1 hdd1 hbx1 hbx2 hd2 hs2 hst2 p1 p2 p3 hcp HP1 HP2 HP3
  go_wp2_with fail
  refine HCP.out.mono ?_
  rintro r w2 ⟨x1, x2, x3, rfl, n1', n2', n3', hb2⟩
  have hd2 := HD2.out.below hb2 (6, 0)
  have hb := hd2.blk
  have hDlt2 : D < w2.heap.size := (Array.getElem?_eq_some_iff.1 hb).1
  obtain ⟨y1, z1, t1, g1⟩ : ∃ a n c, x1 = .slice a n c := by rcases n1'.1 with ⟨e, _⟩ | ⟨b, o, c, e, _⟩ <;> exact ⟨_, _, _, e⟩
  obtain ⟨y2, z2, t2, g2⟩ : ∃ a n c, x2 = .slice a n c := by rcases n2'.1 with ⟨e, _⟩ | ⟨b, o, c, e, _⟩ <;> exact ⟨_, _, _, e⟩
  obtain ⟨y3, z3, t3, g3⟩ : ∃ a n c, x3 = .slice a n c := by rcases n3'.1 with ⟨e, _⟩ | ⟨b, o, c, e, _⟩ <;> exact ⟨_, _, _, e⟩
  subst g1 g2 g3
  have j2 : w2.cell? ⟨D, 2, none⟩ = some (.int .i64 s1.crash) := blk_cell hb rfl
  have j3 : w2.cell? ⟨D, 3, none⟩ = some s1.keepV := blk_cell hb rfl
  have j4 : w2.cell? ⟨D, 4, none⟩ = some s1.failV := blk_cell hb rfl
  have j5 : w2.cell? ⟨D, 5, none⟩ = some s1.fullV := blk_cell hb rfl
  have j6 : w2.cell? ⟨D, 6, none⟩ = some (.int .i64 s1.room) := blk_cell hb rfl
  have j7 : w2.cell? ⟨D, 7, none⟩ = some (.int .i64 s1.ops) := blk_cell hb rfl
  have i2 : w2.frozen? ⟨D, 2, none⟩ = false := blk_free hb
  have i3 : w2.frozen? ⟨D, 3, none⟩ = false := blk_free hb
  have i4 : w2.frozen? ⟨D, 4, none⟩ = false := blk_free hb
  have i5 : w2.frozen? ⟨D, 5, none⟩ = false := blk_free hb
  have i6 : w2.frozen? ⟨D, 6, none⟩ = false := blk_free hb
  have i7 : w2.frozen? ⟨D, 7, none⟩ = false := blk_free hb
  have hfin := start_done (crash := crash) (room := room) hd2 (HST.out.trans (Stp.ofBelow (6, 0) hb2)) HZ.out (PlanOK.of_new n1' HP1'.out.len HP1'.out.each) (PlanOK.of_new n2' HP2'.out.len HP2'.out.each) (PlanOK.of_new n3' HP3'.out.len HP3'.out.each) hC hR
  have HF := hideP hfin
  clear hfin hb hd2 hb2 n1' n2' n3' u0 u1 u2 u3 v0 v1 v2 v3 v4
  go_wp2
  go_ret
  refine ⟨rfl, ?_⟩
  obtain ⟨role', s', g1, g2, g3, g4, g5, g6, g7, g8, g9, g10⟩ := HF.out
  refine ⟨role', s', g1, g2, ?_⟩
  have := HE.out
  have hdd := HDD.out
  simp [abs, startA, g3, g4, g5, g6, g7, g8, g9, g10, hdd, this]

theorem start_D {w : World} {role : Role} {D : Nat} {s : DSt} (h : DiskOK w role D s) (hz : s.dead = true → ∀ a ∈ (abs s).fs, a.chs = []) (crash room : Int) (keepV failV fullV : Value) (keep fail full : List Int) (h1 : PlanArg w role keepV keep) (h2 : PlanArg w role failV fail) (h3 : PlanArg w role fullV full) (hC : I64 crash) (hR : I64 room) :
    Calls Try.prog 27 #[.pointer (some ⟨D, 0, none⟩), .agg #[.int .i64 crash, keepV, failV, fullV, .int .i64 room]] w fun r w' => r = .returned (.int .i64 0) ∧
      Hid (∃ role' s', DiskOK w' role' D s' ∧ Stp role role' w w' ∧ abs s' = startA (abs s) crash room keep fail full) := by
  cases hdd : s.dead with
  | false => exact start_live h hdd crash room keepV failV fullV keep fail full h1 h2 h3 hC hR
  | true =>
    have hD : ∀ (k : Nat), role k = none → k ≠ D := fun k e e' => by rw [e', h.rD] at e; cases e
    refine (start_dead h hdd (nchs_zero (hz hdd)) crash room keepV failV fullV keep fail full h1.rd h2.rd h3.rd h1.len h2.len h3.len
      (fun a n c e => ⟨(h1.ro a n c e).1, hD _ (h1.ro a n c e).2⟩) (fun a n c e => ⟨(h2.ro a n c e).1, hD _ (h2.ro a n c e).2⟩) (fun a n c e => ⟨(h3.ro a n c e).1, hD _ (h3.ro a n c e).2⟩) h1.each h2.each h3.each hC hR).mono ?_
    rintro r w' ⟨rfl, role', s', g1, g2, g3, g4, g5, g6, g7, g8, g9, g10⟩
    refine ⟨rfl, role', s', g1, g2, ?_⟩
    simp [abs, startA, g3, g4, g5, g6, g7, g8, g9, g10, hdd]

end Go.Proofs.Ytcceaokldphfgaa
