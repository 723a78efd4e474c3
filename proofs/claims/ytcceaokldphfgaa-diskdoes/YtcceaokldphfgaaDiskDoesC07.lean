/- YtcceaokldphfgaaDiskDoesC07 -/
import Derived.Test.YtcceaokldphfgaaDiskDoesC06
import Derived.Deep.RegionHeld
import Derived.Test.YtcceaokldphfgaaDiskDoesC05
namespace Go.Proofs.Ytcceaokldphfgaa
open Go.RowKit Go.Shelf

theorem Try.info119 : (Try.prog.info? 119).map (fun i => (i.zero, i.size, i.bytes)) = some (some .nilIface, 1, 16) := by kernel_rfl

/-- A change's value in memory is an interface value. -/
theorem ChgAt.one {w : World} {role : Role} {c : Chg} {v : Value} (h : ChgAt w role c v) : v.oneCell' = true := by
  cases c with
  | inl q => obtain ⟨bv, rfl, _⟩ := h; rfl
  | inr long => obtain ⟨rfl, _⟩ := h; rfl

/-- One change more in a file's row of changes. -/
theorem change_app {w : World} {role : Role} {D i : Nat} {s : DSt} {f : FRep} {c : Chg} {cv : Value} (h : DiskOK w role D s) (hi : s.fs[i]? = some f) (hc : ChgAt w role c cv) (hn : (nchs s.fs : Int) + 1 ≤ s.ops) :
    ∃ a n k w2, (Builtin.append_ #[85, 85] 85 #[f.chV, .slice (some ⟨w.heap.size, 0, none⟩) 1 1]).run Try.prog (w.alloc (.cells #[cv] 119)) = .ok (.slice a n k) w2 ∧
      w2.cell? ⟨f.p, 2, none⟩ = some f.chV ∧ w2.frozen? ⟨f.p, 2, none⟩ = false ∧ (w2.setCell ⟨f.p, 2, none⟩ (.slice a n k)).cell? ⟨f.p, 3, none⟩ = some f.dataV ∧ (w2.setCell ⟨f.p, 2, none⟩ (.slice a n k)).frozen? ⟨f.p, 3, none⟩ = false ∧
      ∃ role', DiskOK (w2.setCell ⟨f.p, 2, none⟩ (.slice a n k)) role' D { s with fs := s.fs.set i { f with chV := .slice a n k, a := { f.a with chs := f.a.chs ++ [c] } } } ∧ Stp role role' w (w2.setCell ⟨f.p, 2, none⟩ (.slice a n k)) ∧
        ChgAt (w2.setCell ⟨f.p, 2, none⟩ (.slice a n k)) role' c cv := by
  obtain ⟨i0, hi0, hz0, hz1, hz2⟩ := info_parts Try.info119
  have hF := h.each f (List.mem_of_getElem? hi)
  obtain ⟨vals, hv, hat⟩ := hF.och
  have hlen : f.a.chs.length ≤ nchs s.fs := by
    have := nchs_set (f' := { f with a := { f.a with chs := [] } }) hi
    simp only [List.length_nil] at this
    omega
  have hop := h.iO
  have hp := h.dom _ _ hF.rp
  have hb0 : Below w.heap.size w (w.alloc (.cells #[cv] 119)) := (Below.refl _ w).alloc (Nat.le_refl _) _
  have hcell : (w.alloc (.cells #[cv] 119)).cell? ⟨w.heap.size, 0, none⟩ = some cv := (cell_new cv 119).1
  obtain ⟨v', w2, hrun, hown, hgrew⟩ := app_run (P := Try.prog) (w.alloc (.cells #[cv] 119)) 85 85 119 i0 .nilIface 16 Try.underlying85 hi0 hz0 hz1 hz2 rfl f.chV f.a.chs.length vals (hv.alloc _) ⟨w.heap.size, 0, none⟩ 1 1 [cv] rfl
    (fun j u hu => by
      match j, hu with
      | 0, hu => simp only [List.getElem?_cons_zero, Option.some.injEq] at hu; subst hu; rw [Addr.add_lit]; exact hcell
      | j + 1, hu => simp at hu)
    (fun u hu => by simp at hu; rw [hu]; exact hc.one) (by unfold maxLen; omega) (by omega)
  obtain ⟨a, k, rfl, _⟩ := own_slice hown
  have hg : Grew w w2 f.chV (.slice a (f.a.chs.length + 1) k) := grew_alloc hgrew
  have hx : ∀ (j : Nat) (d : Chg), (f.a.chs ++ [c])[j]? = some d → ∃ u, (vals ++ [cv])[j]? = some u ∧ ChgAt w role d u := by
    intro j d hj
    have hvl : vals.length = f.a.chs.length := by simpa using hv.1
    rcases Nat.lt_or_ge j f.a.chs.length with hlt | hge
    · rw [List.getElem?_append_left hlt] at hj
      obtain ⟨u, hu, hd⟩ := hat j d hj
      exact ⟨u, by rw [List.getElem?_append_left (by omega)]; exact hu, hd⟩
    · rw [List.getElem?_append_right hge] at hj
      have e : j - f.a.chs.length = 0 := by
        rcases Nat.eq_zero_or_pos (j - f.a.chs.length) with h0 | h0
        · exact h0
        · rw [List.getElem?_eq_none (by simp; omega)] at hj; cases hj
      rw [e] at hj
      simp only [List.getElem?_cons_zero, Option.some.injEq] at hj
      subst hj
      exact ⟨cv, by rw [List.getElem?_append_right (by omega), hvl, e]; rfl, hc⟩
  have ho : w2.ownsRow 0 119 1 (.slice a (f.a.chs.length + 1) k) (f.a.chs ++ [c]).length (vals ++ [cv]) := by simpa using hown
  obtain ⟨h1, h2⟩ := h.putChs hi hg ho hx (by simp; omega)
  have hbl : w2.heap[f.p]? = some (.cells #[.string f.a.name, f.safeV, f.chV, f.dataV] 87 (0, 0)) := (hg.by_.block _ hp (fun e => by have := hF.rch _ e.symm; rw [hF.rp] at this; cases this)).trans hF.blk
  have hbl2 := blk_set (o := 2) hbl (.slice a (f.a.chs.length + 1) k)
  refine ⟨a, f.a.chs.length + 1, k, w2, hrun, blk_cell hbl rfl, blk_free hbl, blk_cell hbl2 rfl, blk_free hbl2, _, h1, h2, hc.same (fun j e _ => h2.keep j (h.dom _ _ e) (.inr e)) (fun j e => ?_)⟩
  exact extR_old h.dom j _ e

theorem nilAhead_wa (x y : Value) (w : World) : (nilAhead 252 106 (.agg #[x, y]) "cairn/disk.apply").run Try.prog w = .ok (some false) w := by kernel_rfl

theorem method_wa (x y : Value) (w : World) : (method 252 106 (.agg #[x, y]) "cairn/disk.apply").run Try.prog w = .ok (106, .agg #[x, y]) w := by kernel_rfl

theorem nilAhead_ca (x : Value) (w : World) : (nilAhead 252 109 (.agg #[x]) "cairn/disk.apply").run Try.prog w = .ok (some false) w := by kernel_rfl

theorem method_ca (x : Value) (w : World) : (method 252 109 (.agg #[x]) "cairn/disk.apply").run Try.prog w = .ok (110, .agg #[x]) w := by kernel_rfl

/-- What the data's row is behind a change, and the disk when it has been stored. -/
theorem data_done {w w1 : World} {role : Role} {D i : Nat} {s : DSt} {f : FRep} {v : Value} {xs : List UInt8} (h : DiskOK w role D s) (hi : s.fs[i]? = some f) (hg : Grew w w1 f.dataV v) (ho : w1.ownsRow 0 5 1 v xs.length (xs.map byteV)) (hx : xs.length ≤ 268435456) :
    ∃ a k, v = .slice a xs.length k ∧ w1.cell? ⟨f.p, 3, none⟩ = some f.dataV ∧ w1.frozen? ⟨f.p, 3, none⟩ = false ∧
      Hid (∃ role', DiskOK (w1.setCell ⟨f.p, 3, none⟩ v) role' D { s with fs := s.fs.set i { f with dataV := v, a := { f.a with data := xs } } } ∧ Stp role role' w (w1.setCell ⟨f.p, 3, none⟩ v)) := by
  have hF := h.each f (List.mem_of_getElem? hi)
  have hp := h.dom _ _ hF.rp
  obtain ⟨a, k, e, _⟩ := own_slice ho
  have hbl : w1.heap[f.p]? = some (.cells #[.string f.a.name, f.safeV, f.chV, f.dataV] 87 (0, 0)) := (hg.by_.block _ hp (fun e => by have := hF.rdata _ e.symm; rw [hF.rp] at this; cases this)).trans hF.blk
  exact ⟨a, k, e, blk_cell hbl rfl, blk_free hbl, _, h.putData hi hg ho hx⟩

theorem DiskOK.drew {w : World} {role : Role} {D : Nat} {s : DSt} (h : DiskOK w role D s) : DiskOK w.drew role D s :=
  h.grown (row := none) ⟨rfl, rfl, rfl, Nat.le_refl _, fun _ _ _ => rfl⟩ (fun r e => by cases e)

theorem Stp.of_drew {r r' : Role} {w w' : World} (h : Stp r r' w.drew w') : Stp r r' w w' := ⟨h.os, h.tape, h.output, h.size, h.ext, h.keep, h.others⟩

theorem length_applyC {w : World} {role : Role} {c : Chg} {cv : Value} {xs : List UInt8} (h : ChgAt w role c cv) (hx : xs.length ≤ 268435456) : (applyC c xs).length ≤ 268435456 := by
  cases c with
  | inl q =>
    obtain ⟨bv, _, _, _, hb⟩ := h
    simp only [applyC]; rw [length_applyW]; omega
  | inr long =>
    obtain ⟨_, hb⟩ := h
    simp only [applyC]; rw [length_applyT]; exact hb

theorem ne_of_ro {w : World} {role : Role} {f : FRep} {bv : Value} (hF : FileOK w role f) (hro : RoV role bv) : ∀ a n c, bv = .slice (some a) n c → f.dataV.ownBlock ≠ some a.block ∧ f.safeV.ownBlock ≠ some a.block := by
  intro a n c e
  have h1 := hro a n c e
  constructor
  · intro e'
    have := hF.rdata _ e'
    rw [h1] at this
    simp at this
  · intro e'
    have := hF.rsafe _ e'
    rw [h1] at this
    simp at this

theorem apply_write {w : World} {role : Role} {D i : Nat} {s : DSt} {f : FRep} {at_ : Nat} {l : List UInt8} {bv : Value} (h : DiskOK w role D s) (hi : s.fs[i]? = some f) (hc : ChgAt w role (.inl (at_, l)) (.iface 106 (.agg #[.int .i64 at_, bv]))) :
    Calls Try.prog 106 #[.agg #[.int .i64 at_, bv], f.dataV] w fun e w1 => ∃ a n k, e = .returned (.slice a n k) ∧ w1.cell? ⟨f.p, 3, none⟩ = some f.dataV ∧ w1.frozen? ⟨f.p, 3, none⟩ = false ∧
      Hid (∃ role', DiskOK (w1.setCell ⟨f.p, 3, none⟩ (.slice a n k)) role' D { s with fs := s.fs.set i { f with dataV := .slice a n k, a := { f.a with data := applyC (.inl (at_, l)) f.a.data } } } ∧ Stp role role' w (w1.setCell ⟨f.p, 3, none⟩ (.slice a n k))) := by
  have hF := h.each f (List.mem_of_getElem? hi)
  have hl := length_applyC hc hF.ldata
  obtain ⟨bv', e, hrd, hro, hb⟩ := hc
  cases e
  refine (applyW_any f.dataV bv at_ l f.a.data w hF.odata hrd (fun a n c e => (ne_of_ro hF hro a n c e).1) hb hF.ldata).mono ?_
  rintro e w1 ⟨v, rfl, ho, hg⟩
  obtain ⟨a, k, rfl, h1, h2, h3⟩ := data_done h hi hg ho hl
  exact ⟨_, _, _, rfl, h1, h2, h3⟩

theorem apply_cut {w : World} {role : Role} {D i : Nat} {s : DSt} {f : FRep} {long : Nat} (h : DiskOK w role D s) (hi : s.fs[i]? = some f) (hc : ChgAt w role (.inr long) (.iface 109 (.agg #[.int .i64 long]))) :
    Calls Try.prog 110 #[.agg #[.int .i64 long], f.dataV] w fun e w1 => ∃ a n k, e = .returned (.slice a n k) ∧ w1.cell? ⟨f.p, 3, none⟩ = some f.dataV ∧ w1.frozen? ⟨f.p, 3, none⟩ = false ∧
      Hid (∃ role', DiskOK (w1.setCell ⟨f.p, 3, none⟩ (.slice a n k)) role' D { s with fs := s.fs.set i { f with dataV := .slice a n k, a := { f.a with data := applyC (.inr long) f.a.data } } } ∧ Stp role role' w (w1.setCell ⟨f.p, 3, none⟩ (.slice a n k))) := by
  have hF := h.each f (List.mem_of_getElem? hi)
  have hl := length_applyC hc hF.ldata
  refine (applyT_any f.dataV long f.a.data w hF.odata hc.2 hF.ldata).mono ?_
  rintro e w1 ⟨v, rfl, ho, hg⟩
  obtain ⟨a, k, rfl, h1, h2, h3⟩ := data_done h hi hg ho hl
  exact ⟨_, _, _, rfl, h1, h2, h3⟩

set_option maxHeartbeats 1000000 in
set_option maxRecDepth 100000 in
theorem change_write {w : World} {role : Role} {D i : Nat} {s : DSt} {f : FRep} {at_ : Nat} {l : List UInt8} {bv : Value} (h : DiskOK w role D s) (hi : s.fs[i]? = some f) (hc : ChgAt w role (.inl (at_, l)) (.iface 106 (.agg #[.int .i64 at_, bv]))) (long : Nat)
    (hlong : long = (applyC (.inl (at_, l)) f.a.data).length) (hnot : fullB s ((long : Int) - f.a.data.length) = false) (hn : (nchs s.fs : Int) + 1 ≤ s.ops) :
    Calls Try.prog 62 #[.pointer (some ⟨D, 0, none⟩), ptrV f, .iface 106 (.agg #[.int .i64 at_, bv]), .int .i64 long] w fun e w' => e = .returned (.int .i64 0) ∧
      ∃ role' f', DiskOK w' role' D { s with fs := s.fs.set i f' } ∧ Stp role role' w w' ∧ f'.p = f.p ∧ f'.a = { f.a with chs := f.a.chs ++ [.inl (at_, l)], data := applyC (.inl (at_, l)) f.a.data } := by
  have hF := h.each f (List.mem_of_getElem? hi)
  have hld := hF.ldata
  have hcd : w.cell? ⟨f.p, 3, none⟩ = some f.dataV := blk_cell hF.blk rfl
  obtain ⟨av, cv, hv, _⟩ := own_slice hF.odata
  rw [hv] at hcd
  have hll : long ≤ 268435456 := by rw [hlong]; exact length_applyC hc hF.ldata
  have hfull := isFull_any h ((long : Int) - f.a.data.length) (by omega)
  rw [hnot] at hfull
  simp only [ptrV]
  have HD : Hid (DiskOK w role D s) := h
  clear h hF hlong
  have hna := nilAhead_wa (.int .i64 at_) bv
  have hme := method_wa (.int .i64 at_) bv
  go_enter Try.func62, Try.ntmps62
  go_wp2_with fail
  refine hfull.mono ?_
  rintro e w1 ⟨rfl, hb1⟩
  have hd1 := HD.out.below hb1 (6, 0)
  have hs1 : Stp role (extR role w w1 (6, 0)) w w1 := Stp.ofBelow (6, 0) hb1
  have hc1 : ChgAt w1 (extR role w w1 (6, 0)) (.inl (at_, l)) (.iface 106 (.agg #[.int .i64 at_, bv])) := hc.same (fun k e _ => hb1.block k (HD.out.dom _ _ e)) (fun k e => extR_old HD.out.dom k _ e)
  have hcc : w1.cell? ⟨f.p, 2, none⟩ = some f.chV := blk_cell (hd1.each f (List.mem_of_getElem? hi)).blk rfl
  obtain ⟨a, n, k, w2, hrun, q1, q2, q3, q4, role2, hd2, hs2, hc2⟩ := change_app hd1 hi hc1 hn
  have hap := apply_write hd2.drew (i := i) (f := { f with chV := .slice a n k, a := { f.a with chs := f.a.chs ++ [.inl (at_, l)] } }) (by simp [(List.getElem?_eq_some_iff.1 hi).1]) hc2
  simp only at hap
  rw [hv] at q3 hap
  have HR : Hid ((Builtin.append_ #[85, 85] 85 #[f.chV, .slice (some ⟨w1.heap.size, 0, none⟩) 1 1]).run Try.prog (w1.alloc (.cells #[.iface 106 (.agg #[.int .i64 at_, bv])] 119)) = .ok (.slice a n k) w2) := hrun
  have HS : Hid (Stp role role2 w (w2.setCell ⟨f.p, 2, none⟩ (.slice a n k))) := hs1.trans hs2
  clear hrun hs1 hs2 hd1 hc1 hc2 hd2 hc hfull hcd
  go_wp2_with (at_builtin; refine Lib.wpList_append_run _ rfl _ _ 85 85 rfl _ _ rfl rfl _ _ HR.out ?_)
  go_region_with (first | (go_at_call 106; refine hap.mono ?_; rintro e w4 ⟨a4, n4, k4, rfl, p1, p2, HF⟩))
  all_goals go_wp2
  all_goals go_ret
  all_goals
    obtain ⟨role4, hd4, hs4⟩ := HF.out
    simp only [List.set_set] at hd4
    exact ⟨rfl, role4, _, hd4, HS.out.trans (Stp.of_drew hs4), rfl, rfl⟩

set_option maxHeartbeats 1000000 in
set_option maxRecDepth 100000 in
theorem change_cut {w : World} {role : Role} {D i : Nat} {s : DSt} {f : FRep} {lg : Nat} (h : DiskOK w role D s) (hi : s.fs[i]? = some f) (hc : ChgAt w role (.inr lg) (.iface 109 (.agg #[.int .i64 lg]))) (long : Nat)
    (hlong : long = (applyC (.inr lg) f.a.data).length) (hnot : fullB s ((long : Int) - f.a.data.length) = false) (hn : (nchs s.fs : Int) + 1 ≤ s.ops) :
    Calls Try.prog 62 #[.pointer (some ⟨D, 0, none⟩), ptrV f, .iface 109 (.agg #[.int .i64 lg]), .int .i64 long] w fun e w' => e = .returned (.int .i64 0) ∧
      ∃ role' f', DiskOK w' role' D { s with fs := s.fs.set i f' } ∧ Stp role role' w w' ∧ f'.p = f.p ∧ f'.a = { f.a with chs := f.a.chs ++ [.inr lg], data := applyC (.inr lg) f.a.data } := by
  have hF := h.each f (List.mem_of_getElem? hi)
  have hld := hF.ldata
  have hcd : w.cell? ⟨f.p, 3, none⟩ = some f.dataV := blk_cell hF.blk rfl
  obtain ⟨av, cv, hv, _⟩ := own_slice hF.odata
  rw [hv] at hcd
  have hll : long ≤ 268435456 := by rw [hlong]; exact length_applyC hc hF.ldata
  have hfull := isFull_any h ((long : Int) - f.a.data.length) (by omega)
  rw [hnot] at hfull
  simp only [ptrV]
  have HD : Hid (DiskOK w role D s) := h
  clear h hF hlong
  have hna := nilAhead_ca (.int .i64 lg)
  have hme := method_ca (.int .i64 lg)
  go_enter Try.func62, Try.ntmps62
  go_wp2_with fail
  refine hfull.mono ?_
  rintro e w1 ⟨rfl, hb1⟩
  have hd1 := HD.out.below hb1 (6, 0)
  have hs1 : Stp role (extR role w w1 (6, 0)) w w1 := Stp.ofBelow (6, 0) hb1
  have hc1 : ChgAt w1 (extR role w w1 (6, 0)) (.inr lg) (.iface 109 (.agg #[.int .i64 lg])) := hc.same (fun k e _ => hb1.block k (HD.out.dom _ _ e)) (fun k e => extR_old HD.out.dom k _ e)
  have hcc : w1.cell? ⟨f.p, 2, none⟩ = some f.chV := blk_cell (hd1.each f (List.mem_of_getElem? hi)).blk rfl
  obtain ⟨a, n, k, w2, hrun, q1, q2, q3, q4, role2, hd2, hs2, hc2⟩ := change_app hd1 hi hc1 hn
  have hap := apply_cut hd2.drew (i := i) (f := { f with chV := .slice a n k, a := { f.a with chs := f.a.chs ++ [.inr lg] } }) (by simp [(List.getElem?_eq_some_iff.1 hi).1]) hc2
  simp only at hap
  rw [hv] at q3 hap
  have HR : Hid ((Builtin.append_ #[85, 85] 85 #[f.chV, .slice (some ⟨w1.heap.size, 0, none⟩) 1 1]).run Try.prog (w1.alloc (.cells #[.iface 109 (.agg #[.int .i64 lg])] 119)) = .ok (.slice a n k) w2) := hrun
  have HS : Hid (Stp role role2 w (w2.setCell ⟨f.p, 2, none⟩ (.slice a n k))) := hs1.trans hs2
  clear hrun hs1 hs2 hd1 hc1 hc2 hd2 hc hfull hcd
  go_wp2_with (at_builtin; refine Lib.wpList_append_run _ rfl _ _ 85 85 rfl _ _ rfl rfl _ _ HR.out ?_)
  go_region_with (first | (go_at_call 110; refine hap.mono ?_; rintro e w4 ⟨a4, n4, k4, rfl, p1, p2, HF⟩))
  all_goals go_wp2
  all_goals go_ret
  all_goals
    obtain ⟨role4, hd4, hs4⟩ := HF.out
    simp only [List.set_set] at hd4
    exact ⟨rfl, role4, _, hd4, HS.out.trans (Stp.of_drew hs4), rfl, rfl⟩

set_option maxHeartbeats 1000000 in
set_option maxRecDepth 100000 in
theorem change_full {w : World} {role : Role} {D i : Nat} {s : DSt} {f : FRep} {cv : Value} (h : DiskOK w role D s) (hi : s.fs[i]? = some f) (long : Nat) (hll : long ≤ 268435456) (hfu : fullB s ((long : Int) - f.a.data.length) = true) :
    Calls Try.prog 62 #[.pointer (some ⟨D, 0, none⟩), ptrV f, cv, .int .i64 long] w fun e w' => e = .returned (.int .i64 12) ∧ Below w.heap.size w w' := by
  have hF := h.each f (List.mem_of_getElem? hi)
  have hld := hF.ldata
  have hcd : w.cell? ⟨f.p, 3, none⟩ = some f.dataV := blk_cell hF.blk rfl
  obtain ⟨av, cv', hv, _⟩ := own_slice hF.odata
  rw [hv] at hcd
  have hfull := isFull_any h ((long : Int) - f.a.data.length) (by omega)
  rw [hfu] at hfull
  simp only [ptrV]
  clear h hF
  go_enter Try.func62, Try.ntmps62
  go_wp2_with fail
  refine hfull.mono ?_
  rintro e w1 ⟨rfl, hb1⟩
  have HB : Hid (Below w.heap.size w w1) := hb1
  clear hb1
  go_wp2
  go_ret
  exact ⟨rfl, HB.out⟩

/-- What a change does to a file. -/
def changeA (c : Chg) (a : AFile) : AFile := { a with chs := a.chs ++ [c], data := applyC c a.data }

/-- The disk's change, at whatever change: there is no room, or the file is turned. -/
theorem change_any {w : World} {role : Role} {D i : Nat} {s : DSt} {f : FRep} {c : Chg} {cv : Value} (h : DiskOK w role D s) (hi : s.fs[i]? = some f) (hc : ChgAt w role c cv) (long : Nat)
    (hlong : long = (applyC c f.a.data).length) (hn : (nchs s.fs : Int) + 1 ≤ s.ops) :
    Calls Try.prog 62 #[.pointer (some ⟨D, 0, none⟩), ptrV f, cv, .int .i64 long] w fun e w' => ∃ role' s', DiskOK w' role' D s' ∧ Stp role role' w w' ∧ s' = { s with fs := s'.fs } ∧ s'.fs.map (·.p) = s.fs.map (·.p) ∧
      ((fullB s ((long : Int) - f.a.data.length) = true ∧ e = .returned (.int .i64 12) ∧ s'.fs.map (·.a) = s.fs.map (·.a)) ∨
       (fullB s ((long : Int) - f.a.data.length) = false ∧ e = .returned (.int .i64 0) ∧ s'.fs.map (·.a) = (s.fs.map (·.a)).set i (changeA c f.a))) := by
  cases hfu : fullB s ((long : Int) - f.a.data.length) with
  | true =>
    refine (change_full h hi long (by rw [hlong]; exact length_applyC hc (h.each f (List.mem_of_getElem? hi)).ldata) hfu).mono ?_
    rintro e w' ⟨rfl, hb⟩
    exact ⟨_, s, h.below hb (6, 0), Stp.ofBelow (6, 0) hb, rfl, rfl, .inl ⟨rfl, rfl, rfl⟩⟩
  | false =>
    cases c with
    | inl q =>
      obtain ⟨at_, l⟩ := q
      obtain ⟨bv, e, _⟩ := id hc
      subst e
      refine (change_write h hi hc long hlong hfu hn).mono ?_
      rintro e w' ⟨rfl, role', f', hd, hs, hp, ha⟩
      refine ⟨role', _, hd, hs, rfl, map_set_same (·.p) _ _ _ _ hi hp, .inr ⟨rfl, rfl, ?_⟩⟩
      simp only [List.map_set, ha]
      rfl
    | inr lg =>
      obtain ⟨e, _⟩ := id hc
      subst e
      refine (change_cut h hi hc long hlong hfu hn).mono ?_
      rintro e w' ⟨rfl, role', f', hd, hs, hp, ha⟩
      refine ⟨role', _, hd, hs, rfl, map_set_same (·.p) _ _ _ _ hi hp, .inr ⟨rfl, rfl, ?_⟩⟩
      simp only [List.map_set, ha]
      rfl

end Go.Proofs.Ytcceaokldphfgaa

namespace Go.Proofs.Ytcceaokldphfgaa
open Go.RowKit Go.Shelf

/-- What an operation does in a round of a loop over a function, at the wide fence, is what it does elsewhere. -/
theorem upon_in {P : Program} {o : Oper} {a : Act} {next next' : Act → World → Prop} {Q : Exit → Act → World → Prop} {l n : Nat} (hn : ∀ a w, next a w → next' a w) (r : Result Next) (h : o.upon P a next Q r) :
    o.uponIn (Fence.wide.inRound l) n P a next' Q r := by
  cases r with
  | ok x w' =>
    cases x with
    | value v => exact hn _ _ h
    | skip => exact hn _ _ h
    | defer d => exact hn _ _ h
    | enter f args =>
      refine ⟨fun e => by simp [Fence.inRound, Fence.wide] at e, CallsIn.inRound l (callsIn_wide.2 (Calls.mono h ?_))⟩
      intro e w'' he
      cases e with
      | returned v => exact hn _ _ he
      | panicked chain => exact he
      | outgrown => exact he
    | row row args =>
      refine ⟨fun e => by simp [Fence.inRound, Fence.wide] at e, fun c cs _ => ?_⟩
      obtain ⟨v, w'', hv, hs⟩ := h c cs
      exact ⟨v, w'', hn _ _ hv, by rw [fenced_inRound]; exact stepsIn_wide.2 hs⟩
    | _ => exact absurd h (by simp [Oper.upon])
  | halt hh w' =>
    cases hh with
    | panic v => exact h
    | _ => exact absurd h (by simp [Oper.upon])

theorem any_in {P : Program} {md : Region.Mode} {ops : Array Oper} {Q : Exit → Act → World → Prop} {l n : Nat} (hlo : ¬ LetsOut Q) (hd : ∀ (i : Nat) (o : Oper) c, ops[i]? = some o → o.op ≠ .defer c) :
    ∀ (fuel : Nat) (listed : Array Bool) (a : Act) (w : World), wpAny P md ops Q fuel listed a w → wpAnyIn (Fence.wide.inRound l) n P md ops Q fuel listed a w
  | 0, _, _, _, h => h
  | fuel + 1, listed, a, w, h => by
    refine ⟨h.1, fun i hi => ?_⟩
    have h2 := h.2 i hi
    unfold wpOp at h2
    unfold wpOpIn
    split at h2
    · rename_i e
      rw [e]
      exact any_in hlo hd fuel _ a w h2
    · rename_i o e
      rw [e]
      simp only
      split at h2
      · rename_i hw
        rw [if_pos hw]
        refine ⟨fun _ _ => trivial, ?_⟩
        rw [show (Fence.wide.inRound l).round = some l from rfl, Oper.semAt_some l a.eval o (hd i o · e)]
        rcases h2 with h2 | h2
        · exact upon_in (fun a w h => any_in hlo hd fuel _ a w h) _ h2
        · exact absurd h2.2 hlo
      · rename_i hw
        rw [if_neg hw]
        exact ⟨fun _ _ => trivial, any_in hlo hd fuel _ _ w h2⟩

/-- A region that draws its order, in a round: by what is held. -/
theorem regionIn_held {P : Program} {id : Nat} {ops : Array Oper} {Q : Exit → Act → World → Prop} {S : World → Prop} {l n : Nat} {a : Act} {w : World} (hm : P.follows .mixedOrders = true) (hlo : ¬ LetsOut Q) (hd : ∀ (i : Nat) (o : Oper) c, ops[i]? = some o → o.op ≠ .defer c) (hS : S w.drew)
    (h : S w.drew → wpAnyH P .any ops Q S ops.size (Array.replicate ops.size false) a w.drew) : (Code.region id ops true).wpIn (Fence.wide.inRound l) n P Q a w :=
  wpIn_region_any hm (any_in hlo hd _ _ _ _ (wpAny_of_held _ _ _ _ (h hS)))

/-- No operation is a defer statement. -/
def plainOps (ops : Array Oper) : Bool := ops.all fun o => match o.op with | .defer _ => false | _ => true

theorem nd_of {ops : Array Oper} (h : plainOps ops = true) : ∀ (i : Nat) (o : Oper) c, ops[i]? = some o → o.op ≠ .defer c := by
  intro i o c hi e
  unfold plainOps at h
  rw [Array.all_eq_true] at h
  obtain ⟨hlt, ho⟩ := Array.getElem?_eq_some_iff.1 hi
  have := h i hlt
  rw [ho, e] at this
  simp at this

end Go.Proofs.Ytcceaokldphfgaa
