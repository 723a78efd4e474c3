/- YtcceaokldphfgaaDiskDoesC06 -/
import Derived.Test.YtcceaokldphfgaaDiskDoesC05
import Derived.Deep.RegionHeld3
import Derived.Test.YtcceaokldphfgaaDiskDoesC04
namespace Go.Proofs.Ytcceaokldphfgaa
open Go.RowKit Go.Shelf

attribute [local go_sem] Oper.semAt_some

def sumLen {fs : List FRep} (l : List (Of fs)) : Nat := (l.map fun x => x.1.a.data.length).sum

/-- How many bytes all files' data have. -/
def totalF (fs : List FRep) : Nat := (fs.map fun f => f.a.data.length).sum

theorem sumLen_attach (fs : List FRep) : sumLen fs.attach = totalF fs := by
  unfold sumLen totalF
  conv => rhs; rw [← List.attach_map_subtype_val fs, List.map_map]
  rfl

theorem cell_new {W : World} (v : Value) (t : TypeId) : (W.alloc (.cells #[v] t)).cell? ⟨W.heap.size, 0, none⟩ = some v ∧ (W.alloc (.cells #[v] t)).frozen? ⟨W.heap.size, 0, none⟩ = false := by
  have h : (W.alloc (.cells #[v] t)).heap[W.heap.size]? = some (.cells #[v] t (0, 0)) := World.alloc_heap_new W _
  exact ⟨blk_cell h rfl, blk_free h⟩

theorem sumLen_le {fs : List FRep} (hb : ∀ f ∈ fs, f.a.data.length ≤ 268435456) (l : List (Of fs)) : sumLen l ≤ l.length * 268435456 := by
  induction l with
  | nil => simp [sumLen]
  | cons x l ih =>
    have := hb x.1 x.2
    simp only [sumLen, List.map_cons, List.sum_cons, List.length_cons] at ih ⊢
    omega

theorem sumLen_snoc {fs : List FRep} (l : List (Of fs)) (x : Of fs) : sumLen (l ++ [x]) = sumLen l + x.1.a.data.length := by
  simp [sumLen]

set_option maxHeartbeats 2000000 in
set_option maxRecDepth 100000 in
theorem total_in {w : World} {role : Role} {D : Nat} {s : DSt} (h : DiskOK w role D s) (n : Nat) (hn : 6 ≤ n) :
    CallsIn Fence.wide n Try.prog 77 #[.pointer (some ⟨D, 0, none⟩)] w fun e w' => e = .returned (.int .i64 (totalF s.fs)) ∧ Below w.heap.size w w' := by
  have h1 : 1 ≤ n := by omega
  refine callsIn_of_wp_marks Try.func77 rfl trivial ?_ rfl
  simp only [Try.ntmps77, List.size_toArray, List.length_cons, List.length_nil, Nat.reduceAdd, Nat.reduceSub, Array.replicate_succ, Array.replicate_zero, List.push_toArray, List.append_toArray, List.nil_append, List.cons_append]
  gi_wp2_with (refine ⟨trivial, ?_⟩; gi_at_call 51; refine (all_in _ _ _).mono ?_; rintro e w' ⟨rfl, rfl⟩)
  obtain ⟨W0, hW0⟩ : ∃ W0, (w.alloc (.cells #[.int .i64 0] 3)).alloc (.cells #[.pointer (some ⟨D, 0, none⟩)] 29) = W0 := ⟨_, rfl⟩
  have hsz : W0.heap.size = w.heap.size + 2 := by rw [← hW0]; simp
  have hB0 : Below w.heap.size w W0 := by rw [← hW0]; exact ((Below.refl _ w).alloc (Nat.le_refl _) _).alloc (by simp) _
  have hd0 := h.below hB0 (6, 0)
  have hc0 : W0.cell? ⟨w.heap.size, 0, none⟩ = some (.int .i64 0) ∧ W0.frozen? ⟨w.heap.size, 0, none⟩ = false := by
    rw [← hW0]
    have h1 : ((w.alloc (.cells #[.int .i64 0] 3)).alloc (.cells #[.pointer (some ⟨D, 0, none⟩)] 29)).heap[w.heap.size]? = some (.cells #[.int .i64 0] 3 (0, 0)) := (Below.heap_alloc _ _ _ (by simp)).trans (World.alloc_heap_new w _)
    exact ⟨blk_cell h1 rfl, blk_free h1⟩
  have hc1 : W0.cell? ⟨w.heap.size + 1, 0, none⟩ = some (.pointer (some ⟨D, 0, none⟩)) := by
    rw [← hW0]
    have := (cell_new (W := w.alloc (.cells #[.int .i64 0] 3)) (.pointer (some ⟨D, 0, none⟩)) 29).1
    rwa [World.size_alloc] at this
  have hlb : ∀ f ∈ s.fs, f.a.data.length ≤ 268435456 := fun f hf => (h.each f hf).ldata
  have hfew := h.few
  rw [hW0]
  clear hW0
  refine wpIn_rangeFunc_ownG rfl h1 (gf := 73) (lb := #[.pointer (some ⟨w.heap.size + 1, 0, none⟩)]) rfl trivial (enters_of Try.func73 (by kernel_rfl) rfl)
    (all_stops (n - 1) (by omega) (w.heap.size + 1) D s.filesV s.fs W0 h.few hc1 hd0.cells.2.2 hd0.rowI) KpR.trans (KpR.putObj (fun g e => (hd0.files.lt g e).2)) (Below.refl _ _) (fun _ => rfl)
    (fun pre W => (W.cell? ⟨w.heap.size, 0, none⟩ = some (.int .i64 (sumLen pre)) ∧ W.frozen? ⟨w.heap.size, 0, none⟩ = false) ∧ Below w.heap.size w W)
    (fun _ _ _ => False)
    (OwnFrom.and (Own.from (fun s A B row hs hg hr => ⟨cell_kept hs.1 hg hr, (frozen_kept hs.1 hg hr).trans hs.2⟩) _) (ownFrom_below (Nat.le_refl _) (by omega)))
    (fun _ _ _ _ _ hs _ _ => hs)
    ⟨by simpa [sumLen] using hc0, hB0⟩
    (fun x => { tmps := #[.pointer (some ⟨D, 0, none⟩), undef, .int .i64 0, .pointer (some ⟨w.heap.size, 0, none⟩), ptrV x.1, .pointer (some ⟨D, 0, none⟩), .func (.func 73) #[] #[.pointer (some ⟨w.heap.size + 1, 0, none⟩)], ptrV x.1, undef, undef, undef, undef, undef, undef, undef, undef], defers := [] }) ?assign ?body ?done ?stop
  case assign =>
    intro l x W K hK
    gi_wp2
    exact hK
  case body =>
    rintro l pre x W ⟨⟨hc, hf⟩, hB⟩ hlt
    have hF := h.each x.1 x.2
    have hcd : W.cell? ⟨x.1.p, 3, none⟩ = some x.1.dataV := (hB.cell (p := ⟨x.1.p, 3, none⟩) (h.dom _ _ hF.rp)).trans (blk_cell hF.blk rfl)
    obtain ⟨av, cv, hv, _⟩ := own_slice hF.odata
    rw [hv] at hcd
    have hs1 := sumLen_le hlb pre
    have hs2 := hlb x.1 x.2
    have hs3 := sumLen_snoc pre x
    have HS : Hid (sumLen (pre ++ [x]) = sumLen pre + x.1.a.data.length) := hs3
    simp only [ptrV]
    clear hs3 hv hF
    have hs4 : sumLen pre ≤ 1099511627776 := by omega
    clear hs1
    have hwr : IntKind.i64.wrap ((sumLen pre : Int) + (x.1.a.data.length : Int)) = (sumLen (pre ++ [x]) : Int) := by rw [IntKind.wrap_i64, HS.out]; omega
    have hfg : ∀ g, s.filesV.ownBlock = some g → g ≠ w.heap.size := fun g e => by have := (h.files.lt g e).2; omega
    have HF : Hid (KeepsFrom W0.heap.size W (W.setCell ⟨w.heap.size, 0, none⟩ (.int .i64 (IntKind.i64.wrap ((sumLen pre : Int) + (x.1.a.data.length : Int))))).drew ∧ KpR s.filesV s.fs W (W.setCell ⟨w.heap.size, 0, none⟩ (.int .i64 (IntKind.i64.wrap ((sumLen pre : Int) + (x.1.a.data.length : Int))))).drew ∧
        ((W.setCell ⟨w.heap.size, 0, none⟩ (.int .i64 (IntKind.i64.wrap ((sumLen pre : Int) + (x.1.a.data.length : Int))))).drew.cell? ⟨w.heap.size, 0, none⟩ = some (.int .i64 (sumLen (pre ++ [x]))) ∧ (W.setCell ⟨w.heap.size, 0, none⟩ (.int .i64 (IntKind.i64.wrap ((sumLen pre : Int) + (x.1.a.data.length : Int))))).drew.frozen? ⟨w.heap.size, 0, none⟩ = false) ∧ Below w.heap.size w (W.setCell ⟨w.heap.size, 0, none⟩ (.int .i64 (IntKind.i64.wrap ((sumLen pre : Int) + (x.1.a.data.length : Int))))).drew) := by
      rw [hwr]
      refine ⟨((KeepsOthers.setCell W _ _).trans (KeepsOthers.drew _)).from _, KpR.of_same (fun g e => Below.heap_setCell W _ _ g (hfg g e)), ⟨?_, ?_⟩, (hB.setCell (p := ⟨w.heap.size, 0, none⟩) (Nat.le_refl _) _).drew⟩
      · exact World.cell?_setCell_same' _ _ _ (by rw [hc]; rfl)
      · exact (World.frozen?_setCell W _ _ _).trans hf
    clear hwr hfg
    gi_wp2
    gi_region
    all_goals gi_wp2
    all_goals exact HF.out
  case done =>
    rintro D' ys W hD rfl ⟨⟨hc, _⟩, hB⟩ hK
    gi_wp2
    refine ⟨by simp, .inl ⟨_, _, rfl, run_takeDeferred hK, ?_⟩⟩
    refine ⟨_, results_tmp rfl _ _ _, by rw [← sumLen_attach]; rfl, hB.trans (belowK_b (w := w) (Nat.le_refl _) W D' _ _ (by omega) hK rfl rfl)⟩
  case stop =>
    rintro D c pre W _ _ h _
    exact h.elim

end Go.Proofs.Ytcceaokldphfgaa

namespace Go.Proofs.Ytcceaokldphfgaa
open Go.RowKit Go.Shelf

theorem total_any {w : World} {role : Role} {D : Nat} {s : DSt} (h : DiskOK w role D s) :
    Calls Try.prog 77 #[.pointer (some ⟨D, 0, none⟩)] w fun e w' => e = .returned (.int .i64 (totalF s.fs)) ∧ Below w.heap.size w w' :=
  callsIn_wide.1 (total_in h 10 (by omega))

theorem totalF_le {w : World} {role : Role} {D : Nat} {s : DSt} (h : DiskOK w role D s) : totalF s.fs ≤ 1099511627776 := by
  have h1 := sumLen_le (fs := s.fs) (fun f hf => (h.each f hf).ldata) s.fs.attach
  rw [sumLen_attach] at h1
  have := h.few
  simp only [List.length_attach] at h1
  omega

/-- Whether there is no room for an operation that makes the data longer by that much. -/
def fullB (s : DSt) (more : Int) : Bool := decide (s.ops ∈ s.full) || (decide (0 < s.room) && decide (0 < more) && decide (s.room < totalF s.fs + more))

theorem DiskOK.drewN {w : World} {role : Role} {D : Nat} {s : DSt} (h : DiskOK w role D s) (nq : Nat) : DiskOK (w.drewN nq) role D s :=
  h.grown (row := none) ⟨rfl, rfl, rfl, Nat.le_refl _, fun _ _ _ => rfl⟩ (fun r e => by cases e)

set_option maxHeartbeats 1000000 in
set_option maxRecDepth 100000 in
theorem isFull_any {w : World} {role : Role} {D : Nat} {s : DSt} (h : DiskOK w role D s) (more : Int) (hm : -1099511627776 ≤ more ∧ more ≤ 1099511627776) :
    Calls Try.prog 60 #[.pointer (some ⟨D, 0, none⟩), .int .i64 more] w fun e w' => e = .returned (.bool (fullB s more)) ∧ Below w.heap.size w w' := by
  have hcf : w.cell? ⟨D, 5, none⟩ = some s.fullV := blk_cell h.blk rfl
  have hco : w.cell? ⟨D, 7, none⟩ = some (.int .i64 s.ops) := blk_cell h.blk rfl
  have hcr : w.cell? ⟨D, 6, none⟩ = some (.int .i64 s.room) := blk_cell h.blk rfl
  have hcon := fun nq => contains_any s.fullV s.full s.ops (w.drewN nq) ((h.drewN nq).full.rd) h.full.len
  have hiR := h.iR
  have htl := totalF_le h
  have HD : Hid (DiskOK w role D s) := h
  clear h
  obtain ⟨hm1, hm2⟩ := hm
  obtain ⟨hR1, hR2⟩ := hiR
  by_cases hin : s.ops ∈ s.full
  · have HF : Hid (fullB s more = true) := by show _ = _; simp [fullB, hin]
    have hd : decide (s.ops ∈ s.full) = true := by simp [hin]
    rw [hd] at hcon
    clear hin hd
    go_enter Try.func60, Try.ntmps60
    go_wp2
    go_quiet ((go_at_call 75; exact Calls.quiet_of_same (hcon _)))
    go_wp2
    go_ret
    exact ⟨by rw [HF.out]; rfl, below_drewN (Below.refl _ _) _⟩
  · have hd : decide (s.ops ∈ s.full) = false := by simp [hin]
    rw [hd] at hcon
    by_cases hr : 0 < s.room
    · have hr' : decide (0 < s.room) = true := by simp [hr]
      by_cases hmo : 0 < more
      · have hmo' : decide (0 < more) = true := by simp [hmo]
        have HF : Hid (fullB s more = decide (s.room < totalF s.fs + more)) := by show _ = _; simp [fullB, hin, hr, hmo]
        have hDlt : D < w.heap.size := HD.out.dom _ _ HD.out.rD
        have htot : ∀ nq, Calls Try.prog 77 #[.pointer (some ⟨D, 0, none⟩)] (w.drewN nq).drew fun e w' => e = .returned (.int .i64 (totalF s.fs)) ∧ w'.cell? ⟨D, 6, none⟩ = some (.int .i64 s.room) ∧ Below w.heap.size w w' := fun nq => by
          have hd2 : DiskOK (w.drewN nq).drew role D s := (HD.out.drewN nq).grown (row := none) ⟨rfl, rfl, rfl, Nat.le_refl _, fun _ _ _ => rfl⟩ (fun r e => by cases e)
          refine (total_any hd2).mono ?_
          rintro e w' ⟨rfl, hb⟩
          have hb' : Below w.heap.size w w' := ⟨hb.os, hb.tape, hb.output, hb.size, hb.block⟩
          exact ⟨rfl, (hb'.cell (p := ⟨D, 6, none⟩) hDlt).trans hcr, hb'⟩
        have HT : Hid (∀ nq, Calls Try.prog 77 #[.pointer (some ⟨D, 0, none⟩)] (w.drewN nq).drew fun e w' => e = .returned (.int .i64 (totalF s.fs)) ∧ w'.cell? ⟨D, 6, none⟩ = some (.int .i64 s.room) ∧ Below w.heap.size w w') := htot
        clear htot
        clear hin hd
        go_enter Try.func60, Try.ntmps60
        go_wp2
        go_quiet ((go_at_call 75; exact Calls.quiet_of_same (hcon _)))
        go_wp2
        go_region_held3 (fun w' => w'.cell? ⟨D, 6, none⟩ = some (.int .i64 s.room)) (go_keep) (first | (go_at_call 77; refine (HT.out _).mono ?_; rintro e w1 ⟨rfl, hc1, hb1⟩))
        have hwr : IntKind.i64.wrap ((totalF s.fs : Int) + more) = (totalF s.fs : Int) + more := by rw [IntKind.wrap_i64]; omega
        rw [hwr]
        have HB : Hid (Below w.heap.size w w1) := hb1
        clear hwr hb1 hc1
        go_wp2
        go_ret
        exact ⟨by rw [HF.out]; rfl, HB.out⟩
      · have hmo' : decide (0 < more) = false := by simp [hmo]
        have HF : Hid (fullB s more = false) := by show _ = _; simp [fullB, hin, hmo]
        clear hin hd hr'
        go_enter Try.func60, Try.ntmps60
        go_wp2
        go_quiet ((go_at_call 75; exact Calls.quiet_of_same (hcon _)))
        go_wp2
        go_quiet (fail)
        go_wp2
        go_ret
        exact ⟨by rw [HF.out]; rfl, below_drewN (below_drewN (Below.refl _ _) _) _⟩
    · have hr' : decide (0 < s.room) = false := by simp [hr]
      have HF : Hid (fullB s more = false) := by show _ = _; simp [fullB, hin, hr]
      clear hin hd
      go_enter Try.func60, Try.ntmps60
      go_wp2
      go_quiet ((go_at_call 75; exact Calls.quiet_of_same (hcon _)))
      go_wp2
      go_quiet (fail)
      go_wp2
      go_ret
      exact ⟨by rw [HF.out]; rfl, below_drewN (below_drewN (Below.refl _ _) _) _⟩

end Go.Proofs.Ytcceaokldphfgaa

namespace Go.Proofs.Ytcceaokldphfgaa
open Go.RowKit

theorem own_isC {w : World} {e n k : Nat} {v : Value} {xs : List Value} (h : w.ownsRow 0 e 1 v n xs) (hv : v.ownBlock = some k) : isC w k := by
  rcases h.2 with ⟨rfl, _⟩ | ⟨g, cap, cur, rfl, _, hg, _⟩
  · simp [Value.ownBlock] at hv
  · simp only [Value.ownBlock, Option.some.injEq] at hv
    subst hv
    exact ⟨_, _, _, hg⟩

theorem nchs_keep_le {fs : List FRep} {i : Nat} {f f' : FRep} {o : Int} (hi : fs[i]? = some f) (he : f'.a.chs.length = f.a.chs.length) (h : (nchs fs : Int) ≤ o) : (nchs (fs.set i f') : Int) ≤ o := by
  have := nchs_set (f' := f') hi
  omega

theorem nchs_more_le {fs : List FRep} {i n : Nat} {f f' : FRep} {o : Int} (hi : fs[i]? = some f) (he : f'.a.chs.length = n) (h : (nchs fs : Int) + n ≤ o + f.a.chs.length) : (nchs (fs.set i f') : Int) ≤ o := by
  have := nchs_set (f' := f') hi
  omega

theorem DiskOK.putSafe {w w1 : World} {role : Role} {D i : Nat} {s : DSt} {f : FRep} {v : Value} {xs : List UInt8} (h : DiskOK w role D s) (hi : s.fs[i]? = some f) (hg : Grew w w1 f.safeV v) (ho : w1.ownsRow 0 5 1 v xs.length (xs.map byteV)) (hx : xs.length ≤ 268435456) :
    DiskOK (w1.setCell ⟨f.p, 1, none⟩ v) (extR role w (w1.setCell ⟨f.p, 1, none⟩ v) (3, f.p)) D { s with fs := s.fs.set i { f with safeV := v, a := { f.a with safe := xs } } } ∧
      Stp role (extR role w (w1.setCell ⟨f.p, 1, none⟩ v) (3, f.p)) w (w1.setCell ⟨f.p, 1, none⟩ v) := by
  have hF := h.each f (List.mem_of_getElem? hi)
  obtain ⟨h1, h2⟩ := hF.setSafe h.dom hg ho hx
  have hz : (w1.setCell ⟨f.p, 1, none⟩ v).heap.size = w1.heap.size := by simp [World.setCell]
  have hzz : w.heap.size ≤ (w1.setCell ⟨f.p, 1, none⟩ v).heap.size := by rw [hz]; exact hg.by_.size
  refine ⟨h.put hi rfl rfl (nchs_keep_le hi rfl h.nch) hzz h2 (fun k q e => extR_old h.dom k q e) (fun k q e => extR_dom hzz k q e) h1, ?_⟩
  refine ⟨hg.by_.os, hg.by_.tape, hg.by_.output, hzz, fun k hk => by unfold extR; rw [if_pos hk], fun k hk hn => ?_, fun k hk hn => ?_⟩
  · have hpn : k ≠ f.p := fun e => by subst e; rw [hF.rp] at hn; simp at hn
    refine (Below.heap_setCell w1 _ v k hpn).trans (hg.by_.block k hk (fun e => ?_))
    have := hF.rsafe k e.symm
    rw [this] at hn
    simp at hn
  · have hpn : k ≠ f.p := fun e => hn (by subst e; exact ⟨_, _, _, hF.blk⟩)
    refine (Below.heap_setCell w1 _ v k hpn).trans (hg.by_.block k hk (fun e => hn ?_))
    exact own_isC (hF.osafe) e.symm

theorem DiskOK.putData {w w1 : World} {role : Role} {D i : Nat} {s : DSt} {f : FRep} {v : Value} {xs : List UInt8} (h : DiskOK w role D s) (hi : s.fs[i]? = some f) (hg : Grew w w1 f.dataV v) (ho : w1.ownsRow 0 5 1 v xs.length (xs.map byteV)) (hx : xs.length ≤ 268435456) :
    DiskOK (w1.setCell ⟨f.p, 3, none⟩ v) (extR role w (w1.setCell ⟨f.p, 3, none⟩ v) (4, f.p)) D { s with fs := s.fs.set i { f with dataV := v, a := { f.a with data := xs } } } ∧
      Stp role (extR role w (w1.setCell ⟨f.p, 3, none⟩ v) (4, f.p)) w (w1.setCell ⟨f.p, 3, none⟩ v) := by
  have hF := h.each f (List.mem_of_getElem? hi)
  obtain ⟨h1, h2⟩ := hF.setData h.dom hg ho hx
  have hz : (w1.setCell ⟨f.p, 3, none⟩ v).heap.size = w1.heap.size := by simp [World.setCell]
  have hzz : w.heap.size ≤ (w1.setCell ⟨f.p, 3, none⟩ v).heap.size := by rw [hz]; exact hg.by_.size
  refine ⟨h.put hi rfl rfl (nchs_keep_le hi rfl h.nch) hzz h2 (fun k q e => extR_old h.dom k q e) (fun k q e => extR_dom hzz k q e) h1, ?_⟩
  refine ⟨hg.by_.os, hg.by_.tape, hg.by_.output, hzz, fun k hk => by unfold extR; rw [if_pos hk], fun k hk hn => ?_, fun k hk hn => ?_⟩
  · have hpn : k ≠ f.p := fun e => by subst e; rw [hF.rp] at hn; simp at hn
    refine (Below.heap_setCell w1 _ v k hpn).trans (hg.by_.block k hk (fun e => ?_))
    have := hF.rdata k e.symm
    rw [this] at hn
    simp at hn
  · have hpn : k ≠ f.p := fun e => hn (by subst e; exact ⟨_, _, _, hF.blk⟩)
    refine (Below.heap_setCell w1 _ v k hpn).trans (hg.by_.block k hk (fun e => hn ?_))
    exact own_isC (hF.odata) e.symm

theorem DiskOK.putChs {w w1 : World} {role : Role} {D i : Nat} {s : DSt} {f : FRep} {v : Value} {cs : List Chg} {vals : List Value} (h : DiskOK w role D s) (hi : s.fs[i]? = some f) (hg : Grew w w1 f.chV v) (ho : w1.ownsRow 0 119 1 v cs.length vals) (hx : ∀ (j : Nat) (c : Chg), cs[j]? = some c → ∃ u, vals[j]? = some u ∧ ChgAt w role c u) (hn : (nchs s.fs : Int) + cs.length ≤ s.ops + f.a.chs.length) :
    DiskOK (w1.setCell ⟨f.p, 2, none⟩ v) (extR role w (w1.setCell ⟨f.p, 2, none⟩ v) (5, f.p)) D { s with fs := s.fs.set i { f with chV := v, a := { f.a with chs := cs } } } ∧
      Stp role (extR role w (w1.setCell ⟨f.p, 2, none⟩ v) (5, f.p)) w (w1.setCell ⟨f.p, 2, none⟩ v) := by
  have hF := h.each f (List.mem_of_getElem? hi)
  obtain ⟨h1, h2⟩ := hF.setChs h.dom hg ho hx
  have hz : (w1.setCell ⟨f.p, 2, none⟩ v).heap.size = w1.heap.size := by simp [World.setCell]
  have hzz : w.heap.size ≤ (w1.setCell ⟨f.p, 2, none⟩ v).heap.size := by rw [hz]; exact hg.by_.size
  refine ⟨h.put hi rfl rfl (nchs_more_le hi rfl hn) hzz h2 (fun k q e => extR_old h.dom k q e) (fun k q e => extR_dom hzz k q e) h1, ?_⟩
  refine ⟨hg.by_.os, hg.by_.tape, hg.by_.output, hzz, fun k hk => by unfold extR; rw [if_pos hk], fun k hk hn => ?_, fun k hk hn => ?_⟩
  · have hpn : k ≠ f.p := fun e => by subst e; rw [hF.rp] at hn; simp at hn
    refine (Below.heap_setCell w1 _ v k hpn).trans (hg.by_.block k hk (fun e => ?_))
    have := hF.rch k e.symm
    rw [this] at hn
    simp at hn
  · have hpn : k ≠ f.p := fun e => hn (by subst e; exact ⟨_, _, _, hF.blk⟩)
    refine (Below.heap_setCell w1 _ v k hpn).trans (hg.by_.block k hk (fun e => hn ?_))
    exact own_isC (hF.och.choose_spec.1) e.symm

/-- A field of the disk itself is stored. -/
theorem DiskOK.setHead {w : World} {role : Role} {D o : Nat} {s s' : DSt} {v : Value} (h : DiskOK w role D s) (hv : #[Value.bool true, .bool s'.dead, .int .i64 s'.crash, s'.keepV, s'.failV, s'.fullV, .int .i64 s'.room, .int .i64 s'.ops, s'.filesV] = #[Value.bool true, .bool s.dead, .int .i64 s.crash, s.keepV, s.failV, s.fullV, .int .i64 s.room, .int .i64 s.ops, s.filesV].setIfInBounds o v)
    (e1 : s'.keep = s.keep ∧ s'.fail = s.fail ∧ s'.full = s.full ∧ s'.fs = s.fs) (e2 : s'.keepV = s.keepV ∧ s'.failV = s.failV ∧ s'.fullV = s.fullV ∧ s'.filesV = s.filesV) (hC : I64 s'.crash) (hR : I64 s'.room) (hO : 0 ≤ s'.ops ∧ s'.ops ≤ 1099511627776) (hN : (nchs s.fs : Int) ≤ s'.ops) :
    DiskOK (w.setCell ⟨D, o, none⟩ v) role D s' ∧ Stp role role w (w.setCell ⟨D, o, none⟩ v) := by
  have hz : (w.setCell ⟨D, o, none⟩ v).heap.size = w.heap.size := by simp [World.setCell]
  have hs : ∀ k q, role k = some q → q ≠ (0, D) → (w.setCell ⟨D, o, none⟩ v).heap[k]? = w.heap[k]? := fun k q e hq => Below.heap_setCell w _ v k (fun e' => by
    have : k = D := e'
    subst this
    rw [h.rD] at e
    cases e
    exact hq rfl)
  have hF : ∀ f ∈ s.fs, FileOK (w.setCell ⟨D, o, none⟩ v) role f := fun f hf => (h.each f hf).kept (fun k hk _ => by
    rcases hk with ⟨i, hk⟩ | hk
    · refine hs k _ hk (fun e => ?_)
      simp only [Prod.mk.injEq] at e
      have h1 := (h.each f hf).rp
      rw [e.2, h.rD] at h1
      simp at h1
    · exact hs k _ hk (by simp)) (fun _ _ e => e)
  have h6 : ∀ k, role k = some (6, 0) → isC w k → (w.setCell ⟨D, o, none⟩ v).heap[k]? = w.heap[k]? := fun k e _ => hs k _ e (by simp)
  refine ⟨?_, ?_⟩
  · obtain ⟨a1, a2, a3, a4⟩ := e1
    obtain ⟨b1, b2, b3, b4⟩ := e2
    have hle : w.heap.size ≤ (w.setCell ⟨D, o, none⟩ v).heap.size := by omega
    exact {
      rD := h.rD
      blk := by rw [hv]; exact blk_set h.blk v
      keep := by rw [b1, a1]; exact h.keep.same hle h6 (fun _ e => e)
      fail := by rw [b2, a2]; exact h.fail.same hle h6 (fun _ e => e)
      full := by rw [b3, a3]; exact h.full.same hle h6 (fun _ e => e)
      files := by rw [b4, a4]; exact own_same h.files (fun k e _ => hs k _ (h.rfiles k e) (by simp))
      rfiles := by rw [b4]; exact h.rfiles
      each := by rw [a4]; exact hF
      nodup := by rw [a4]; exact h.nodup
      sorted := by rw [a4]; exact h.sorted
      dom := fun k q e => by rw [hz]; exact h.dom k q e
      few := by rw [a4]; exact h.few
      iC := hC
      iR := hR
      iO := hO
      nch := by rw [a4]; exact hN }
  · refine ⟨rfl, rfl, rfl, by omega, fun _ _ => rfl, fun k _ hn => Below.heap_setCell w _ v k (fun e' => ?_), fun k _ hn => Below.heap_setCell w _ v k (fun e' => hn ?_)⟩
    · have : k = D := e'
      subst this
      rw [h.rD] at hn
      simp at hn
    · have : k = D := e'
      subst this
      exact ⟨_, _, _, h.blk⟩

end Go.Proofs.Ytcceaokldphfgaa
