/- YtcceaokldphfgaaDiskTwinsC10 -/
import Derived.Test.YtcceaokldphfgaaDiskTwinsC06
namespace Go.Proofs.Ytcceaokldphfgaa
open Go.RowKit

theorem own_isC {w : World} {e n k : Nat} {v : Value} {xs : List Value} (h : w.ownsRow 0 e 1 v n xs) (hv : v.ownBlock = some k) : isC w k := by
  rcases h.2 with ⟨rfl, _⟩ | ⟨g, cap, cur, rfl, _, hg, _⟩
  · simp [Value.ownBlock] at hv
  · simp only [Value.ownBlock, Option.some.injEq] at hv
    subst hv
    exact ⟨_, _, _, hg⟩

theorem nchs_keep_le {fs : List FRep} {i : Nat} {f f' : FRep} {o : Int} (hi : fs[i]? = some f) (he : f'.a.chs.length = f.a.chs.length) (h : (nchs fs : Int) ≤ o) : (nchs (fs.set i f') : Int) ≤ o := by
  have := nchs_set (f' := f') hi
  omega

theorem nchs_more_le {fs : List FRep} {i n : Nat} {f f' : FRep} {o : Int} (hi : fs[i]? = some f) (he : f'.a.chs.length = n) (h : (nchs fs : Int) + n ≤ o + f.a.chs.length) : (nchs (fs.set i f') : Int) ≤ o := by
  have := nchs_set (f' := f') hi
  omega

theorem DiskOK.putSafe {w w1 : World} {role : Role} {D i : Nat} {s : DSt} {f : FRep} {v : Value} {xs : List UInt8} (h : DiskOK w role D s) (hi : s.fs[i]? = some f) (hg : Grew w w1 f.safeV v) (ho : w1.ownsRow 0 5 1 v xs.length (xs.map byteV)) (hx : xs.length ≤ 268435456) :
    DiskOK (w1.setCell ⟨f.p, 1, none⟩ v) (extR role w (w1.setCell ⟨f.p, 1, none⟩ v) (3, f.p)) D { s with fs := s.fs.set i { f with safeV := v, a := { f.a with safe := xs } } } ∧
      Stp role (extR role w (w1.setCell ⟨f.p, 1, none⟩ v) (3, f.p)) w (w1.setCell ⟨f.p, 1, none⟩ v) := by
  have hF := h.each f (List.mem_of_getElem? hi)
  obtain ⟨h1, h2⟩ := hF.setSafe h.dom hg ho hx
  have hz : (w1.setCell ⟨f.p, 1, none⟩ v).heap.size = w1.heap.size := by simp [World.setCell]
  have hzz : w.heap.size ≤ (w1.setCell ⟨f.p, 1, none⟩ v).heap.size := by rw [hz]; exact hg.by_.size
  refine ⟨h.put hi rfl rfl (nchs_keep_le hi rfl h.nch) hzz h2 (fun k q e => extR_old h.dom k q e) (fun k q e => extR_dom hzz k q e) h1, ?_⟩
  refine ⟨hg.by_.os, hg.by_.tape, hg.by_.output, hzz, fun k hk => by unfold extR; rw [if_pos hk], fun k hk hn => ?_, fun k hk hn => ?_⟩
  · have hpn : k ≠ f.p := fun e => by subst e; rw [hF.rp] at hn; simp at hn
    refine (Below.heap_setCell w1 _ v k hpn).trans (hg.by_.block k hk (fun e => ?_))
    have := hF.rsafe k e.symm
    rw [this] at hn
    simp at hn
  · have hpn : k ≠ f.p := fun e => hn (by subst e; exact ⟨_, _, _, hF.blk⟩)
    refine (Below.heap_setCell w1 _ v k hpn).trans (hg.by_.block k hk (fun e => hn ?_))
    exact own_isC (hF.osafe) e.symm

theorem DiskOK.putData {w w1 : World} {role : Role} {D i : Nat} {s : DSt} {f : FRep} {v : Value} {xs : List UInt8} (h : DiskOK w role D s) (hi : s.fs[i]? = some f) (hg : Grew w w1 f.dataV v) (ho : w1.ownsRow 0 5 1 v xs.length (xs.map byteV)) (hx : xs.length ≤ 268435456) :
    DiskOK (w1.setCell ⟨f.p, 3, none⟩ v) (extR role w (w1.setCell ⟨f.p, 3, none⟩ v) (4, f.p)) D { s with fs := s.fs.set i { f with dataV := v, a := { f.a with data := xs } } } ∧
      Stp role (extR role w (w1.setCell ⟨f.p, 3, none⟩ v) (4, f.p)) w (w1.setCell ⟨f.p, 3, none⟩ v) := by
  have hF := h.each f (List.mem_of_getElem? hi)
  obtain ⟨h1, h2⟩ := hF.setData h.dom hg ho hx
  have hz : (w1.setCell ⟨f.p, 3, none⟩ v).heap.size = w1.heap.size := by simp [World.setCell]
  have hzz : w.heap.size ≤ (w1.setCell ⟨f.p, 3, none⟩ v).heap.size := by rw [hz]; exact hg.by_.size
  refine ⟨h.put hi rfl rfl (nchs_keep_le hi rfl h.nch) hzz h2 (fun k q e => extR_old h.dom k q e) (fun k q e => extR_dom hzz k q e) h1, ?_⟩
  refine ⟨hg.by_.os, hg.by_.tape, hg.by_.output, hzz, fun k hk => by unfold extR; rw [if_pos hk], fun k hk hn => ?_, fun k hk hn => ?_⟩
  · have hpn : k ≠ f.p := fun e => by subst e; rw [hF.rp] at hn; simp at hn
    refine (Below.heap_setCell w1 _ v k hpn).trans (hg.by_.block k hk (fun e => ?_))
    have := hF.rdata k e.symm
    rw [this] at hn
    simp at hn
  · have hpn : k ≠ f.p := fun e => hn (by subst e; exact ⟨_, _, _, hF.blk⟩)
    refine (Below.heap_setCell w1 _ v k hpn).trans (hg.by_.block k hk (fun e => hn ?_))
    exact own_isC (hF.odata) e.symm

theorem DiskOK.putChs {w w1 : World} {role : Role} {D i : Nat} {s : DSt} {f : FRep} {v : Value} {cs : List Chg} {vals : List Value} (h : DiskOK w role D s) (hi : s.fs[i]? = some f) (hg : Grew w w1 f.chV v) (ho : w1.ownsRow 0 119 1 v cs.length vals) (hx : ∀ (j : Nat) (c : Chg), cs[j]? = some c → ∃ u, vals[j]? = some u ∧ ChgAt w role c u) (hn : (nchs s.fs : Int) + cs.length ≤ s.ops + f.a.chs.length) :
    DiskOK (w1.setCell ⟨f.p, 2, none⟩ v) (extR role w (w1.setCell ⟨f.p, 2, none⟩ v) (5, f.p)) D { s with fs := s.fs.set i { f with chV := v, a := { f.a with chs := cs } } } ∧
      Stp role (extR role w (w1.setCell ⟨f.p, 2, none⟩ v) (5, f.p)) w (w1.setCell ⟨f.p, 2, none⟩ v) := by
  have hF := h.each f (List.mem_of_getElem? hi)
  obtain ⟨h1, h2⟩ := hF.setChs h.dom hg ho hx
  have hz : (w1.setCell ⟨f.p, 2, none⟩ v).heap.size = w1.heap.size := by simp [World.setCell]
  have hzz : w.heap.size ≤ (w1.setCell ⟨f.p, 2, none⟩ v).heap.size := by rw [hz]; exact hg.by_.size
  refine ⟨h.put hi rfl rfl (nchs_more_le hi rfl hn) hzz h2 (fun k q e => extR_old h.dom k q e) (fun k q e => extR_dom hzz k q e) h1, ?_⟩
  refine ⟨hg.by_.os, hg.by_.tape, hg.by_.output, hzz, fun k hk => by unfold extR; rw [if_pos hk], fun k hk hn => ?_, fun k hk hn => ?_⟩
  · have hpn : k ≠ f.p := fun e => by subst e; rw [hF.rp] at hn; simp at hn
    refine (Below.heap_setCell w1 _ v k hpn).trans (hg.by_.block k hk (fun e => ?_))
    have := hF.rch k e.symm
    rw [this] at hn
    simp at hn
  · have hpn : k ≠ f.p := fun e => hn (by subst e; exact ⟨_, _, _, hF.blk⟩)
    refine (Below.heap_setCell w1 _ v k hpn).trans (hg.by_.block k hk (fun e => hn ?_))
    exact own_isC (hF.och.choose_spec.1) e.symm

/-- A field of the disk itself is stored. -/
theorem DiskOK.setHead {w : World} {role : Role} {D o : Nat} {s s' : DSt} {v : Value} (h : DiskOK w role D s) (hv : #[Value.bool true, .bool s'.dead, .int .i64 s'.crash, s'.keepV, s'.failV, s'.fullV, .int .i64 s'.room, .int .i64 s'.ops, s'.filesV] = #[Value.bool true, .bool s.dead, .int .i64 s.crash, s.keepV, s.failV, s.fullV, .int .i64 s.room, .int .i64 s.ops, s.filesV].setIfInBounds o v)
    (e1 : s'.keep = s.keep ∧ s'.fail = s.fail ∧ s'.full = s.full ∧ s'.fs = s.fs) (e2 : s'.keepV = s.keepV ∧ s'.failV = s.failV ∧ s'.fullV = s.fullV ∧ s'.filesV = s.filesV) (hC : I64 s'.crash) (hR : I64 s'.room) (hO : 0 ≤ s'.ops ∧ s'.ops ≤ 1099511627776) (hN : (nchs s.fs : Int) ≤ s'.ops) :
    DiskOK (w.setCell ⟨D, o, none⟩ v) role D s' ∧ Stp role role w (w.setCell ⟨D, o, none⟩ v) := by
  have hz : (w.setCell ⟨D, o, none⟩ v).heap.size = w.heap.size := by simp [World.setCell]
  have hs : ∀ k q, role k = some q → q ≠ (0, D) → (w.setCell ⟨D, o, none⟩ v).heap[k]? = w.heap[k]? := fun k q e hq => Below.heap_setCell w _ v k (fun e' => by
    have : k = D := e'
    subst this
    rw [h.rD] at e
    cases e
    exact hq rfl)
  have hF : ∀ f ∈ s.fs, FileOK (w.setCell ⟨D, o, none⟩ v) role f := fun f hf => (h.each f hf).kept (fun k hk _ => by
    rcases hk with ⟨i, hk⟩ | hk
    · refine hs k _ hk (fun e => ?_)
      simp only [Prod.mk.injEq] at e
      have h1 := (h.each f hf).rp
      rw [e.2, h.rD] at h1
      simp at h1
    · exact hs k _ hk (by simp)) (fun _ _ e => e)
  have h6 : ∀ k, role k = some (6, 0) → isC w k → (w.setCell ⟨D, o, none⟩ v).heap[k]? = w.heap[k]? := fun k e _ => hs k _ e (by simp)
  refine ⟨?_, ?_⟩
  · obtain ⟨a1, a2, a3, a4⟩ := e1
    obtain ⟨b1, b2, b3, b4⟩ := e2
    have hle : w.heap.size ≤ (w.setCell ⟨D, o, none⟩ v).heap.size := by omega
    exact {
      rD := h.rD
      blk := by rw [hv]; exact blk_set h.blk v
      keep := by rw [b1, a1]; exact h.keep.same hle h6 (fun _ e => e)
      fail := by rw [b2, a2]; exact h.fail.same hle h6 (fun _ e => e)
      full := by rw [b3, a3]; exact h.full.same hle h6 (fun _ e => e)
      files := by rw [b4, a4]; exact own_same h.files (fun k e _ => hs k _ (h.rfiles k e) (by simp))
      rfiles := by rw [b4]; exact h.rfiles
      each := by rw [a4]; exact hF
      nodup := by rw [a4]; exact h.nodup
      sorted := by rw [a4]; exact h.sorted
      dom := fun k q e => by rw [hz]; exact h.dom k q e
      few := by rw [a4]; exact h.few
      iC := hC
      iR := hR
      iO := hO
      nch := by rw [a4]; exact hN }
  · refine ⟨rfl, rfl, rfl, by omega, fun _ _ => rfl, fun k _ hn => Below.heap_setCell w _ v k (fun e' => ?_), fun k _ hn => Below.heap_setCell w _ v k (fun e' => hn ?_)⟩
    · have : k = D := e'
      subst this
      rw [h.rD] at hn
      simp at hn
    · have : k = D := e'
      subst this
      exact ⟨_, _, _, h.blk⟩

end Go.Proofs.Ytcceaokldphfgaa
