/- YtcceaokldphfgaaDiskDoesC28 -/
import Derived.Test.YtcceaokldphfgaaDiskDoesC27
import Derived.Test.YtcceaokldphfgaaDiskDoesC25
namespace Go.Proofs.Ytcceaokldphfgaa
open Go.RowKit Go.Shelf

/-- A disk in memory, whatever its files' order and its changes' number. -/
structure Bare (w : World) (role : Role) (D : Nat) (s : DSt) : Prop where
  rD : role D = some (0, D)
  blk : w.heap[D]? = some (.cells #[.bool true, .bool s.dead, .int .i64 s.crash, s.keepV, s.failV, s.fullV, .int .i64 s.room, .int .i64 s.ops, s.filesV] 51 (0, 0))
  keep : PlanOK w role s.keepV s.keep
  fail : PlanOK w role s.failV s.fail
  full : PlanOK w role s.fullV s.full
  files : w.ownsRow 0 82 1 s.filesV s.fs.length (s.fs.map ptrV)
  rfiles : ∀ g, s.filesV.ownBlock = some g → role g = some (1, D)
  each : ∀ f ∈ s.fs, FileOK w role f
  nodup : (s.fs.map (·.p)).Nodup
  dom : ∀ k q, role k = some q → k < w.heap.size

theorem Bare.kept {w w' : World} {role role' : Role} {D : Nat} {s : DSt} (h : Bare w role D s) (hz : w.heap.size ≤ w'.heap.size)
    (hs : ∀ k q, role k = some q → isC w k → w'.heap[k]? = w.heap[k]?) (hr : ∀ k q, role k = some q → role' k = some q) (hd : ∀ k q, role' k = some q → k < w'.heap.size) : Bare w' role' D s where
  rD := hr _ _ h.rD
  blk := (hs _ _ h.rD ⟨_, _, _, h.blk⟩).trans h.blk
  keep := h.keep.same hz (fun k e => hs k _ e) (fun k e => hr k _ e)
  fail := h.fail.same hz (fun k e => hs k _ e) (fun k e => hr k _ e)
  full := h.full.same hz (fun k e => hs k _ e) (fun k e => hr k _ e)
  files := own_same h.files (fun k e => hs k _ (h.rfiles k e))
  rfiles := fun g e => hr _ _ (h.rfiles g e)
  each := fun f hf => (h.each f hf).kept (fun k hk => by rcases hk with ⟨i, hk⟩ | hk <;> exact hs k _ hk) hr
  nodup := h.nodup
  dom := hd

/-- The files' row is another one. -/
theorem Bare.putRow {w w1 : World} {role : Role} {D : Nat} {s : DSt} {v : Value} (h : Bare w role D s) (hg : Grew w w1 s.filesV v) (fs' : List FRep) (ho : w1.ownsRow 0 82 1 v fs'.length (fs'.map ptrV)) (hf : ∀ f ∈ fs', FileOK w role f) (hnd : (fs'.map (·.p)).Nodup) :
    Bare (w1.setCell ⟨D, 8, none⟩ v) (extR role w (w1.setCell ⟨D, 8, none⟩ v) (1, D)) D { s with filesV := v, fs := fs' } ∧ ∀ k, k < w.heap.size → k ≠ D → s.filesV.ownBlock ≠ some k → (w1.setCell ⟨D, 8, none⟩ v).heap[k]? = w.heap[k]? := by
  have hz : (w1.setCell ⟨D, 8, none⟩ v).heap.size = w1.heap.size := by simp [World.setCell]
  have hzz := hg.by_.size
  have hsame : ∀ k, k < w.heap.size → k ≠ D → s.filesV.ownBlock ≠ some k → (w1.setCell ⟨D, 8, none⟩ v).heap[k]? = w.heap[k]? := fun k hk h1 h2 => (Below.heap_setCell w1 _ v k h1).trans (hg.by_.block k hk (fun e => h2 e.symm))
  have hr : ∀ k q, role k = some q → extR role w (w1.setCell ⟨D, 8, none⟩ v) (1, D) k = some q := fun k q e => by unfold extR; rw [if_pos (h.dom k q e)]; exact e
  have hDf : s.filesV.ownBlock ≠ some D := fun e => by have := h.rfiles D e; rw [h.rD] at this; simp at this
  have hvD : v.ownBlock ≠ some D := fun e => by
    rcases hg.at_ D e with h1 | h1
    · exact hDf h1
    · have := h.dom _ _ h.rD; omega
  have hb1 : w1.heap[D]? = some (.cells #[.bool true, .bool s.dead, .int .i64 s.crash, s.keepV, s.failV, s.fullV, .int .i64 s.room, .int .i64 s.ops, s.filesV] 51 (0, 0)) :=
    (hg.by_.block D (h.dom _ _ h.rD) (fun e => hDf e.symm)).trans h.blk
  have hoth : ∀ k q, role k = some q → q ≠ (0, D) → q ≠ (1, D) → (w1.setCell ⟨D, 8, none⟩ v).heap[k]? = w.heap[k]? := fun k q e h0 h1 => hsame k (h.dom k q e) (fun e' => by subst e'; rw [h.rD] at e; exact h0 (Option.some.inj e).symm) (fun e' => by rw [h.rfiles k e'] at e; exact h1 (Option.some.inj e).symm)
  have h6 : ∀ k, role k = some (6, 0) → (w1.setCell ⟨D, 8, none⟩ v).heap[k]? = w.heap[k]? := fun k e => hoth k _ e (by simp) (by simp)
  refine ⟨?_, hsame⟩
  exact {
    rD := hr _ _ h.rD
    blk := blk_set hb1 v
    keep := h.keep.same (by omega) (fun k e _ => h6 k e) (fun k e => hr k _ e)
    fail := h.fail.same (by omega) (fun k e _ => h6 k e) (fun k e => hr k _ e)
    full := h.full.same (by omega) (fun k e _ => h6 k e) (fun k e => hr k _ e)
    files := own_same ho (fun k e _ => Below.heap_setCell w1 _ v k (fun e' => hvD (by rw [e]; exact congrArg some e')))
    rfiles := by
      intro g e
      rcases hg.at_ g e with h1 | h1
      · exact hr _ _ (h.rfiles g h1)
      · exact extR_new h1 (by rw [hz]; exact (ho.lt g e).2)
    each := fun f hf' => by
      have hF := hf f hf'
      have hne : f.p ≠ D := fun e => by
        have := hF.rp
        rw [e, h.rD] at this
        simp at this
      refine hF.kept (fun k hk _ => ?_) hr
      rcases hk with ⟨i, hk⟩ | hk
      · exact hoth k _ hk (fun e => hne (by simpa using congrArg Prod.snd e)) (fun e => hne (by simpa using congrArg Prod.snd e))
      · exact h6 k hk
    nodup := hnd
    dom := fun k q e => extR_dom (by omega) k q e }

/-- A disk's clone under way: so many files are there. -/
structure CloneD (w : World) (s : DSt) (T B : Nat) (pre : List (Of s.fs)) (W : World) : Prop where
  ex : ∃ role' s', Bare W role' T s' ∧ NewR w W role' ∧ role' B = some (6, 0) ∧ W.heap[B]? = some (.cells #[.pointer (some ⟨T, 0, none⟩)] 29 (0, 0)) ∧ abs s' = { abs s with fs := pre.map (·.1.a) }
  below : Below w.heap.size w W

/-- The clone is a disk. -/
theorem CloneD.disk {w W : World} {role : Role} {D T B : Nat} {s : DSt} (h : CloneD w s T B s.fs.attach W) (hd : DiskOK w role D s) : ∃ role' s', DiskOK W role' T s' ∧ NewR w W role' ∧ abs s' = abs s := by
  obtain ⟨role', s', hb, hn, _, _, ha⟩ := h.ex
  have hfs : s'.fs.map (·.a) = s.fs.map (·.a) := by
    have := congrArg ASt.fs ha
    simp only [abs] at this
    rw [this]
    conv => rhs; rw [← List.attach_map_subtype_val s.fs]
    rw [List.map_map]
    rfl
  have hlen : s'.fs.length = s.fs.length := by simpa using congrArg List.length hfs
  have ha' : abs s' = abs s := by
    rw [ha]
    have h1 : s'.fs.map (·.a) = s.fs.attach.map (·.1.a) := congrArg ASt.fs ha
    have h2 : s.fs.attach.map (·.1.a) = (abs s).fs := h1.symm.trans hfs
    rw [h2]
  refine ⟨role', s', ?_, hn, ha'⟩
  have e1 : s'.crash = s.crash := congrArg ASt.crash ha'
  have e2 : s'.room = s.room := congrArg ASt.room ha'
  have e3 : s'.ops = s.ops := congrArg ASt.ops ha'
  exact {
    rD := hb.rD, blk := hb.blk, keep := hb.keep, fail := hb.fail, full := hb.full, files := hb.files, rfiles := hb.rfiles, each := hb.each, nodup := hb.nodup
    sorted := by
      have h1 : (s.fs.map (·.a)).Pairwise (fun f g => cmpS f.name g.name < 0) := List.pairwise_map.2 hd.sorted
      rw [← hfs] at h1
      exact List.pairwise_map.1 h1
    dom := hb.dom
    few := by rw [hlen]; exact hd.few
    iC := by rw [e1]; exact hd.iC
    iR := by rw [e2]; exact hd.iR
    iO := by rw [e3]; exact hd.iO
    nch := by
      have h1 : nchs s'.fs = nchs s.fs := by
        have h2 := congrArg (fun L => (L.map (fun f : AFile => f.chs.length)).sum) hfs
        simp only [List.map_map] at h2
        exact h2
      rw [h1, e3]
      exact hd.nch }

end Go.Proofs.Ytcceaokldphfgaa

namespace Go.Proofs.Ytcceaokldphfgaa
open Go.RowKit Go.Shelf

/-- What Files tells. -/
def toldA (a : ASt) : List (ByteArray × List UInt8) := if a.dead = true then [] else dataL a.fs

set_option maxHeartbeats 1000000 in
set_option maxRecDepth 100000 in
theorem filesZ_D {w : World} {role : Role} {D : Nat} {s : DSt} (h : DiskOK w role D s) :
    Calls Try.prog 21 #[.pointer (some ⟨D, 0, none⟩)] w fun r w' => ∃ a n c, r = .returned (.slice a n c) ∧ Hid (FilesAt w' w.heap.size (.slice a n c) (toldA (abs s))) ∧ Below w.heap.size w w' := by
  cases hd : s.dead with
  | false =>
    have e : toldA (abs s) = dataL (abs s).fs := by unfold toldA; rw [show (abs s).dead = s.dead from rfl, hd]; rfl
    rw [e]
    exact files_D h hd
  | true =>
    have e : toldA (abs s) = [] := by unfold toldA; rw [show (abs s).dead = s.dead from rfl, hd]; rfl
    rw [e]
    have hdead := dDead h true hd
    have HF : Hid (FilesAt w w.heap.size (.slice none 0 0) []) := ⟨[], World.ownsRow_nil _ _ _ _, fun j x hx => by simp at hx⟩
    clear h hd e
    go_enter Try.func21, Try.ntmps21
    go_wp2_with fail
    refine hdead.mono ?_
    rintro r w' ⟨rfl, rfl⟩
    clear hdead
    go_wp2
    go_ret
    exact ⟨_, _, _, rfl, HF, Below.refl _ _⟩

theorem do_opsU {a : ASt} (h0 : 0 ≤ a.ops) (o : AOp) : (doA a o).1.ops ≤ a.ops + 1 := by
  by_cases h7 : o.kind = 7
  · unfold doA
    rw [if_neg (by omega), if_neg (by omega), if_neg (by omega), if_neg (by omega), if_neg (by omega), if_neg (by omega), if_neg (by omega), if_pos h7]
    show (0 : Int) ≤ _
    omega
  · exact (do_ops o h7).2

/-- Two disks beside each other, made since w; H: blocks that are neither's, as they were in WB; M: a block that is neither's. -/
structure Pair (w WB : World) (H : Nat → Prop) (M : Option Nat) (D T : Nat) (a b : ASt) (n : Nat) (wr : World) : Prop where
  ex : ∃ r1 s1 r2 s2, DiskOK wr r1 D s1 ∧ DiskOK wr r2 T s2 ∧ abs s1 = a ∧ abs s2 = b ∧ (∀ k q, r1 k = some q → r2 k = none) ∧ (∀ k q, r1 k = some q → w.heap.size ≤ k) ∧ (∀ k q, r2 k = some q → w.heap.size ≤ k) ∧
    (∀ k, H k → r1 k = none ∧ r2 k = none ∧ k < wr.heap.size) ∧ (∀ k, M = some k → r1 k = none ∧ r2 k = none ∧ k < wr.heap.size)
  below : Below w.heap.size w wr
  same : ∀ k, H k → wr.heap[k]? = WB.heap[k]?
  cohA : Coh a
  cohB : Coh b
  opsA : a.ops ≤ n
  opsB : b.ops ≤ n

theorem Pair.swap {w WB : World} {H : Nat → Prop} {M : Option Nat} {D T : Nat} {a b : ASt} {n : Nat} {wr : World} (h : Pair w WB H M D T a b n wr) : Pair w WB H M T D b a n wr := by
  obtain ⟨⟨r1, s1, r2, s2, h1, h2, h3, h4, h5, h6, h7, h8, h9⟩, e1, e2, e3, e4, e5, e6⟩ := h
  refine ⟨⟨r2, s2, r1, s1, h2, h1, h4, h3, fun k q e => ?_, h7, h6, fun k hk => ⟨(h8 k hk).2.1, (h8 k hk).1, (h8 k hk).2.2⟩, fun k hk => ⟨(h9 k hk).2.1, (h9 k hk).1, (h9 k hk).2.2⟩⟩, e1, e2, e4, e3, e6, e5⟩
  cases e' : r1 k with
  | none => rfl
  | some q' => rw [h5 k q' e'] at e; cases e

/-- New memory; some of it may be held. -/
theorem Pair.still {w WB : World} {H : Nat → Prop} {M : Option Nat} {D T : Nat} {a b : ASt} {n : Nat} {wr wr' : World} (h : Pair w WB H M D T a b n wr) (hb : Below wr.heap.size wr wr') : Pair w WB H M D T a b n wr' := by
  obtain ⟨⟨r1, s1, r2, s2, h1, h2, h3, h4, h5, h6, h7, h8, h9⟩, e1, e2, e3, e4, e5, e6⟩ := h
  have hz := hb.size
  exact ⟨⟨r1, s1, r2, s2, h1.still hb, h2.still hb, h3, h4, h5, h6, h7, fun k hk => ⟨(h8 k hk).1, (h8 k hk).2.1, by have := (h8 k hk).2.2; omega⟩, fun k hk => ⟨(h9 k hk).1, (h9 k hk).2.1, by have := (h9 k hk).2.2; omega⟩⟩,
    e1.trans (hb.mono e1.size), fun k hk => (hb.block k (h8 k hk).2.2).trans (e2 k hk), e3, e4, e5, e6⟩

/-- What is new is held from now on. -/
theorem Pair.hold {w WB : World} {H : Nat → Prop} {M : Option Nat} {D T : Nat} {a b : ASt} {n : Nat} {wr wr' : World} (h : Pair w WB H M D T a b n wr) (hb : Below wr.heap.size wr wr') : Pair w wr' (fun k => H k ∨ (wr.heap.size ≤ k ∧ k < wr'.heap.size)) M D T a b n wr' := by
  have h' := h.still hb
  obtain ⟨⟨r1, s1, r2, s2, h1, h2, h3, h4, h5, h6, h7, h8, h9⟩, e1, e2, e3, e4, e5, e6⟩ := h
  have hz := hb.size
  refine ⟨⟨r1, s1, r2, s2, h1.still hb, h2.still hb, h3, h4, h5, h6, h7, fun k hk => ?_, fun k hk => ⟨(h9 k hk).1, (h9 k hk).2.1, by have := (h9 k hk).2.2; omega⟩⟩, h'.below, fun k _ => rfl, e3, e4, e5, e6⟩
  rcases hk with hk | ⟨hk1, hk2⟩
  · exact ⟨(h8 k hk).1, (h8 k hk).2.1, by have := (h8 k hk).2.2; omega⟩
  · exact ⟨no_role h1 hk1, no_role h2 hk1, hk2⟩

/-- An operation on the first one. -/
theorem Pair.does {w WB : World} {H : Nat → Prop} {M : Option Nat} {D T : Nat} {a b : ASt} {n : Nat} {wr : World} (h : Pair w WB H M D T a b n wr) (hn : n ≤ 1000) {p p1 p2 p3 : Option Addr} {c c1 c2 c3 : Nat} {o : AOp} (hop : OpAt wr p p1 p2 p3 c c1 c2 c3 o) :
    Calls Try.prog 14 #[.pointer (some ⟨D, 0, none⟩), opV p p1 p2 p3 c c1 c2 c3 o] wr fun r w' => r = .returned (.int .i64 (doA a o).2) ∧ Hid (Pair w WB H M D T (doA a o).1 b (n + 1) w' ∧ (∀ k, M = some k → w'.heap[k]? = wr.heap[k]?) ∧ wr.heap.size ≤ w'.heap.size) := by
  obtain ⟨⟨r1, s1, r2, s2, h1, h2, rfl, rfl, h5, h6, h7, h8, h9⟩, e1, e2, e3, e4, e5, e6⟩ := h
  have e5' : s1.ops ≤ n := e5
  refine (do_D h1 (by omega) e3.dead p p1 p2 p3 c c1 c2 c3 o hop).mono ?_
  rintro r w' ⟨rfl, role', s', g1, g2, g3⟩
  have hz := g2.size
  have hr2 : ∀ k q, r2 k = some q → r1 k = none := fun k q e => by
    cases e' : r1 k with
    | none => rfl
    | some q' => rw [h5 k q' e'] at e; cases e
  have hk2 : ∀ k q, r2 k = some q → w'.heap[k]? = wr.heap[k]? := fun k q e => g2.keep k (h2.dom k q e) (.inl (hr2 k q e))
  have hop2 := do_opsU (a := abs s1) (h1.iO).1 o
  refine ⟨rfl, ⟨⟨role', s', r2, s2, g1, h2.kept hz (fun k q e _ => hk2 k q e) (fun _ _ e => e) (fun k q e => Nat.lt_of_lt_of_le (h2.dom k q e) hz), by rw [← g3], rfl, fun k q e => ?_, fun k q e => ?_, h7, fun k hk => ?_, fun k hk => ?_⟩, ?_, fun k hk => ?_, ?_, e4, ?_, by omega⟩, fun k hk => ?_, hz⟩
  · rcases Nat.lt_or_ge k wr.heap.size with hl | hl
    · rw [g2.ext k hl] at e
      exact h5 k q e
    · exact no_role h2 hl
  · rcases Nat.lt_or_ge k wr.heap.size with hl | hl
    · rw [g2.ext k hl] at e
      exact h6 k q e
    · have := e1.size; omega
  · obtain ⟨q1, q2, q3⟩ := h8 k hk
    exact ⟨(g2.ext k q3).trans q1, q2, by omega⟩
  · obtain ⟨q1, q2, q3⟩ := h9 k hk
    exact ⟨(g2.ext k q3).trans q1, q2, by omega⟩
  · refine ⟨g2.os.trans e1.os, g2.tape.trans e1.tape, g2.output.trans e1.output, Nat.le_trans e1.size hz, fun k hk => ?_⟩
    refine (g2.keep k (Nat.lt_of_lt_of_le hk e1.size) (.inl ?_)).trans (e1.block k hk)
    cases e' : r1 k with
    | none => rfl
    | some q => have := h6 k q e'; omega
  · obtain ⟨q1, q2, q3⟩ := h8 k hk
    exact (g2.keep k q3 (.inl q1)).trans (e2 k hk)
  · exact do_coh e3 o
  · have : (abs s1).ops = s1.ops := rfl
    omega
  · obtain ⟨q1, q2, q3⟩ := h9 k hk
    exact g2.keep k q3 (.inl q1)

end Go.Proofs.Ytcceaokldphfgaa

namespace Go.Proofs.Ytcceaokldphfgaa
open Go.RowKit Go.Shelf

/-- The row that M stands for grows. -/
theorem Pair.grew {w WB : World} {H : Nat → Prop} {D T : Nat} {a b : ASt} {n : Nat} {wr w' : World} {v v' : Value} (h : Pair w WB H v.ownBlock D T a b n wr) (hg : Grew wr w' v v') (hl : ∀ k, v'.ownBlock = some k → k < w'.heap.size) (hH : ∀ k, H k → v.ownBlock ≠ some k) (hw : ∀ k, v.ownBlock = some k → w.heap.size ≤ k) : Pair w WB H v'.ownBlock D T a b n w' := by
  obtain ⟨⟨r1, s1, r2, s2, h1, h2, h3, h4, h5, h6, h7, h8, h9⟩, e1, e2, e3, e4, e5, e6⟩ := h
  have hz := hg.by_.size
  have hk : ∀ k q, (r1 k = some q ∨ r2 k = some q) → w'.heap[k]? = wr.heap[k]? := fun k q e => hg.by_.block k (by rcases e with e | e; exact h1.dom k q e; exact h2.dom k q e) (fun e' => by
    obtain ⟨q1, q2, _⟩ := h9 k e'.symm
    rcases e with e | e
    · rw [q1] at e; cases e
    · rw [q2] at e; cases e)
  refine ⟨⟨r1, s1, r2, s2, h1.kept hz (fun k q e _ => hk k q (.inl e)) (fun _ _ e => e) (fun k q e => Nat.lt_of_lt_of_le (h1.dom k q e) hz), h2.kept hz (fun k q e _ => hk k q (.inr e)) (fun _ _ e => e) (fun k q e => Nat.lt_of_lt_of_le (h2.dom k q e) hz), h3, h4, h5, h6, h7, fun k hk => ⟨(h8 k hk).1, (h8 k hk).2.1, by have := (h8 k hk).2.2; omega⟩, fun k e => ?_⟩, e1.grown hg.by_ e1.size hw, fun k hk => (hg.by_.block k (h8 k hk).2.2 (fun e => hH k hk e.symm)).trans (e2 k hk), e3, e4, e5, e6⟩
  rcases hg.at_ k e with e' | e'
  · obtain ⟨q1, q2, q3⟩ := h9 k e'
    exact ⟨q1, q2, by omega⟩
  · exact ⟨no_role h1 e', no_role h2 e', hl k e⟩

theorem Pair.files {w WB : World} {H : Nat → Prop} {M : Option Nat} {D T : Nat} {a b : ASt} {n : Nat} {wr : World} (h : Pair w WB H M D T a b n wr) :
    Calls Try.prog 21 #[.pointer (some ⟨D, 0, none⟩)] wr fun r w' => ∃ p m c, r = .returned (.slice p m c) ∧ Hid (FilesAt w' wr.heap.size (.slice p m c) (toldA a)) ∧ Below wr.heap.size wr w' := by
  obtain ⟨r1, s1, r2, s2, h1, h2, rfl, _⟩ := h.ex
  exact filesZ_D h1

theorem Pair.safe {w WB : World} {H : Nat → Prop} {M : Option Nat} {D T : Nat} {a b : ASt} {n : Nat} {wr : World} (h : Pair w WB H M D T a b n wr) :
    Calls Try.prog 22 #[.pointer (some ⟨D, 0, none⟩)] wr fun r w' => ∃ p m c, r = .returned (.slice p m c) ∧ Hid (FilesAt w' wr.heap.size (.slice p m c) (safeL a.fs)) ∧ Below wr.heap.size wr w' := by
  obtain ⟨r1, s1, r2, s2, h1, h2, rfl, _⟩ := h.ex
  exact safe_D h1

theorem Pair.ops {w WB : World} {H : Nat → Prop} {M : Option Nat} {D T : Nat} {a b : ASt} {n : Nat} {wr : World} (h : Pair w WB H M D T a b n wr) :
    Calls Try.prog 16 #[.pointer (some ⟨D, 0, none⟩)] wr fun r w' => r = .returned (.int .i64 a.ops) ∧ wr = w' := by
  obtain ⟨r1, s1, r2, s2, h1, h2, rfl, _⟩ := h.ex
  exact ops_D h1

end Go.Proofs.Ytcceaokldphfgaa

namespace Go.Proofs.Ytcceaokldphfgaa
open Go.RowKit Go.Shelf

theorem own_up {w : World} {B e size n : Nat} {v : Value} {xs : List Value} (h : w.ownsRow 0 e size v n xs) (hk : ∀ k, v.ownBlock = some k → B ≤ k) : w.ownsRow B e size v n xs := by
  obtain ⟨hl, h0 | ⟨g, cap, cur, rfl, hb, hg, hr⟩⟩ := h
  · exact ⟨hl, .inl h0⟩
  · exact ⟨hl, .inr ⟨g, cap, cur, rfl, hk g rfl, hg, hr⟩⟩

theorem own_keep {w w' : World} {B e size n : Nat} {v : Value} {xs : List Value} (h : w.ownsRow B e size v n xs) (hk : ∀ k, v.ownBlock = some k → w'.heap[k]? = w.heap[k]?) : w'.ownsRow B e size v n xs := by
  obtain ⟨hl, h0 | ⟨g, cap, cur, rfl, hb, hg, hr⟩⟩ := h
  · exact ⟨hl, .inl h0⟩
  · exact ⟨hl, .inr ⟨g, cap, cur, rfl, hb, (hk g rfl).trans hg, hr⟩⟩

end Go.Proofs.Ytcceaokldphfgaa

namespace Go.Proofs.Ytcceaokldphfgaa
open Go.RowKit Go.Shelf

theorem own_rd {w : World} {B : Nat} {v : Value} {l : List UInt8} (h : w.ownsRow B 5 1 v l.length (l.map byteV)) : Rd w v l := by
  obtain ⟨a, c, rfl, hc⟩ := own_slice h
  refine ⟨a, c, rfl, hc, fun j x hx => ?_⟩
  rcases h.2 with ⟨_, h0⟩ | ⟨g, cap, cur, e, _, hg, hn, _, hz, ht⟩
  · rw [List.eq_nil_of_length_eq_zero h0] at hx; simp at hx
  · simp only [Value.slice.injEq] at e
    refine ⟨_, e.1, ?_⟩
    have hj : j < l.length := (List.getElem?_eq_some_iff.1 hx).1
    rw [Addr.add_lit]
    refine blk_cell hg ?_
    have h2 : (cur.toList.take (l.length * 1))[j]? = some (byteV x) := by rw [ht, List.getElem?_map, hx]; rfl
    rw [List.getElem?_take, if_pos (by omega)] at h2
    simpa using h2

theorem Rd.later {w w' : World} {v : Value} {l : List UInt8} (h : Rd w v l) (hb : Below w.heap.size w w') : Rd w' v l := by
  obtain ⟨a, c, rfl, hc, hr⟩ := h
  refine ⟨a, c, rfl, hc, fun j x hx => ?_⟩
  obtain ⟨ad, e, hcell⟩ := hr j x hx
  refine ⟨ad, e, (hb.cell ?_).trans hcell⟩
  rcases Nat.lt_or_ge (ad.add j).block w.heap.size with h | h
  · exact h
  · simp [World.cell?, Array.getElem?_eq_none h] at hcell

/-- Bytes that can be read; nil has no room. -/
def RdN (w : World) (v : Value) (l : List UInt8) : Prop := Rd w v l ∧ ∀ n c, v = .slice none n c → c = 0

theorem own_rdN {w : World} {B : Nat} {v : Value} {l : List UInt8} (h : w.ownsRow B 5 1 v l.length (l.map byteV)) : RdN w v l := by
  refine ⟨own_rd h, fun n c e => ?_⟩
  rcases h.2 with ⟨e0, _⟩ | ⟨g, cap, cur, e0, _⟩
  · rw [e] at e0; cases e0; rfl
  · rw [e] at e0; cases e0

theorem RdN.later {w w' : World} {v : Value} {l : List UInt8} (h : RdN w v l) (hb : Below w.heap.size w w') : RdN w' v l := ⟨h.1.later hb, h.2⟩

set_option maxHeartbeats 400000 in
set_option maxRecDepth 100000 in
theorem rtwin_any {w : World} {v : Value} {l : List UInt8} (h : RdN w v l) (hl : l.length ≤ 140737488355328) :
    Calls Try.prog 49 #[v] w fun e w' => ∃ q c, e = .returned (.slice q l.length c) ∧ Hid (Out w l (.slice q l.length c) w') := by
  obtain ⟨⟨a, c, rfl, hlc, hr⟩, hn⟩ := h
  have hx : ∀ b, a = some b → ∀ j u, (l.map byteV)[j]? = some u → w.cell? (b.add j) = some u := fun b e j u hu => by
    simp only [List.getElem?_map, Option.map_eq_some_iff] at hu
    obtain ⟨x, hx1, rfl⟩ := hu
    obtain ⟨ad, e', hc⟩ := hr j x hx1
    rw [e] at e'
    cases e'
    exact hc
  obtain ⟨v', w', hrun, ho, hb⟩ := append_nil_run (w := w) Try.underlying33 Try.info5 rfl 33 a c (l.map byteV) (fun e => by
    have hl0 : l = [] := by
      cases l with
      | nil => rfl
      | cons x l => obtain ⟨ad, e', _⟩ := hr 0 x rfl; rw [e] at e'; cases e'
    exact ⟨by rw [hl0]; rfl, hn _ _ (by rw [e])⟩) hx (byteV_one l) (by simp; omega) (by simp; omega)
  rw [List.length_map] at hrun ho
  obtain ⟨q, k, rfl, _⟩ := own_slice ho
  have HQ : Hid (Out w l (.slice q l.length k) w') := ⟨ho, hb⟩
  have HR := hideP hrun
  clear ho hb hx hr hrun hn
  go_enter Try.func49, Try.ntmps49
  go_wp2_with (at_builtin; refine Lib.wpList_append_run _ rfl _ _ 33 33 rfl _ _ rfl rfl _ _ HR.out ?_)
  go_ret
  exact ⟨_, _, rfl, HQ⟩

/-- One more in a row of one's own. -/
theorem put_step {wr : World} {B t e bytes j c : Nat} {q : Option Addr} {z u : Value} {L : List Value} (ht : Try.prog.underlying t = some (.slice e)) (hi : (Try.prog.info? e).map (fun i => (i.zero, i.size, i.bytes)) = some (some z, 1, bytes)) (hz : z.cells.size = 1) (hu : u.oneCell' = true) (h : wr.ownsRow B e 1 (.slice q j c) j L) (hB : B ≤ wr.heap.size) (hj : (j + 1) * bytes ≤ 140737488355328) (hj2 : j < 140737488355328) :
    ∃ q' c' w7, (Builtin.append_ #[t, t] t #[.slice q j c, .slice (some ⟨wr.heap.size, 0, none⟩) 1 1]).run Try.prog (wr.alloc (.cells #[u] e)) = .ok (.slice q' (j + 1) c') w7 ∧ w7.ownsRow B e 1 (.slice q' (j + 1) c') (j + 1) (L ++ [u]) ∧ Grew wr w7 (.slice q j c) (.slice q' (j + 1) c') := by
  obtain ⟨i0, hi0, hz0, hz1, hz2⟩ := info_parts hi
  have hcell : (wr.alloc (.cells #[u] e)).cell? ⟨wr.heap.size, 0, none⟩ = some u := (cell_new _ e).1
  obtain ⟨v', w7, hrun, hown, hgrew⟩ := app_run (P := Try.prog) (wr.alloc (.cells #[u] e)) t t e i0 z bytes ht hi0 hz0 hz1 hz2 hz (.slice q j c) j L ((own_zero h).alloc _) ⟨wr.heap.size, 0, none⟩ 1 1 [u] rfl
    (fun i x hx => by
      match i, hx with
      | 0, hx => simp only [List.getElem?_cons_zero, Option.some.injEq] at hx; subst hx; rw [Addr.add_lit]; exact hcell
      | i + 1, hx => simp at hx)
    (fun x hx => by simp at hx; rw [hx]; exact hu) (by unfold maxLen; omega) (by omega)
  obtain ⟨a3, k3, rfl, _⟩ := own_slice hown
  have hg : Grew wr w7 (.slice q j c) (.slice a3 (j + 1) k3) := grew_alloc hgrew
  refine ⟨a3, k3, w7, hrun, own_up hown (fun k e => ?_), hg⟩
  rcases hg.at_ k e with h' | h'
  · exact (h.lt k h').1
  · omega

theorem Below.grew {w wr w7 : World} {N B : Nat} {e n : Nat} {v v' : Value} {L : List Value} (hb : Below N w wr) (hg : Grew wr w7 v v') (h : wr.ownsRow B e 1 v n L) (hN : N ≤ B) (hNw : N ≤ wr.heap.size) : Below N w w7 :=
  hb.grown hg.by_ hNw (fun k e => Nat.le_trans hN (h.lt k e).1)

end Go.Proofs.Ytcceaokldphfgaa
