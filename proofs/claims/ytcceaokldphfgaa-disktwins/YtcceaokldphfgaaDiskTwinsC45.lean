/- YtcceaokldphfgaaDiskTwinsC45 -/
import Derived.Test.YtcceaokldphfgaaDiskTwinsC43
import Derived.Test.YtcceaokldphfgaaDiskTwinsC44
import Derived.Test.YtcceaokldphfgaaDiskTwinsC38
namespace Go.Proofs.Ytcceaokldphfgaa
open Go.RowKit Go.Shelf

/-- A disk in memory, whatever its files' order and its changes' number. -/
structure Bare (w : World) (role : Role) (D : Nat) (s : DSt) : Prop where
  rD : role D = some (0, D)
  blk : w.heap[D]? = some (.cells #[.bool true, .bool s.dead, .int .i64 s.crash, s.keepV, s.failV, s.fullV, .int .i64 s.room, .int .i64 s.ops, s.filesV] 51 (0, 0))
  keep : PlanOK w role s.keepV s.keep
  fail : PlanOK w role s.failV s.fail
  full : PlanOK w role s.fullV s.full
  files : w.ownsRow 0 82 1 s.filesV s.fs.length (s.fs.map ptrV)
  rfiles : ∀ g, s.filesV.ownBlock = some g → role g = some (1, D)
  each : ∀ f ∈ s.fs, FileOK w role f
  nodup : (s.fs.map (·.p)).Nodup
  dom : ∀ k q, role k = some q → k < w.heap.size

theorem Bare.kept {w w' : World} {role role' : Role} {D : Nat} {s : DSt} (h : Bare w role D s) (hz : w.heap.size ≤ w'.heap.size)
    (hs : ∀ k q, role k = some q → isC w k → w'.heap[k]? = w.heap[k]?) (hr : ∀ k q, role k = some q → role' k = some q) (hd : ∀ k q, role' k = some q → k < w'.heap.size) : Bare w' role' D s where
  rD := hr _ _ h.rD
  blk := (hs _ _ h.rD ⟨_, _, _, h.blk⟩).trans h.blk
  keep := h.keep.same hz (fun k e => hs k _ e) (fun k e => hr k _ e)
  fail := h.fail.same hz (fun k e => hs k _ e) (fun k e => hr k _ e)
  full := h.full.same hz (fun k e => hs k _ e) (fun k e => hr k _ e)
  files := own_same h.files (fun k e => hs k _ (h.rfiles k e))
  rfiles := fun g e => hr _ _ (h.rfiles g e)
  each := fun f hf => (h.each f hf).kept (fun k hk => by rcases hk with ⟨i, hk⟩ | hk <;> exact hs k _ hk) hr
  nodup := h.nodup
  dom := hd

/-- The files' row is another one. -/
theorem Bare.putRow {w w1 : World} {role : Role} {D : Nat} {s : DSt} {v : Value} (h : Bare w role D s) (hg : Grew w w1 s.filesV v) (fs' : List FRep) (ho : w1.ownsRow 0 82 1 v fs'.length (fs'.map ptrV)) (hf : ∀ f ∈ fs', FileOK w role f) (hnd : (fs'.map (·.p)).Nodup) :
    Bare (w1.setCell ⟨D, 8, none⟩ v) (extR role w (w1.setCell ⟨D, 8, none⟩ v) (1, D)) D { s with filesV := v, fs := fs' } ∧ ∀ k, k < w.heap.size → k ≠ D → s.filesV.ownBlock ≠ some k → (w1.setCell ⟨D, 8, none⟩ v).heap[k]? = w.heap[k]? := by
  have hz : (w1.setCell ⟨D, 8, none⟩ v).heap.size = w1.heap.size := by simp [World.setCell]
  have hzz := hg.by_.size
  have hsame : ∀ k, k < w.heap.size → k ≠ D → s.filesV.ownBlock ≠ some k → (w1.setCell ⟨D, 8, none⟩ v).heap[k]? = w.heap[k]? := fun k hk h1 h2 => (Below.heap_setCell w1 _ v k h1).trans (hg.by_.block k hk (fun e => h2 e.symm))
  have hr : ∀ k q, role k = some q → extR role w (w1.setCell ⟨D, 8, none⟩ v) (1, D) k = some q := fun k q e => by unfold extR; rw [if_pos (h.dom k q e)]; exact e
  have hDf : s.filesV.ownBlock ≠ some D := fun e => by have := h.rfiles D e; rw [h.rD] at this; simp at this
  have hvD : v.ownBlock ≠ some D := fun e => by
    rcases hg.at_ D e with h1 | h1
    · exact hDf h1
    · have := h.dom _ _ h.rD; omega
  have hb1 : w1.heap[D]? = some (.cells #[.bool true, .bool s.dead, .int .i64 s.crash, s.keepV, s.failV, s.fullV, .int .i64 s.room, .int .i64 s.ops, s.filesV] 51 (0, 0)) :=
    (hg.by_.block D (h.dom _ _ h.rD) (fun e => hDf e.symm)).trans h.blk
  have hoth : ∀ k q, role k = some q → q ≠ (0, D) → q ≠ (1, D) → (w1.setCell ⟨D, 8, none⟩ v).heap[k]? = w.heap[k]? := fun k q e h0 h1 => hsame k (h.dom k q e) (fun e' => by subst e'; rw [h.rD] at e; exact h0 (Option.some.inj e).symm) (fun e' => by rw [h.rfiles k e'] at e; exact h1 (Option.some.inj e).symm)
  have h6 : ∀ k, role k = some (6, 0) → (w1.setCell ⟨D, 8, none⟩ v).heap[k]? = w.heap[k]? := fun k e => hoth k _ e (by simp) (by simp)
  refine ⟨?_, hsame⟩
  exact {
    rD := hr _ _ h.rD
    blk := blk_set hb1 v
    keep := h.keep.same (by omega) (fun k e _ => h6 k e) (fun k e => hr k _ e)
    fail := h.fail.same (by omega) (fun k e _ => h6 k e) (fun k e => hr k _ e)
    full := h.full.same (by omega) (fun k e _ => h6 k e) (fun k e => hr k _ e)
    files := own_same ho (fun k e _ => Below.heap_setCell w1 _ v k (fun e' => hvD (by rw [e]; exact congrArg some e')))
    rfiles := by
      intro g e
      rcases hg.at_ g e with h1 | h1
      · exact hr _ _ (h.rfiles g h1)
      · exact extR_new h1 (by rw [hz]; exact (ho.lt g e).2)
    each := fun f hf' => by
      have hF := hf f hf'
      have hne : f.p ≠ D := fun e => by
        have := hF.rp
        rw [e, h.rD] at this
        simp at this
      refine hF.kept (fun k hk _ => ?_) hr
      rcases hk with ⟨i, hk⟩ | hk
      · exact hoth k _ hk (fun e => hne (by simpa using congrArg Prod.snd e)) (fun e => hne (by simpa using congrArg Prod.snd e))
      · exact h6 k hk
    nodup := hnd
    dom := fun k q e => extR_dom (by omega) k q e }

/-- A disk's clone under way: so many files are there. -/
structure CloneD (w : World) (s : DSt) (T B : Nat) (pre : List (Of s.fs)) (W : World) : Prop where
  ex : ∃ role' s', Bare W role' T s' ∧ NewR w W role' ∧ role' B = some (6, 0) ∧ W.heap[B]? = some (.cells #[.pointer (some ⟨T, 0, none⟩)] 29 (0, 0)) ∧ abs s' = { abs s with fs := pre.map (·.1.a) }
  below : Below w.heap.size w W

/-- The clone is a disk. -/
theorem CloneD.disk {w W : World} {role : Role} {D T B : Nat} {s : DSt} (h : CloneD w s T B s.fs.attach W) (hd : DiskOK w role D s) : ∃ role' s', DiskOK W role' T s' ∧ NewR w W role' ∧ abs s' = abs s := by
  obtain ⟨role', s', hb, hn, _, _, ha⟩ := h.ex
  have hfs : s'.fs.map (·.a) = s.fs.map (·.a) := by
    have := congrArg ASt.fs ha
    simp only [abs] at this
    rw [this]
    conv => rhs; rw [← List.attach_map_subtype_val s.fs]
    rw [List.map_map]
    rfl
  have hlen : s'.fs.length = s.fs.length := by simpa using congrArg List.length hfs
  have ha' : abs s' = abs s := by
    rw [ha]
    have h1 : s'.fs.map (·.a) = s.fs.attach.map (·.1.a) := congrArg ASt.fs ha
    have h2 : s.fs.attach.map (·.1.a) = (abs s).fs := h1.symm.trans hfs
    rw [h2]
  refine ⟨role', s', ?_, hn, ha'⟩
  have e1 : s'.crash = s.crash := congrArg ASt.crash ha'
  have e2 : s'.room = s.room := congrArg ASt.room ha'
  have e3 : s'.ops = s.ops := congrArg ASt.ops ha'
  exact {
    rD := hb.rD, blk := hb.blk, keep := hb.keep, fail := hb.fail, full := hb.full, files := hb.files, rfiles := hb.rfiles, each := hb.each, nodup := hb.nodup
    sorted := by
      have h1 : (s.fs.map (·.a)).Pairwise (fun f g => cmpS f.name g.name < 0) := List.pairwise_map.2 hd.sorted
      rw [← hfs] at h1
      exact List.pairwise_map.1 h1
    dom := hb.dom
    few := by rw [hlen]; exact hd.few
    iC := by rw [e1]; exact hd.iC
    iR := by rw [e2]; exact hd.iR
    iO := by rw [e3]; exact hd.iO
    nch := by
      have h1 : nchs s'.fs = nchs s.fs := by
        have h2 := congrArg (fun L => (L.map (fun f : AFile => f.chs.length)).sum) hfs
        simp only [List.map_map] at h2
        exact h2
      rw [h1, e3]
      exact hd.nch }

/-- Roles of a world and of the new memory behind it. -/
def roleJ (role roleN : Role) (w w' : World) : Role := fun k => if k < w.heap.size then role k else if k < w'.heap.size then roleN k else none

/-- The clone of a file more. -/
theorem cloneD_step {w W w2 : World} {role : Role} {D T B p : Nat} {s : DSt} {pre : List (Of s.fs)} {x : Of s.fs} (hI : CloneD w s T B pre W) (hd : DiskOK w role D s) (hc : CloneI W x.1 p x.1.a.chs.length w2) (hlt : pre.length < s.fs.length) {fv : Value} (hfv : W.cell? ⟨T, 8, none⟩ = some fv) :
    w2.cell? ⟨B, 0, none⟩ = some (.pointer (some ⟨T, 0, none⟩)) ∧ w2.cell? ⟨T, 8, none⟩ = some fv ∧ (w2.alloc (.cells #[.pointer (some ⟨p, 0, none⟩)] 82)).cell? ⟨B, 0, none⟩ = some (.pointer (some ⟨T, 0, none⟩)) ∧ (w2.alloc (.cells #[.pointer (some ⟨p, 0, none⟩)] 82)).cell? ⟨T, 8, none⟩ = some fv ∧
      ∃ a3 n3 c3 w3, Hid ((Builtin.append_ #[49, 49] 49 #[fv, .slice (some ⟨w2.heap.size, 0, none⟩) 1 1]).run Try.prog (w2.alloc (.cells #[.pointer (some ⟨p, 0, none⟩)] 82)) = .ok (.slice a3 n3 c3) w3) ∧
        w3.cell? ⟨B, 0, none⟩ = some (.pointer (some ⟨T, 0, none⟩)) ∧ w3.cell? ⟨T, 8, none⟩ = some fv ∧ w3.frozen? ⟨T, 8, none⟩ = false ∧ (w3.setCell ⟨T, 8, none⟩ (.slice a3 n3 c3)).cell? ⟨B, 0, none⟩ = some (.pointer (some ⟨T, 0, none⟩)) ∧
        Hid ((∀ n, KeepsFrom n W (w3.setCell ⟨T, 8, none⟩ (.slice a3 n3 c3))) ∧ KpR s.filesV s.fs W (w3.setCell ⟨T, 8, none⟩ (.slice a3 n3 c3)) ∧ CloneD w s T B (pre ++ [x]) (w3.setCell ⟨T, 8, none⟩ (.slice a3 n3 c3))) := by
  obtain ⟨role', s', hb, hn, hB, hBb, ha⟩ := hI.ex
  obtain ⟨roleN, f', hF, hN, hp, hfa⟩ := hc.ex
  have hfa' : f'.a = x.1.a := by rw [hfa, List.take_length]
  have hbel := hc.below
  have hfv' : fv = s'.filesV := by
    have : W.cell? ⟨T, 8, none⟩ = some s'.filesV := blk_cell hb.blk rfl
    rw [hfv] at this
    exact Option.some.inj this
  subst hfv'
  -- the roles beside each other
  have r1 : ∀ k q, role' k = some q → roleJ role' roleN W w2 k = some q := fun k q e => by unfold roleJ; rw [if_pos (hb.dom k q e)]; exact e
  have r2 : ∀ k q, roleN k = some q → roleJ role' roleN W w2 k = some q := fun k q e => by
    have h1 := hN.lo k q e
    have h2 := hN.hi k q e
    unfold roleJ
    rw [if_neg (by omega), if_pos h2]
    exact e
  have rd : ∀ k q, roleJ role' roleN W w2 k = some q → k < w2.heap.size := fun k q e => by
    unfold roleJ at e
    split at e
    · have := hbel.size; omega
    · split at e
      · assumption
      · cases e
  have rlo : ∀ k q, roleJ role' roleN W w2 k = some q → w.heap.size ≤ k := fun k q e => by
    unfold roleJ at e
    split at e
    · exact hn.lo k q e
    · have := hI.below.size; omega
  have hb2 : Bare w2 (roleJ role' roleN W w2) T s' := hb.kept hbel.size (fun k q e _ => hbel.block k (hb.dom k q e)) r1 rd
  have hF2 : FileOK w2 (roleJ role' roleN W w2) f' := hF.kept (fun _ _ _ => rfl) r2
  have hBl : B < W.heap.size := hb.dom _ _ hB
  have hTl : T < W.heap.size := hb.dom _ _ hb.rD
  have hTB : T ≠ B := fun e => by have := hb.rD; rw [e, hB] at this; simp at this
  have hlen : s'.fs.length = pre.length := by
    have := congrArg (fun a => a.fs.length) ha
    simpa [abs] using this
  have hfew := hd.few
  obtain ⟨i0, hi0, hz0, hz1, hz2⟩ := info_parts Try.info82
  have hcell : (w2.alloc (.cells #[.pointer (some ⟨p, 0, none⟩)] 82)).cell? ⟨w2.heap.size, 0, none⟩ = some (.pointer (some ⟨p, 0, none⟩)) := (cell_new _ 82).1
  obtain ⟨v', w3, hrun, hown, hgrew⟩ := app_run (P := Try.prog) (w2.alloc (.cells #[.pointer (some ⟨p, 0, none⟩)] 82)) 49 49 82 i0 (.pointer none) 8 Try.underlying49 hi0 hz0 hz1 hz2 rfl s'.filesV s'.fs.length (s'.fs.map ptrV) (hb2.files.alloc _) ⟨w2.heap.size, 0, none⟩ 1 1 [.pointer (some ⟨p, 0, none⟩)] rfl
    (fun j u hu => by
      match j, hu with
      | 0, hu => simp only [List.getElem?_cons_zero, Option.some.injEq] at hu; subst hu; rw [Addr.add_lit]; exact hcell
      | j + 1, hu => simp at hu)
    (fun u hu => by simp at hu; rw [hu]; rfl) (by unfold maxLen; omega) (by omega)
  obtain ⟨a3, c3, rfl, _⟩ := own_slice hown
  have hg : Grew w2 w3 s'.filesV (.slice a3 (s'.fs.length + 1) c3) := grew_alloc hgrew
  have hnp : ∀ f ∈ s'.fs, f.p ≠ f'.p := fun f hf e => by
    have h1 := hb.dom _ _ (hb.each f hf).rp
    have h2 := hN.lo _ _ hF.rp
    omega
  obtain ⟨q1, q2⟩ := hb2.putRow hg (s'.fs ++ [f']) (by simpa [ptrV, hp] using hown) (fun f hf => by
      simp only [List.mem_append, List.mem_singleton] at hf
      rcases hf with hf | rfl
      · exact hb2.each f hf
      · exact hF2) (by
      rw [List.map_append, List.nodup_append]
      refine ⟨hb.nodup, by simp, ?_⟩
      intro a ha' b hb' e
      simp only [List.mem_map, List.map_cons, List.map_nil, List.mem_singleton] at ha' hb'
      obtain ⟨f, hf, rfl⟩ := ha'
      exact hnp f hf (e.trans hb'))
  have hTf : s'.filesV.ownBlock ≠ some T := fun e => by have := hb.rfiles T e; rw [hb.rD] at this; simp at this
  have hBf : s'.filesV.ownBlock ≠ some B := fun e => by have := hb.rfiles B e; rw [hB] at this; simp at this
  have hsz : W.heap.size ≤ w2.heap.size := hbel.size
  have hB2 : w2.heap[B]? = some (.cells #[.pointer (some ⟨T, 0, none⟩)] 29 (0, 0)) := (hbel.block B hBl).trans hBb
  have hB3 : w3.heap[B]? = some (.cells #[.pointer (some ⟨T, 0, none⟩)] 29 (0, 0)) := (hg.by_.block B (by omega) (fun e => hBf e.symm)).trans hB2
  have hT3 := (hg.by_.block T (by omega) (fun e => hTf e.symm)).trans hb2.blk
  have hB4 : (w3.setCell ⟨T, 8, none⟩ (.slice a3 (s'.fs.length + 1) c3)).heap[B]? = some (.cells #[.pointer (some ⟨T, 0, none⟩)] 29 (0, 0)) := (q2 B (by omega) (fun e => hTB e.symm) hBf).trans hB2
  have hz4 : (w3.setCell ⟨T, 8, none⟩ (.slice a3 (s'.fs.length + 1) c3)).heap.size = w3.heap.size := by simp [World.setCell]
  have hgz := hg.by_.size
  have k1 : w2.cell? ⟨B, 0, none⟩ = some (.pointer (some ⟨T, 0, none⟩)) := blk_cell hB2 rfl
  have k2 : w2.cell? ⟨T, 8, none⟩ = some s'.filesV := blk_cell hb2.blk rfl
  have hbl : Below w.heap.size w w2 := hI.below.trans (hbel.mono hI.below.size)
  have hbl3 : Below w.heap.size w w3 := hbl.grown hg.by_ hbl.size (fun k e => hn.lo k _ (hb.rfiles k e))
  have hb4 : Below w.heap.size w (w3.setCell ⟨T, 8, none⟩ (.slice a3 (s'.fs.length + 1) c3)) := hbl3.setCell (p := ⟨T, 8, none⟩) (hn.lo _ _ hb.rD) _
  refine ⟨k1, k2, (World.grownBy_alloc w2 _ none).cell k1 (by simp), (World.grownBy_alloc w2 _ none).cell k2 (by simp), a3, _, c3, w3, hrun, blk_cell hB3 rfl, blk_cell hT3 rfl, blk_free hT3, blk_cell hB4 rfl, fun n => ⟨by omega, fun k o _ hk ho => ?_⟩, ?_, ⟨⟨_, _, q1, ⟨fun k q e => ?_, fun k q e => ?_⟩, ?_, hB4, ?_⟩, hb4⟩⟩
  · have hkl := (Array.getElem?_eq_some_iff.1 hk).1
    refine (q2 k (by omega) (fun e => ?_) (fun e => ?_)).trans ((hbel.block k hkl).trans hk)
    · rw [e, hb.blk] at hk
      cases hk
      simp [Obj.isCells] at ho
    · obtain ⟨cur, hgg, _⟩ := own_block hb.files e
      rw [hgg] at hk
      cases hk
      simp [Obj.isCells] at ho
  · refine KpR.of_same (fun g e => ?_)
    have hgl := hd.dom _ _ (hd.rfiles g e)
    exact (hb4.block g hgl).trans (hI.below.block g hgl).symm
  · unfold extR at e
    split at e
    · exact rlo k q e
    · have := hbl.size; omega
  · unfold extR at e
    split at e
    · omega
    · split at e
      · assumption
      · cases e
  · show extR _ _ _ _ B = _
    unfold extR
    rw [if_pos (by omega)]
    exact r1 _ _ hB
  · have h1 := congrArg ASt.fs ha
    simp only [abs] at h1 ha ⊢
    simp only [ASt.mk.injEq] at ha ⊢
    obtain ⟨g1, g2, g3, g4, g5, g6, g7, _⟩ := ha
    refine ⟨g1, g2, g3, g4, g5, g6, g7, ?_⟩
    rw [List.map_append, List.map_append, h1]
    simp [hfa']

end Go.Proofs.Ytcceaokldphfgaa
