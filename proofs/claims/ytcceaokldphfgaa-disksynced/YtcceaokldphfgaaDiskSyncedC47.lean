/- YtcceaokldphfgaaDiskSyncedC47 -/
import Derived.Test.YtcceaokldphfgaaDiskSyncedC45
import Derived.Test.YtcceaokldphfgaaDiskSyncedC46
import Derived.Test.YtcceaokldphfgaaDiskSyncedC27
namespace Go.Proofs.Ytcceaokldphfgaa
open Go.RowKit Go.Shelf

theorem find_setA {t : ByteArray} {g : AFile → AFile} (hg : ∀ x, (g x).name = x.name) : ∀ {fs : List AFile} {f : AFile}, findA fs t = some f → findA (setA fs t g) t = some (g f)
  | [], _, h => by simp [findA] at h
  | x :: fs, f, h => by
    unfold findA setA at *
    rw [List.map_cons]
    by_cases hx : cmpS x.name t = 0
    · have e1 : (cmpS x.name t == 0) = true := by simp [hx]
      rw [List.find?_cons, e1] at h
      cases h
      rw [if_pos hx, List.find?_cons, hg, e1]
    · have e1 : (cmpS x.name t == 0) = false := by simp [hx]
      rw [List.find?_cons, e1] at h
      rw [if_neg hx, List.find?_cons, e1]
      exact find_setA hg h

theorem find_die {t : ByteArray} (keep : List Int) : ∀ {fs : List AFile} {f : AFile} (n : Nat), findA fs t = some f → ∃ m, findA (dieAll keep n fs) t = some (dieA keep m f)
  | [], _, _, h => by simp [findA] at h
  | x :: fs, f, n, h => by
    unfold findA at h ⊢
    have hn : (dieA keep n x).name = x.name := rfl
    simp only [dieAll, List.find?_cons, hn] at h ⊢
    by_cases hx : (cmpS x.name t == 0) = true
    · rw [hx] at h ⊢
      cases h
      exact ⟨n, rfl⟩
    · have e1 : (cmpS x.name t == 0) = false := by simpa using hx
      rw [e1] at h ⊢
      exact find_die keep _ h

theorem size_zero {a : ASt} {t : ByteArray} (h : (sizeA a t).2 = 0) : a.dead = false ∧ ∃ f, findA a.fs t = some f ∧ sizeA a t = (f.data.length, 0) := by
  unfold sizeA at h ⊢
  by_cases hd : a.dead = true
  · rw [if_pos hd] at h; simp at h
  · rw [if_neg hd] at h ⊢
    refine ⟨by simpa using hd, ?_⟩
    cases hf : findA a.fs t with
    | none => rw [hf] at h; simp at h
    | some f => exact ⟨f, rfl, rfl⟩

theorem sync_zero {a : ASt} {t : ByteArray} {f : AFile} (h : (syncA a t).2 = 0) (hf : findA a.fs t = some f) : a.dead = false ∧ (syncA a t).1 = { bumpA a with fs := setA a.fs t syncF } := by
  unfold syncA onA at h ⊢
  by_cases h0 : (beginA a).2 = 0
  · obtain ⟨h1, h2⟩ := begin_zero h0
    refine ⟨h2, ?_⟩
    have h3 : (beginA a).1.fs = a.fs := by rw [h1]; rfl
    rw [if_neg (by simp [h0]), h3, hf]
    simp only [h1, (find_mem hf).2, bumpA]
  · rw [if_pos h0] at h; exact absurd h h0

/-- What was synced is there behind any death. -/
theorem synced_fact {a : ASt} (hc : Coh a) {t : ByteArray} (hs : (sizeA a t).2 = 0) (hy : (syncA a t).2 = 0) :
    ∃ l : List UInt8, (sizeA a t).1 = l.length ∧ readA (syncA a t).1 t 0 (sizeA a t).1 = (l, 0) ∧ (syncA a t).1.dead = false ∧
      sizeA (startA (syncA a t).1 0 0 [] [] []) t = ((sizeA a t).1, 0) ∧ readA (startA (syncA a t).1 0 0 [] [] []) t 0 (sizeA a t).1 = (l, 0) := by
  obtain ⟨hd, f, hf, hsz⟩ := size_zero hs
  obtain ⟨_, hy1⟩ := sync_zero hy hf
  have hF := find_setA (g := syncF) (fun _ => rfl) hf
  rw [hsz, hy1]
  have hdd : ({ bumpA a with fs := setA a.fs t syncF } : ASt).dead = false := hd
  obtain ⟨m, hm⟩ := find_die (keep := a.keep) 0 hF
  have hcf : f.data = applyAll f.chs f.safe := hc.whole f (find_mem hf).1
  refine ⟨f.data, rfl, ?_, hdd, ?_, ?_⟩
  · unfold readA
    rw [if_neg (by rw [hdd]; simp)]
    simp only [hF]
    rw [if_neg (by simp [syncF])]
    simp [syncF]
  · unfold sizeA
    have e1 : (startA { bumpA a with fs := setA a.fs t syncF } 0 0 [] [] []).dead = false := rfl
    have e2 : (startA { bumpA a with fs := setA a.fs t syncF } 0 0 [] [] []).fs = dieAll a.keep 0 (setA a.fs t syncF) := by
      show (if a.dead = true then _ else _) = _
      rw [if_neg (by rw [hd]; simp)]
      rfl
    rw [if_neg (by rw [e1]; simp), e2, hm]
    simp only [dieA, syncF, survAll, hcf]
  · unfold readA
    have e1 : (startA { bumpA a with fs := setA a.fs t syncF } 0 0 [] [] []).dead = false := rfl
    have e2 : (startA { bumpA a with fs := setA a.fs t syncF } 0 0 [] [] []).fs = dieAll a.keep 0 (setA a.fs t syncF) := by
      show (if a.dead = true then _ else _) = _
      rw [if_neg (by rw [hd]; simp)]
      rfl
    rw [if_neg (by rw [e1]; simp), e2, hm]
    have e3 : (dieA a.keep m (syncF f)).data = f.data := by simp only [dieA, syncF, survAll, hcf]
    simp only [e3]
    rw [if_neg (by simp)]
    simp

theorem OpAt.later {w w' : World} {a a1 a2 a3 : Option Addr} {c c1 c2 c3 : Nat} {o : AOp} (h : OpAt w a a1 a2 a3 c c1 c2 c3 o) (hb : Below w.heap.size w w') : OpAt w' a a1 a2 a3 c c1 c2 c3 o :=
  { h with
    lt := fun b e hne => Nat.lt_of_lt_of_le (h.lt b e hne) hb.size
    cell := fun b e j u hu => (hb.cell (p := b.add j) (by rw [add_block]; exact h.lt b e (by intro h0; rw [h0] at hu; simp at hu))).trans (h.cell b e j u hu)
    keep := h.keep.later hb
    fail := h.fail.later hb
    full := h.full.later hb }

theorem OpsAt.later {w w' : World} {v : Value} {L : List AOp} (h : OpsAt w v L) (hb : Below w.heap.size w w') : OpsAt w' v L := by
  rcases h with h | ⟨blk, off, cap, h1, h2, h3, h4⟩
  · exact .inl h
  · refine .inr ⟨blk, off, cap, h1, Nat.lt_of_lt_of_le h2 hb.size, h3, fun j o hj => ?_⟩
    obtain ⟨a, a1, a2, a3, c, c1, c2, c3, h5, h6⟩ := h4 j o hj
    exact ⟨a, a1, a2, a3, c, c1, c2, c3, h5.later hb, fun i u hu => (hb.cell (p := ⟨blk, off + j * 11 + i, none⟩) h2).trans (h6 i u hu)⟩

theorem Stp.below {role : Role} {w w' : World} (h : Stp noRole role w w') : Below w.heap.size w w' := ⟨h.os, h.tape, h.output, h.size, fun k hk => h.keep k hk (.inl rfl)⟩

/-- A disk that was made since w. -/
def Lives (w wr : World) (D : Nat) (n : Nat) : Prop := ∃ role s, DiskOK wr role D s ∧ Stp noRole role w wr ∧ Coh (abs s) ∧ s.ops ≤ n

theorem Lives.still {w wr wr' : World} {D n : Nat} (h : Lives w wr D n) (hb : Below wr.heap.size wr wr') : Lives w wr' D n := by
  obtain ⟨role, s, h1, h2, h3, h4⟩ := h
  exact ⟨role, s, h1.still hb, h2.trans (Stp.still hb), h3, h4⟩

theorem Lives.does {w wr : World} {D n : Nat} (h : Lives w wr D n) (hn : n ≤ 1000) {a a1 a2 a3 : Option Addr} {c c1 c2 c3 : Nat} {o : AOp} (hop : OpAt wr a a1 a2 a3 c c1 c2 c3 o) (h7 : o.kind ≠ 7) :
    Calls Try.prog 14 #[.pointer (some ⟨D, 0, none⟩), opV a a1 a2 a3 c c1 c2 c3 o] wr fun r w' => (∃ e, r = .returned (.int .i64 e)) ∧ Hid (Lives w w' D (n + 1)) := by
  obtain ⟨role, s, h1, h2, h3, h4⟩ := h
  refine (do_D h1 (by omega) h3.dead a a1 a2 a3 c c1 c2 c3 o hop).mono ?_
  rintro r w' ⟨rfl, role', s', g1, g2, g3⟩
  refine ⟨⟨_, rfl⟩, role', s', g1, h2.trans g2, by rw [g3]; exact do_coh h3 o, ?_⟩
  have := (do_ops (a := abs s) o h7).2
  rw [← g3] at this
  have h5 : (abs s').ops = s'.ops := rfl
  have h6 : (abs s).ops = s.ops := rfl
  omega

end Go.Proofs.Ytcceaokldphfgaa
