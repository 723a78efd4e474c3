/- YtcceaokldphfgaaDiskAllC48 -/
import Derived.Test.YtcceaokldphfgaaDiskAllC41
import Derived.Test.YtcceaokldphfgaaDiskAllC45
import Derived.Test.YtcceaokldphfgaaDiskAllC46
import Derived.Test.YtcceaokldphfgaaDiskAllC47
namespace Go.Proofs.Ytcceaokldphfgaa
open Go.RowKit Go.Shelf

/-- A disk that lives, and whose plan has no crash. -/
structure Quiet (K : List Int) (R : Int) (a : ASt) : Prop where
  live : a.dead = false
  crash : a.crash = 0
  keep : a.keep = K
  room : a.room = R
  ops : 0 ≤ a.ops

theorem begin_quiet {K : List Int} {R : Int} {a : ASt} (h : Quiet K R a) : Quiet K R (beginA a).1 ∧ (beginA a).1.fs = a.fs := by
  unfold beginA
  rw [if_neg (by rw [h.live]; simp), if_neg (by rw [h.crash]; have := h.ops; omega)]
  refine ⟨⟨h.live, h.crash, h.keep, h.room, ?_⟩, rfl⟩
  have := h.ops
  show 0 ≤ a.ops + 1
  omega

theorem on_quiet {K : List Int} {R : Int} {a : ASt} {t : ByteArray} {k : ASt → AFile → ASt × Int} (h : Quiet K R a) (hk : ∀ b f, Quiet K R b → Quiet K R (k b f).1) : Quiet K R (onA a t k).1 := by
  unfold onA
  split
  · exact (begin_quiet h).1
  · split
    · exact (begin_quiet h).1
    · exact hk _ _ (begin_quiet h).1

theorem Quiet.fs {K : List Int} {R : Int} {a : ASt} (h : Quiet K R a) (fs : List AFile) : Quiet K R { a with fs := fs } := ⟨h.live, h.crash, h.keep, h.room, h.ops⟩

theorem chg_quiet {K : List Int} {R : Int} {a : ASt} (h : Quiet K R a) (c : Chg) (f : AFile) : Quiet K R (chgA c a f).1 := by
  unfold chgA
  split
  · exact h
  · exact h.fs _

theorem do_quiet {K : List Int} {R : Int} {a : ASt} (h : Quiet K R a) (o : AOp) (h7 : o.kind ≠ 7) : Quiet K R (doA a o).1 := by
  unfold doA
  split
  · unfold createA
    repeat' split
    all_goals first | exact (begin_quiet h).1 | exact (begin_quiet h).1.fs _
  split
  · exact on_quiet h fun b f hb => by split <;> first | exact hb | exact chg_quiet hb _ _
  split
  · exact on_quiet h fun b f hb => by repeat' split
                                      all_goals first | exact hb | exact chg_quiet hb _ _
  split
  · exact on_quiet h fun b f hb => by repeat' split
                                      all_goals first | exact hb | exact chg_quiet hb _ _
  split
  · exact on_quiet h fun b f hb => hb.fs _
  split
  · exact on_quiet h fun b f hb => by repeat' split
                                      all_goals first | exact hb | exact hb.fs _
  split
  · exact on_quiet h fun b f hb => hb.fs _
  exact h

/-- What is told of all files. -/
def dataL (fs : List AFile) : List (ByteArray × List UInt8) := fs.map fun f => (f.name, f.data)

def safeL (fs : List AFile) : List (ByteArray × List UInt8) := fs.map fun f => (f.name, f.safe)

theorem surv_all : ∀ (cs : List Chg) (n : Nat) (xs : List UInt8), (∀ i, keepAt [(-1 : Int)] i = -1) → survAll [-1] n cs xs = applyAll cs xs
  | [], _, _, _ => rfl
  | c :: cs, n, xs, hk => by
    have h1 : surviveC c (-1) xs = applyC c xs := by
      cases c with
      | inl q => simp [surviveC, applyC]
      | inr l => simp [surviveC, applyC]
    simp only [survAll, hk, h1]
    rw [surv_all cs (n + 1) _ hk]
    rfl

theorem surv_none : ∀ (cs : List Chg) (n : Nat) (xs : List UInt8), survAll [] n cs xs = xs
  | [], _, _ => rfl
  | c :: cs, n, xs => by
    have h0 : keepAt [] n = 0 := rfl
    have h1 : surviveC c 0 xs = xs := by
      cases c with
      | inl q => simp [surviveC]
      | inr l => simp [surviveC]
    simp only [survAll, h0, h1]
    exact surv_none cs (n + 1) xs

theorem keep_one (i : Nat) : keepAt [(-1 : Int)] i = -1 := by
  unfold keepAt
  simp [Nat.mod_one]

theorem die_all : ∀ (fs : List AFile) (n : Nat), (∀ f ∈ fs, Whole f) → dataL (dieAll [-1] n fs) = dataL fs ∧ safeL (dieAll [-1] n fs) = dataL fs
  | [], _, _ => ⟨rfl, rfl⟩
  | f :: fs, n, h => by
    obtain ⟨h1, h2⟩ := die_all fs (n + f.chs.length) (fun g hg => h g (by simp [hg]))
    have h3 : survAll [-1] n f.chs f.safe = f.data := by
      rw [surv_all _ _ _ keep_one]
      exact (h f (by simp)).symm
    unfold dataL safeL at *
    simp only [dieAll, List.map_cons, dieA, h3, h1, h2]
    exact ⟨trivial, trivial⟩

theorem die_none : ∀ (fs : List AFile) (n : Nat), dataL (dieAll [] n fs) = safeL fs ∧ safeL (dieAll [] n fs) = safeL fs
  | [], _ => ⟨rfl, rfl⟩
  | f :: fs, n => by
    obtain ⟨h1, h2⟩ := die_none fs (n + f.chs.length)
    unfold dataL safeL at *
    simp only [dieAll, List.map_cons, dieA, surv_none, h1, h2]
    exact ⟨trivial, trivial⟩

theorem files_D {w : World} {role : Role} {D : Nat} {s : DSt} (h : DiskOK w role D s) (hd : s.dead = false) :
    Calls Try.prog 21 #[.pointer (some ⟨D, 0, none⟩)] w fun r w' => ∃ a n c, r = .returned (.slice a n c) ∧ Hid (FilesAt w' w.heap.size (.slice a n c) (dataL (abs s).fs)) ∧ Below w.heap.size w w' := by
  refine (callsIn_wide.1 (filesT_in h hd 10 (by omega))).mono ?_
  rintro r w' ⟨⟨a, c, cs, rfl, h1, h2⟩, hb⟩
  have e : dataL (abs s).fs = s.fs.map fun f => (f.a.name, f.a.data) := by simp [dataL, abs]
  refine ⟨a, _, c, rfl, ⟨cs, by rw [e, List.length_map]; exact h1, by rw [e]; exact h2⟩, hb⟩

theorem safe_D {w : World} {role : Role} {D : Nat} {s : DSt} (h : DiskOK w role D s) :
    Calls Try.prog 22 #[.pointer (some ⟨D, 0, none⟩)] w fun r w' => ∃ a n c, r = .returned (.slice a n c) ∧ Hid (FilesAt w' w.heap.size (.slice a n c) (safeL (abs s).fs)) ∧ Below w.heap.size w w' := by
  refine (callsIn_wide.1 (safeT_in h 10 (by omega))).mono ?_
  rintro r w' ⟨⟨a, c, cs, rfl, h1, h2⟩, hb⟩
  have e : safeL (abs s).fs = s.fs.map fun f => (f.a.name, f.a.safe) := by simp [safeL, abs]
  refine ⟨a, _, c, rfl, ⟨cs, by rw [e, List.length_map]; exact h1, by rw [e]; exact h2⟩, hb⟩

theorem ops_D {w : World} {role : Role} {D : Nat} {s : DSt} (h : DiskOK w role D s) : Calls Try.prog 16 #[.pointer (some ⟨D, 0, none⟩)] w fun r w' => r = .returned (.int .i64 (abs s).ops) ∧ w = w' :=
  (ops_any D s.ops w (blk_cell h.blk rfl)).mono fun _ _ ⟨h1, h2⟩ => ⟨h1, h2.symm⟩

/-- A disk that was made since w, with something that all operations keep. -/
def LivesZ (Z : ASt → Prop) (w wr : World) (D : Nat) (n : Nat) : Prop := ∃ role s, DiskOK wr role D s ∧ Stp noRole role w wr ∧ Coh (abs s) ∧ s.ops ≤ n ∧ Z (abs s)

theorem LivesZ.still {Z : ASt → Prop} {w wr wr' : World} {D n : Nat} (h : LivesZ Z w wr D n) (hb : Below wr.heap.size wr wr') : LivesZ Z w wr' D n := by
  obtain ⟨role, s, h1, h2, h3, h4⟩ := h
  exact ⟨role, s, h1.still hb, h2.trans (Stp.still hb), h3, h4⟩

theorem LivesZ.more {Z : ASt → Prop} {w wr : World} {D n m : Nat} (h : LivesZ Z w wr D n) (hm : n ≤ m) : LivesZ Z w wr D m := by
  obtain ⟨role, s, h1, h2, h3, h4, h5⟩ := h
  exact ⟨role, s, h1, h2, h3, by omega, h5⟩

theorem LivesZ.does {Z : ASt → Prop} (hZ : ∀ a o, Z a → Coh a → o.kind ≠ 7 → Z (doA a o).1) {w wr : World} {D n : Nat} (h : LivesZ Z w wr D n) (hn : n ≤ 1000) {a a1 a2 a3 : Option Addr} {c c1 c2 c3 : Nat} {o : AOp} (hop : OpAt wr a a1 a2 a3 c c1 c2 c3 o) (h7 : o.kind ≠ 7) :
    Calls Try.prog 14 #[.pointer (some ⟨D, 0, none⟩), opV a a1 a2 a3 c c1 c2 c3 o] wr fun r w' => (∃ e, r = .returned (.int .i64 e)) ∧ Hid (LivesZ Z w w' D (n + 1)) := by
  obtain ⟨role, s, h1, h2, h3, h4, h8⟩ := h
  refine (do_D h1 (by omega) h3.dead a a1 a2 a3 c c1 c2 c3 o hop).mono ?_
  rintro r w' ⟨rfl, role', s', g1, g2, g3⟩
  refine ⟨⟨_, rfl⟩, role', s', g1, h2.trans g2, by rw [g3]; exact do_coh h3 o, ?_, by rw [g3]; exact hZ _ o h8 h3 h7⟩
  have := (do_ops (a := abs s) o h7).2
  rw [← g3] at this
  have h5 : (abs s').ops = s'.ops := rfl
  have h6 : (abs s).ops = s.ops := rfl
  omega

/-- The j-th operation, where the loop is. -/
theorem OpsAt.at_ {w : World} {av : Option Addr} {cv : Nat} {L : List AOp} (h : OpsAt w (.slice av L.length cv) L) {j : Nat} (hj : j < L.length) : ∃ blk off, av = some ⟨blk, off, none⟩ ∧ ∃ a a1 a2 a3 c c1 c2 c3, OpAt w a a1 a2 a3 c c1 c2 c3 L[j] ∧ ∀ (i : Nat) (u : Value), (opC a a1 a2 a3 c c1 c2 c3 L[j])[i]? = some u → w.cell? ⟨blk, off + j * 11 + i, none⟩ = some u := by
  rcases h with ⟨h0, _⟩ | ⟨blk, off, cap, h1, _, _, h4⟩
  · rw [h0] at hj; simp at hj
  · simp only [Value.slice.injEq] at h1
    exact ⟨blk, off, h1.1, h4 j L[j] (by simp [hj])⟩

theorem OpsAt.shape {w : World} {v : Value} {L : List AOp} (h : OpsAt w v L) : ∃ a c, v = .slice a L.length c := by
  rcases h with ⟨h0, a, c, h⟩ | ⟨blk, off, cap, h, _⟩
  · exact ⟨a, c, by rw [h, h0]; rfl⟩
  · exact ⟨_, _, h⟩

end Go.Proofs.Ytcceaokldphfgaa
