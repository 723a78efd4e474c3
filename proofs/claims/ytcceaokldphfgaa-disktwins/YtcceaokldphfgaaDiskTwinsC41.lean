/- YtcceaokldphfgaaDiskTwinsC41 -/
import Derived.Test.YtcceaokldphfgaaDiskTwinsC38
import Derived.Test.YtcceaokldphfgaaDiskTwinsC36
import Derived.Test.YtcceaokldphfgaaDiskTwinsC39
import Derived.Test.YtcceaokldphfgaaDiskTwinsC40
namespace Go.Proofs.Ytcceaokldphfgaa
open Go.RowKit Go.Shelf

/-- Files that are told. -/
def FilesAt (w : World) (B : Nat) (v : Value) (l : List (ByteArray × List UInt8)) : Prop := ∃ cs, w.ownsRow B 69 2 v l.length cs ∧ Told B w cs l

theorem FilesAt.to {w w' : World} {B : Nat} {v : Value} {l : List (ByteArray × List UInt8)} (h : FilesAt w B v l) (hs : ∀ k, B ≤ k → k < w.heap.size → w'.heap[k]? = w.heap[k]?) : FilesAt w' B v l := by
  obtain ⟨cs, h1, h2⟩ := h
  refine ⟨cs, ?_, h2.same fun k cur hk hc => hs k hk (Array.getElem?_eq_some_iff.1 hc).1⟩
  obtain ⟨hl, h0 | ⟨g, cap, cur, rfl, hb, hg, hr⟩⟩ := h1
  · exact ⟨hl, .inl h0⟩
  · exact ⟨hl, .inr ⟨g, cap, cur, rfl, hb, (hs g hb (Array.getElem?_eq_some_iff.1 hg).1).trans hg, hr⟩⟩

theorem FilesAt.later {w w' : World} {B : Nat} {v : Value} {l : List (ByteArray × List UInt8)} (h : FilesAt w B v l) (hb : Below w.heap.size w w') : FilesAt w' B v l := h.to fun k _ hk => hb.block k hk

theorem FilesAt.shape {w : World} {B : Nat} {v : Value} {l : List (ByteArray × List UInt8)} (h : FilesAt w B v l) : ∃ a c, v = .slice a l.length c ∧ l.length ≤ 9223372036854775807 := by
  obtain ⟨cs, h1, _⟩ := h
  rcases h1.2 with ⟨rfl, h0⟩ | ⟨g, cap, cur, rfl, hb, hg, hn, hm, _⟩
  · exact ⟨none, 0, by rw [h0], by omega⟩
  · exact ⟨_, _, rfl, by unfold maxLen at hm; omega⟩

theorem FilesAt.at_ {w : World} {B : Nat} {a : Option Addr} {c : Nat} {l : List (ByteArray × List UInt8)} (h : FilesAt w B (.slice a l.length c) l) {j : Nat} (hj : j < l.length) :
    ∃ g q m k, a = some ⟨g, 0, none⟩ ∧ w.cell? ⟨g, j * 2, none⟩ = some (.string l[j].1) ∧ w.cell? ⟨g, j * 2 + 1, none⟩ = some (.slice q m k) ∧ m = l[j].2.length ∧ ∀ w', Below w.heap.size w w' → (convert 33 9 (.slice q m k)).run Try.prog w' = .ok (.string ⟨l[j].2.toArray⟩) w' := by
  obtain ⟨cs, h1, h2⟩ := h
  obtain ⟨bv, e1, e2, e3⟩ := h2 j l[j] (by simp [hj])
  rcases h1.2 with ⟨e0, h0⟩ | ⟨g, cap, cur, e0, hb, hg, hn, hm, hz, ht⟩
  · omega
  · simp only [Value.slice.injEq] at e0
    obtain ⟨q, k, rfl⟩ := own_shape e3
    have hcell : ∀ (i : Nat) (u : Value), cs[i]? = some u → w.cell? ⟨g, i, none⟩ = some u := fun i u hu => by
      refine blk_cell hg ?_
      rw [← ht, List.getElem?_take] at hu
      split at hu
      · simpa using hu
      · cases hu
    refine ⟨g, q, _, k, e0.1, hcell _ _ (by rw [Nat.mul_comm]; exact e1), hcell _ _ (by rw [Nat.mul_comm]; exact e2), rfl, fun w' hb' => conv_out (own_below e3 hb')⟩

set_option maxHeartbeats 1000000 in
set_option maxRecDepth 100000 in
theorem same_true {w : World} {B B' : Nat} {v u : Value} {l : List (ByteArray × List UInt8)} (h : FilesAt w B v l) (h' : FilesAt w B' u l) :
    Calls Try.prog 28 #[v, u] w fun r w' => r = .returned (.bool true) ∧ Below w.heap.size w w' := by
  obtain ⟨a, c, rfl, hm⟩ := h.shape
  obtain ⟨b, d, rfl, _⟩ := h'.shape
  have H := hideP h
  have H' := hideP h'
  have hnn : ((l.length : Int) != (l.length : Int)) = false := by simp
  clear h h'
  go_enter Try.func28, Try.ntmps28
  go_wp2
  go_loopw [5, 13] (fun _ i wr => ∃ j : Nat, j ≤ l.length ∧ i = .int .i64 j ∧ Hid (Below w.heap.size w wr)) (fun _ i _ => l.length - (intOf i).toNat)
  case atStart => exact ⟨0, Nat.zero_le _, rfl, Below.refl _ _⟩
  case round =>
    obtain ⟨j, hj, rfl, hb⟩ := hrel
    by_cases hjl : j < l.length
    · obtain ⟨g, q, m, k, rfl, m1, m2, hm1, m3⟩ := (H.out.later hb.out).at_ hjl
      obtain ⟨g', q', m', k', rfl, n1, n2, hm2, n3⟩ := (H'.out.later hb.out).at_ hjl
      have c1 := m3 wr.drew (Below.refl _ _).drew
      have c2 := n3 wr.drew (Below.refl _ _).drew
      have hse1 : (l[j].1.toList == l[j].1.toList) = true := by simp
      have hse2 : ((⟨l[j].2.toArray⟩ : ByteArray).toList == (⟨l[j].2.toArray⟩ : ByteArray).toList) = true := by simp
      have HBD : Hid (Below w.heap.size w wr.drew) := hb.out.drew
      clear m3 n3 hm1 hm2 hb
      go_wp2
      go_region
      go_wp2
      go_roundw
      case rel => exact ⟨j + 1, by omega, by go_num, HBD⟩
      case measure => simp [intOf]; omega
    · have hjl' : j = l.length := by omega
      subst hjl'
      go_wp2
      go_ret
      exact ⟨rfl, hb.out⟩

end Go.Proofs.Ytcceaokldphfgaa

namespace Go.Proofs.Ytcceaokldphfgaa
open Go.RowKit Go.Shelf

/-- A disk that lives, and whose plan has no crash. -/
structure Quiet (K : List Int) (R : Int) (a : ASt) : Prop where
  live : a.dead = false
  crash : a.crash = 0
  keep : a.keep = K
  room : a.room = R
  ops : 0 ≤ a.ops

theorem Quiet.fs {K : List Int} {R : Int} {a : ASt} (h : Quiet K R a) (fs : List AFile) : Quiet K R { a with fs := fs } := ⟨h.live, h.crash, h.keep, h.room, h.ops⟩

/-- What is told of all files. -/
def dataL (fs : List AFile) : List (ByteArray × List UInt8) := fs.map fun f => (f.name, f.data)

def safeL (fs : List AFile) : List (ByteArray × List UInt8) := fs.map fun f => (f.name, f.safe)

theorem files_D {w : World} {role : Role} {D : Nat} {s : DSt} (h : DiskOK w role D s) (hd : s.dead = false) :
    Calls Try.prog 21 #[.pointer (some ⟨D, 0, none⟩)] w fun r w' => ∃ a n c, r = .returned (.slice a n c) ∧ Hid (FilesAt w' w.heap.size (.slice a n c) (dataL (abs s).fs)) ∧ Below w.heap.size w w' := by
  refine (callsIn_wide.1 (filesT_in h hd 10 (by omega))).mono ?_
  rintro r w' ⟨⟨a, c, cs, rfl, h1, h2⟩, hb⟩
  have e : dataL (abs s).fs = s.fs.map fun f => (f.a.name, f.a.data) := by simp [dataL, abs]
  refine ⟨a, _, c, rfl, ⟨cs, by rw [e, List.length_map]; exact h1, by rw [e]; exact h2⟩, hb⟩

theorem safe_D {w : World} {role : Role} {D : Nat} {s : DSt} (h : DiskOK w role D s) :
    Calls Try.prog 22 #[.pointer (some ⟨D, 0, none⟩)] w fun r w' => ∃ a n c, r = .returned (.slice a n c) ∧ Hid (FilesAt w' w.heap.size (.slice a n c) (safeL (abs s).fs)) ∧ Below w.heap.size w w' := by
  refine (callsIn_wide.1 (safeT_in h 10 (by omega))).mono ?_
  rintro r w' ⟨⟨a, c, cs, rfl, h1, h2⟩, hb⟩
  have e : safeL (abs s).fs = s.fs.map fun f => (f.a.name, f.a.safe) := by simp [safeL, abs]
  refine ⟨a, _, c, rfl, ⟨cs, by rw [e, List.length_map]; exact h1, by rw [e]; exact h2⟩, hb⟩

theorem ops_D {w : World} {role : Role} {D : Nat} {s : DSt} (h : DiskOK w role D s) : Calls Try.prog 16 #[.pointer (some ⟨D, 0, none⟩)] w fun r w' => r = .returned (.int .i64 (abs s).ops) ∧ w = w' :=
  (ops_any D s.ops w (blk_cell h.blk rfl)).mono fun _ _ ⟨h1, h2⟩ => ⟨h1, h2.symm⟩

/-- A disk that was made since w, with something that all operations keep. -/
def LivesZ (Z : ASt → Prop) (w wr : World) (D : Nat) (n : Nat) : Prop := ∃ role s, DiskOK wr role D s ∧ Stp noRole role w wr ∧ Coh (abs s) ∧ s.ops ≤ n ∧ Z (abs s)

theorem LivesZ.still {Z : ASt → Prop} {w wr wr' : World} {D n : Nat} (h : LivesZ Z w wr D n) (hb : Below wr.heap.size wr wr') : LivesZ Z w wr' D n := by
  obtain ⟨role, s, h1, h2, h3, h4⟩ := h
  exact ⟨role, s, h1.still hb, h2.trans (Stp.still hb), h3, h4⟩

theorem LivesZ.more {Z : ASt → Prop} {w wr : World} {D n m : Nat} (h : LivesZ Z w wr D n) (hm : n ≤ m) : LivesZ Z w wr D m := by
  obtain ⟨role, s, h1, h2, h3, h4, h5⟩ := h
  exact ⟨role, s, h1, h2, h3, by omega, h5⟩

theorem LivesZ.does {Z : ASt → Prop} (hZ : ∀ a o, Z a → Coh a → o.kind ≠ 7 → Z (doA a o).1) {w wr : World} {D n : Nat} (h : LivesZ Z w wr D n) (hn : n ≤ 1000) {a a1 a2 a3 : Option Addr} {c c1 c2 c3 : Nat} {o : AOp} (hop : OpAt wr a a1 a2 a3 c c1 c2 c3 o) (h7 : o.kind ≠ 7) :
    Calls Try.prog 14 #[.pointer (some ⟨D, 0, none⟩), opV a a1 a2 a3 c c1 c2 c3 o] wr fun r w' => (∃ e, r = .returned (.int .i64 e)) ∧ Hid (LivesZ Z w w' D (n + 1)) := by
  obtain ⟨role, s, h1, h2, h3, h4, h8⟩ := h
  refine (do_D h1 (by omega) h3.dead a a1 a2 a3 c c1 c2 c3 o hop).mono ?_
  rintro r w' ⟨rfl, role', s', g1, g2, g3⟩
  refine ⟨⟨_, rfl⟩, role', s', g1, h2.trans g2, by rw [g3]; exact do_coh h3 o, ?_, by rw [g3]; exact hZ _ o h8 h3 h7⟩
  have := (do_ops (a := abs s) o h7).2
  rw [← g3] at this
  have h5 : (abs s').ops = s'.ops := rfl
  have h6 : (abs s).ops = s.ops := rfl
  omega

/-- The j-th operation, where the loop is. -/
theorem OpsAt.at_ {w : World} {av : Option Addr} {cv : Nat} {L : List AOp} (h : OpsAt w (.slice av L.length cv) L) {j : Nat} (hj : j < L.length) : ∃ blk off, av = some ⟨blk, off, none⟩ ∧ ∃ a a1 a2 a3 c c1 c2 c3, OpAt w a a1 a2 a3 c c1 c2 c3 L[j] ∧ ∀ (i : Nat) (u : Value), (opC a a1 a2 a3 c c1 c2 c3 L[j])[i]? = some u → w.cell? ⟨blk, off + j * 11 + i, none⟩ = some u := by
  rcases h with ⟨h0, _⟩ | ⟨blk, off, cap, h1, _, _, h4⟩
  · rw [h0] at hj; simp at hj
  · simp only [Value.slice.injEq] at h1
    exact ⟨blk, off, h1.1, h4 j L[j] (by simp [hj])⟩

theorem OpsAt.shape {w : World} {v : Value} {L : List AOp} (h : OpsAt w v L) : ∃ a c, v = .slice a L.length c := by
  rcases h with ⟨h0, a, c, h⟩ | ⟨blk, off, cap, h, _⟩
  · exact ⟨a, c, by rw [h, h0]; rfl⟩
  · exact ⟨_, _, h⟩

end Go.Proofs.Ytcceaokldphfgaa
