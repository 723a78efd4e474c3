/- YtcceaokldphfgaaDiskDoesC24 -/
import Derived.Test.YtcceaokldphfgaaDiskDoesC23
import Derived.Test.YtcceaokldphfgaaDiskDoesC22
import Derived.Test.YtcceaokldphfgaaDiskDoesC15
namespace Go.Proofs.Ytcceaokldphfgaa
open Go.RowKit Go.Shelf

/-- The eleven cells of an operation. -/
def opC (a a1 a2 a3 : Option Addr) (c c1 c2 c3 : Nat) (o : AOp) : List Value :=
  [.int .i64 o.kind, .string o.name, .string o.to, .int .i64 o.at_, .int .i64 o.long, .slice a o.data.length c, .int .i64 o.crash, .slice a1 o.keep.length c1, .slice a2 o.fail.length c2, .slice a3 o.full.length c3, .int .i64 o.room]

/-- Operations that can be read. -/
def OpsAt (w : World) (v : Value) (L : List AOp) : Prop :=
  (L = [] ∧ ∃ a c, v = .slice a 0 c) ∨ ∃ blk off cap, v = .slice (some ⟨blk, off, none⟩) L.length cap ∧ blk < w.heap.size ∧ L.length ≤ 140737488351232 ∧
    ∀ (j : Nat) (o : AOp), L[j]? = some o → ∃ a a1 a2 a3 c c1 c2 c3, OpAt w a a1 a2 a3 c c1 c2 c3 o ∧ ∀ (i : Nat) (u : Value), (opC a a1 a2 a3 c c1 c2 c3 o)[i]? = some u → w.cell? ⟨blk, off + j * 11 + i, none⟩ = some u

/-- What few answers. -/
def FewR (L : List AOp) (r : Ending) : Prop := ∃ b, r = .returned (.bool b) ∧ (b = true → L.length ≤ 60)

set_option maxHeartbeats 1000000 in
set_option maxRecDepth 100000 in
theorem few_some (w : World) (blk off cap : Nat) (L : List AOp) (hlt : blk < w.heap.size) (hlen : L.length ≤ 140737488351232)
    (hr : ∀ (j : Nat) (o : AOp), L[j]? = some o → ∃ a a1 a2 a3 c c1 c2 c3, OpAt w a a1 a2 a3 c c1 c2 c3 o ∧ ∀ (i : Nat) (u : Value), (opC a a1 a2 a3 c c1 c2 c3 o)[i]? = some u → w.cell? ⟨blk, off + j * 11 + i, none⟩ = some u) :
    Calls Try.prog 10 #[.slice (some ⟨blk, off, none⟩) L.length cap] w fun r w' => FewR L r ∧ Below w.heap.size w w' := by
  have HR := hideP hr
  clear hr
  go_enter Try.func10, Try.ntmps10
  go_wp2
  go_loopw [3, 8] (fun n i wr => ∃ (k : Int) (j : Nat), j ≤ L.length ∧ n = .int .i64 k ∧ i = .int .i64 j ∧ Hid (Below w.heap.size w wr)) (fun _ i _ => L.length - (intOf i).toNat)
  case atStart => exact ⟨0, 0, Nat.zero_le _, rfl, rfl, Below.refl _ _⟩
  case round =>
    obtain ⟨k, j, hj, rfl, rfl, hb⟩ := hrel
    by_cases hjl : j < L.length
    · obtain ⟨a, a1, a2, a3, c, c1, c2, c3, hop, hcell⟩ := HR.out j L[j] (by simp [hjl])
      have hcw : ∀ (i : Nat) (u : Value), (opC a a1 a2 a3 c c1 c2 c3 L[j])[i]? = some u → wr.cell? ⟨blk, off + j * 11 + i, none⟩ = some u := fun i u hu => (hb.out.cell (p := ⟨blk, off + j * 11 + i, none⟩) hlt).trans (hcell i u hu)
      have m0 := hcw 0 _ rfl
      have m1 := hcw 1 _ rfl
      have m2 := hcw 2 _ rfl
      have m3 := hcw 3 _ rfl
      have m4 := hcw 4 _ rfl
      have m5 := hcw 5 _ rfl
      have m6 := hcw 6 _ rfl
      have m7 := hcw 7 _ rfl
      have m8 := hcw 8 _ rfl
      have m9 := hcw 9 _ rfl
      have m10 := hcw 10 _ rfl
      simp only [Nat.add_zero] at m0
      clear hcw hcell hop
      have HBA : Hid (∀ o, Below w.heap.size w (wr.alloc o)) := fun o => hb.out.alloc hb.out.size o
      clear hb
      go_wp2
      all_goals first
        | exact ⟨⟨_, j + 1, by omega, rfl, by go_num, HBA.out _⟩, by simp [intOf]; omega⟩
        | (go_ret; exact ⟨⟨false, rfl, by simp⟩, HBA.out _⟩)
    · have hjl' : j = L.length := by omega
      subst hjl'
      go_wp2
      all_goals go_ret
      all_goals exact ⟨⟨_, rfl, by simp; omega⟩, hb.out⟩

theorem few_D (w : World) (v : Value) (L : List AOp) (h : OpsAt w v L) : Calls Try.prog 10 #[v] w fun r w' => FewR L r ∧ Below w.heap.size w w' := by
  rcases h with ⟨rfl, a, c, rfl⟩ | ⟨blk, off, cap, rfl, h1, h2, h3⟩
  · go_enter Try.func10, Try.ntmps10
    go_wp2
    go_loopw [8] (fun i wr => i = .int .i64 0 ∧ wr = w) (fun _ _ => 0)
    case atStart => exact ⟨rfl, rfl⟩
    case round =>
      obtain ⟨rfl, rfl⟩ := hrel
      go_wp2
      go_ret
      exact ⟨⟨_, rfl, by simp⟩, Below.refl _ _⟩
  · exact few_some w blk off cap L h1 h2 h3

end Go.Proofs.Ytcceaokldphfgaa

namespace Go.Proofs.Ytcceaokldphfgaa
open Go.RowKit Go.Shelf

/-- Data are the safe bytes with all changes done; a dead disk has none. -/
def Whole (f : AFile) : Prop := f.data = applyAll f.chs f.safe

structure Coh (a : ASt) : Prop where
  whole : ∀ f ∈ a.fs, Whole f
  dead : a.dead = true → ∀ f ∈ a.fs, f.chs = []

theorem whole_die (keep : List Int) : ∀ (l : List AFile) (n : Nat), ∀ a ∈ dieAll keep n l, Whole a
  | [], _, a, h => by simp [dieAll] at h
  | x :: l, n, a, h => by
    simp only [dieAll, List.mem_cons] at h
    rcases h with rfl | h
    · rfl
    · exact whole_die keep l _ a h

theorem begin_zero {a : ASt} (h : (beginA a).2 = 0) : (beginA a).1 = bumpA a ∧ a.dead = false := by
  unfold beginA at h ⊢
  by_cases h1 : a.dead = true
  · rw [if_pos h1] at h; simp at h
  · rw [if_neg h1] at h ⊢
    by_cases h2 : a.ops + 1 = a.crash
    · rw [if_pos h2] at h; simp at h
    · rw [if_neg h2]
      exact ⟨rfl, by simpa using h1⟩

theorem begin_coh {a : ASt} (h : Coh a) : Coh (beginA a).1 := by
  unfold beginA
  split
  · exact h
  · split
    · exact ⟨whole_die _ _ _, fun _ => chs_die _ _ _⟩
    · exact ⟨h.whole, h.dead⟩

theorem begin_ops (a : ASt) : a.ops ≤ (beginA a).1.ops ∧ (beginA a).1.ops ≤ a.ops + 1 := by
  unfold beginA
  split
  · show a.ops ≤ a.ops ∧ a.ops ≤ a.ops + 1
    omega
  · split
    · show a.ops ≤ a.ops + 1 ∧ a.ops + 1 ≤ a.ops + 1
      omega
    · show a.ops ≤ a.ops + 1 ∧ a.ops + 1 ≤ a.ops + 1
      omega

theorem find_mem {fs : List AFile} {t : ByteArray} {f : AFile} (h : findA fs t = some f) : f ∈ fs ∧ f.name = t := by
  unfold findA at h
  refine ⟨List.mem_of_find?_eq_some h, ?_⟩
  have := List.find?_some h
  exact cmpS_zero.1 (by simpa using this)

theorem on_coh {a : ASt} {t : ByteArray} {k : ASt → AFile → ASt × Int} (h : Coh a) (hk : ∀ b f, Coh b → b.dead = false → f ∈ b.fs → Coh (k b f).1) : Coh (onA a t k).1 := by
  unfold onA
  split
  · exact begin_coh h
  · rename_i h0
    simp only [ne_eq, Decidable.not_not] at h0
    obtain ⟨h1, h2⟩ := begin_zero h0
    split
    · exact begin_coh h
    · rename_i f hf
      exact hk _ f (begin_coh h) (by rw [h1]; exact h2) (find_mem hf).1

theorem on_ops {a : ASt} {t : ByteArray} {k : ASt → AFile → ASt × Int} (hk : ∀ b f, (k b f).1.ops = b.ops) : a.ops ≤ (onA a t k).1.ops ∧ (onA a t k).1.ops ≤ a.ops + 1 := by
  unfold onA
  split
  · exact begin_ops a
  · split
    · exact begin_ops a
    · rw [hk]; exact begin_ops a

theorem mem_setA {fs : List AFile} {t : ByteArray} {g : AFile → AFile} {f : AFile} (h : f ∈ setA fs t g) : (f ∈ fs) ∨ ∃ x ∈ fs, f = g x := by
  unfold setA at h
  obtain ⟨x, hx, rfl⟩ := List.mem_map.1 h
  split
  · exact .inr ⟨x, hx, rfl⟩
  · exact .inl hx

theorem chg_coh {a : ASt} (h : Coh a) (hd : a.dead = false) (c : Chg) (f : AFile) : Coh (chgA c a f).1 := by
  unfold chgA
  split
  · exact h
  · refine ⟨fun x hx => ?_, fun e => by rw [hd] at e; cases e⟩
    rcases mem_setA hx with hx | ⟨y, hy, rfl⟩
    · exact h.whole x hx
    · unfold Whole changeA
      rw [applyAll_snoc, ← h.whole y hy]

theorem chg_ops (c : Chg) (a : ASt) (f : AFile) : (chgA c a f).1.ops = a.ops := by
  unfold chgA
  split <;> rfl

theorem mem_insA {fs : List AFile} {f x : AFile} (h : x ∈ insA fs f) : x = f ∨ x ∈ fs := by
  unfold insA at h
  rcases List.mem_append.1 h with h | h
  · exact .inr (List.mem_filter.1 h).1
  · rcases List.mem_cons.1 h with h | h
    · exact .inl h
    · exact .inr (List.mem_filter.1 h).1

theorem do_coh {a : ASt} (h : Coh a) (o : AOp) : Coh (doA a o).1 := by
  unfold doA
  split
  · unfold createA
    split
    · exact begin_coh h
    · rename_i h0
      simp only [ne_eq, Decidable.not_not] at h0
      obtain ⟨h1, h2⟩ := begin_zero h0
      repeat' split
      all_goals first
        | exact begin_coh h
        | (refine ⟨fun x hx => ?_, fun e => ?_⟩
           · rcases mem_insA hx with rfl | hx
             · rfl
             · exact (begin_coh h).whole x hx
           · have : (beginA a).1.dead = true := e
             rw [h1] at this
             have h3 : a.dead = true := this
             rw [h2] at h3; cases h3)
  split
  · exact on_coh h fun b f hb hd _ => by split <;> first | exact hb | exact chg_coh hb hd _ _
  split
  · exact on_coh h fun b f hb hd _ => by repeat' split
                                         all_goals first | exact hb | exact chg_coh hb hd _ _
  split
  · exact on_coh h fun b f hb hd _ => by repeat' split
                                         all_goals first | exact hb | exact chg_coh hb hd _ _
  split
  · refine on_coh h fun b f hb hd _ => ⟨fun x hx => ?_, fun e => by have : b.dead = true := e; rw [hd] at this; cases this⟩
    rcases mem_setA hx with hx | ⟨y, hy, rfl⟩
    · exact hb.whole x hx
    · unfold Whole syncF
      exact hb.whole y hy
  split
  · refine on_coh h fun b f hb hd hf => ?_
    repeat' split
    · exact hb
    · exact hb
    · refine ⟨fun x hx => ?_, fun e => by have : b.dead = true := e; rw [hd] at this; cases this⟩
      rcases mem_insA hx with rfl | hx
      · exact hb.whole f hf
      · exact hb.whole x (List.mem_filter.1 (List.mem_filter.1 hx).1).1
  split
  · refine on_coh h fun b f hb hd hf => ⟨fun x hx => hb.whole x (List.mem_filter.1 hx).1, fun e => by have : b.dead = true := e; rw [hd] at this; cases this⟩
  split
  · refine ⟨fun x hx => ?_, fun e => by simp [startA] at e⟩
    simp only [startA] at hx
    split at hx
    · exact h.whole x hx
    · exact whole_die _ _ _ x hx
  · exact h

theorem do_ops {a : ASt} (o : AOp) (h7 : o.kind ≠ 7) : a.ops ≤ (doA a o).1.ops ∧ (doA a o).1.ops ≤ a.ops + 1 := by
  unfold doA
  split
  · unfold createA
    repeat' split
    all_goals exact begin_ops a
  split
  · exact on_ops fun b f => by split <;> first | rfl | exact chg_ops _ _ _
  split
  · exact on_ops fun b f => by repeat' split
                               all_goals first | rfl | exact chg_ops _ _ _
  split
  · exact on_ops fun b f => by repeat' split
                               all_goals first | rfl | exact chg_ops _ _ _
  split
  · exact on_ops fun b f => rfl
  split
  · exact on_ops fun b f => by repeat' split
                               all_goals rfl
  split
  · exact on_ops fun b f => rfl
  show a.ops ≤ a.ops ∧ a.ops ≤ a.ops + 1
  omega

end Go.Proofs.Ytcceaokldphfgaa

namespace Go.Proofs.Ytcceaokldphfgaa
open Go.RowKit Go.Shelf

theorem OpAt.later {w w' : World} {a a1 a2 a3 : Option Addr} {c c1 c2 c3 : Nat} {o : AOp} (h : OpAt w a a1 a2 a3 c c1 c2 c3 o) (hb : Below w.heap.size w w') : OpAt w' a a1 a2 a3 c c1 c2 c3 o :=
  { h with
    lt := fun b e hne => Nat.lt_of_lt_of_le (h.lt b e hne) hb.size
    cell := fun b e j u hu => (hb.cell (p := b.add j) (by rw [add_block]; exact h.lt b e (by intro h0; rw [h0] at hu; simp at hu))).trans (h.cell b e j u hu)
    keep := h.keep.later hb
    fail := h.fail.later hb
    full := h.full.later hb }

theorem OpsAt.later {w w' : World} {v : Value} {L : List AOp} (h : OpsAt w v L) (hb : Below w.heap.size w w') : OpsAt w' v L := by
  rcases h with h | ⟨blk, off, cap, h1, h2, h3, h4⟩
  · exact .inl h
  · refine .inr ⟨blk, off, cap, h1, Nat.lt_of_lt_of_le h2 hb.size, h3, fun j o hj => ?_⟩
    obtain ⟨a, a1, a2, a3, c, c1, c2, c3, h5, h6⟩ := h4 j o hj
    exact ⟨a, a1, a2, a3, c, c1, c2, c3, h5.later hb, fun i u hu => (hb.cell (p := ⟨blk, off + j * 11 + i, none⟩) h2).trans (h6 i u hu)⟩

theorem Stp.below {role : Role} {w w' : World} (h : Stp noRole role w w') : Below w.heap.size w w' := ⟨h.os, h.tape, h.output, h.size, fun k hk => h.keep k hk (.inl rfl)⟩

/-- A disk that was made since w. -/
def Lives (w wr : World) (D : Nat) (n : Nat) : Prop := ∃ role s, DiskOK wr role D s ∧ Stp noRole role w wr ∧ Coh (abs s) ∧ s.ops ≤ n

theorem Lives.still {w wr wr' : World} {D n : Nat} (h : Lives w wr D n) (hb : Below wr.heap.size wr wr') : Lives w wr' D n := by
  obtain ⟨role, s, h1, h2, h3, h4⟩ := h
  exact ⟨role, s, h1.still hb, h2.trans (Stp.still hb), h3, h4⟩

theorem Lives.does {w wr : World} {D n : Nat} (h : Lives w wr D n) (hn : n ≤ 1000) {a a1 a2 a3 : Option Addr} {c c1 c2 c3 : Nat} {o : AOp} (hop : OpAt wr a a1 a2 a3 c c1 c2 c3 o) (h7 : o.kind ≠ 7) :
    Calls Try.prog 14 #[.pointer (some ⟨D, 0, none⟩), opV a a1 a2 a3 c c1 c2 c3 o] wr fun r w' => (∃ e, r = .returned (.int .i64 e)) ∧ Hid (Lives w w' D (n + 1)) := by
  obtain ⟨role, s, h1, h2, h3, h4⟩ := h
  refine (do_D h1 (by omega) h3.dead a a1 a2 a3 c c1 c2 c3 o hop).mono ?_
  rintro r w' ⟨rfl, role', s', g1, g2, g3⟩
  refine ⟨⟨_, rfl⟩, role', s', g1, h2.trans g2, by rw [g3]; exact do_coh h3 o, ?_⟩
  have := (do_ops (a := abs s) o h7).2
  rw [← g3] at this
  have h5 : (abs s').ops = s'.ops := rfl
  have h6 : (abs s).ops = s.ops := rfl
  omega

end Go.Proofs.Ytcceaokldphfgaa

namespace Go.Proofs.Ytcceaokldphfgaa
open Go.RowKit Go.Shelf

/-- A plan that can be read. -/
structure PlanAt (w : World) (a1 a2 a3 : Option Addr) (c1 c2 c3 : Nat) (cr ro : Int) (keep fail full : List Int) : Prop where
  rK : RdS w a1 c1 (keep.map (Value.int .i64)) 8
  rF : RdS w a2 c2 (fail.map (Value.int .i64)) 8
  rU : RdS w a3 c3 (full.map (Value.int .i64)) 8
  iC : I64 cr
  iR : I64 ro
  iK : ∀ x ∈ keep, I64 x
  iF : ∀ x ∈ fail, I64 x
  iU : ∀ x ∈ full, I64 x
  lK : keep.length * 8 ≤ 140737488351232
  lF : fail.length * 8 ≤ 140737488351232
  lU : full.length * 8 ≤ 140737488351232

abbrev planV (a1 a2 a3 : Option Addr) (c1 c2 c3 : Nat) (cr ro : Int) (keep fail full : List Int) : Value := .agg #[.int .i64 cr, .slice a1 keep.length c1, .slice a2 fail.length c2, .slice a3 full.length c3, .int .i64 ro]

theorem PlanAt.later {w w' : World} {a1 a2 a3 : Option Addr} {c1 c2 c3 : Nat} {cr ro : Int} {keep fail full : List Int} (h : PlanAt w a1 a2 a3 c1 c2 c3 cr ro keep fail full) (hb : Below w.heap.size w w') : PlanAt w' a1 a2 a3 c1 c2 c3 cr ro keep fail full :=
  { h with rK := h.rK.later hb, rF := h.rF.later hb, rU := h.rU.later hb }

theorem conv_out {w : World} {B : Nat} {v : Value} {l : List UInt8} (h : w.ownsRow B 5 1 v l.length (l.map byteV)) : (convert 33 9 v).run Try.prog w = .ok (.string ⟨l.toArray⟩) w := by
  rcases h.2 with ⟨rfl, e⟩ | ⟨g, cap, cur, rfl, _⟩
  · have : l = [] := List.eq_nil_of_length_eq_zero e
    subst this
    exact run_convert_bytes_nil (P := Try.prog) w 33 5 Try.underlying33 Try.underlying5 0 0 9 Try.underlying9
  · refine run_convert_bytes_back (P := Try.prog) w 33 9 5 ⟨g, 0, none⟩ cap l Try.underlying33 Try.underlying5 Try.underlying9 (fun j hj => ?_)
    obtain ⟨_, _, e, _, hc⟩ := Rd.of_own (own_zero h)
    cases e
    obtain ⟨ad, ea, hc⟩ := hc j _ (List.getElem?_eq_getElem hj)
    cases ea
    exact hc

end Go.Proofs.Ytcceaokldphfgaa
