/- YtcceaokldphfgaaDiskAllC42 -/
import Derived.Test.YtcceaokldphfgaaDiskAllC41
import Derived.Test.YtcceaokldphfgaaDiskAllC25
namespace Go.Proofs.Ytcceaokldphfgaa
open Go.RowKit Go.Shelf

theorem OpAt.later {w w' : World} {a a1 a2 a3 : Option Addr} {c c1 c2 c3 : Nat} {o : AOp} (h : OpAt w a a1 a2 a3 c c1 c2 c3 o) (hb : Below w.heap.size w w') : OpAt w' a a1 a2 a3 c c1 c2 c3 o :=
  { h with
    lt := fun b e hne => Nat.lt_of_lt_of_le (h.lt b e hne) hb.size
    cell := fun b e j u hu => (hb.cell (p := b.add j) (by rw [add_block]; exact h.lt b e (by intro h0; rw [h0] at hu; simp at hu))).trans (h.cell b e j u hu)
    keep := h.keep.later hb
    fail := h.fail.later hb
    full := h.full.later hb }

theorem OpsAt.later {w w' : World} {v : Value} {L : List AOp} (h : OpsAt w v L) (hb : Below w.heap.size w w') : OpsAt w' v L := by
  rcases h with h | ⟨blk, off, cap, h1, h2, h3, h4⟩
  · exact .inl h
  · refine .inr ⟨blk, off, cap, h1, Nat.lt_of_lt_of_le h2 hb.size, h3, fun j o hj => ?_⟩
    obtain ⟨a, a1, a2, a3, c, c1, c2, c3, h5, h6⟩ := h4 j o hj
    exact ⟨a, a1, a2, a3, c, c1, c2, c3, h5.later hb, fun i u hu => (hb.cell (p := ⟨blk, off + j * 11 + i, none⟩) h2).trans (h6 i u hu)⟩

theorem Stp.below {role : Role} {w w' : World} (h : Stp noRole role w w') : Below w.heap.size w w' := ⟨h.os, h.tape, h.output, h.size, fun k hk => h.keep k hk (.inl rfl)⟩

/-- A disk that was made since w. -/
def Lives (w wr : World) (D : Nat) (n : Nat) : Prop := ∃ role s, DiskOK wr role D s ∧ Stp noRole role w wr ∧ Coh (abs s) ∧ s.ops ≤ n

theorem Lives.still {w wr wr' : World} {D n : Nat} (h : Lives w wr D n) (hb : Below wr.heap.size wr wr') : Lives w wr' D n := by
  obtain ⟨role, s, h1, h2, h3, h4⟩ := h
  exact ⟨role, s, h1.still hb, h2.trans (Stp.still hb), h3, h4⟩

theorem Lives.does {w wr : World} {D n : Nat} (h : Lives w wr D n) (hn : n ≤ 1000) {a a1 a2 a3 : Option Addr} {c c1 c2 c3 : Nat} {o : AOp} (hop : OpAt wr a a1 a2 a3 c c1 c2 c3 o) (h7 : o.kind ≠ 7) :
    Calls Try.prog 14 #[.pointer (some ⟨D, 0, none⟩), opV a a1 a2 a3 c c1 c2 c3 o] wr fun r w' => (∃ e, r = .returned (.int .i64 e)) ∧ Hid (Lives w w' D (n + 1)) := by
  obtain ⟨role, s, h1, h2, h3, h4⟩ := h
  refine (do_D h1 (by omega) h3.dead a a1 a2 a3 c c1 c2 c3 o hop).mono ?_
  rintro r w' ⟨rfl, role', s', g1, g2, g3⟩
  refine ⟨⟨_, rfl⟩, role', s', g1, h2.trans g2, by rw [g3]; exact do_coh h3 o, ?_⟩
  have := (do_ops (a := abs s) o h7).2
  rw [← g3] at this
  have h5 : (abs s').ops = s'.ops := rfl
  have h6 : (abs s).ops = s.ops := rfl
  omega

end Go.Proofs.Ytcceaokldphfgaa

namespace Go.Proofs.Ytcceaokldphfgaa
open Go.RowKit Go.Shelf

/-- A plan that can be read. -/
structure PlanAt (w : World) (a1 a2 a3 : Option Addr) (c1 c2 c3 : Nat) (cr ro : Int) (keep fail full : List Int) : Prop where
  rK : RdS w a1 c1 (keep.map (Value.int .i64)) 8
  rF : RdS w a2 c2 (fail.map (Value.int .i64)) 8
  rU : RdS w a3 c3 (full.map (Value.int .i64)) 8
  iC : I64 cr
  iR : I64 ro
  iK : ∀ x ∈ keep, I64 x
  iF : ∀ x ∈ fail, I64 x
  iU : ∀ x ∈ full, I64 x
  lK : keep.length * 8 ≤ 140737488351232
  lF : fail.length * 8 ≤ 140737488351232
  lU : full.length * 8 ≤ 140737488351232

theorem PlanAt.later {w w' : World} {a1 a2 a3 : Option Addr} {c1 c2 c3 : Nat} {cr ro : Int} {keep fail full : List Int} (h : PlanAt w a1 a2 a3 c1 c2 c3 cr ro keep fail full) (hb : Below w.heap.size w w') : PlanAt w' a1 a2 a3 c1 c2 c3 cr ro keep fail full :=
  { h with rK := h.rK.later hb, rF := h.rF.later hb, rU := h.rU.later hb }

theorem conv_out {w : World} {B : Nat} {v : Value} {l : List UInt8} (h : w.ownsRow B 5 1 v l.length (l.map byteV)) : (convert 33 9 v).run Try.prog w = .ok (.string ⟨l.toArray⟩) w := by
  rcases h.2 with ⟨rfl, e⟩ | ⟨g, cap, cur, rfl, _⟩
  · have : l = [] := List.eq_nil_of_length_eq_zero e
    subst this
    exact run_convert_bytes_nil (P := Try.prog) w 33 5 Try.underlying33 Try.underlying5 0 0 9 Try.underlying9
  · refine run_convert_bytes_back (P := Try.prog) w 33 9 5 ⟨g, 0, none⟩ cap l Try.underlying33 Try.underlying5 Try.underlying9 (fun j hj => ?_)
    obtain ⟨_, _, e, _, hc⟩ := Rd.of_own (own_zero h)
    cases e
    obtain ⟨ad, ea, hc⟩ := hc j _ (List.getElem?_eq_getElem hj)
    cases ea
    exact hc

end Go.Proofs.Ytcceaokldphfgaa
