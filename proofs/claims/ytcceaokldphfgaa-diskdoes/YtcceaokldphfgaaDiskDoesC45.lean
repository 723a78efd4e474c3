/- YtcceaokldphfgaaDiskDoesC45 -/
import Derived.Test.YtcceaokldphfgaaDiskDoesC44
import Derived.Test.YtcceaokldphfgaaDiskDoesC36
namespace Go.Proofs.Ytcceaokldphfgaa
open Go.RowKit Go.Shelf

/-- A disk beside the document's, both made since w; H: blocks that are neither's, as they were in WB. -/
structure PairD (w WB : World) (H : Nat → Prop) (D M : Nat) (a b : ASt) (n : Nat) (wr : World) : Prop where
  ex : ∃ r1 s1 r2 rs fv kv lv uv, DiskOK wr r1 D s1 ∧ abs s1 = a ∧ DocOK wr r2 M b rs fv kv lv uv ∧ (∀ k q, r1 k = some q → r2 k = 0) ∧ (∀ k q, r1 k = some q → w.heap.size ≤ k) ∧ (∀ k, r2 k ≠ 0 → w.heap.size ≤ k) ∧ (∀ k, H k → r1 k = none ∧ r2 k = 0 ∧ k < wr.heap.size)
  below : Below w.heap.size w wr
  same : ∀ k, H k → wr.heap[k]? = WB.heap[k]?
  cohA : Coh a
  cohB : Coh b
  sortB : SortedA b.fs
  fewA : FewA n a
  fewB : FewA n b

theorem noDoc {w : World} {role : DRole} {M : Nat} {a : ASt} {rs : List DRep} {fv kv lv uv : Value} (h : DocOK w role M a rs fv kv lv uv) {k : Nat} (hk : w.heap.size ≤ k) : role k = 0 := by
  by_cases e : role k = 0
  · exact e
  · have := h.dom k e; omega

theorem PairD.still {w WB : World} {H : Nat → Prop} {D M : Nat} {a b : ASt} {n : Nat} {wr wr' : World} (h : PairD w WB H D M a b n wr) (hb : Below wr.heap.size wr wr') : PairD w WB H D M a b n wr' := by
  obtain ⟨⟨r1, s1, r2, rs, fv, kv, lv, uv, h1, h2, h3, h4, h5, h6, h7⟩, e1, e2, e3, e4, e5, e6, e7⟩ := h
  have hz := hb.size
  exact ⟨⟨r1, s1, r2, rs, fv, kv, lv, uv, h1.still hb, h2, h3.still hb, h4, h5, h6, fun k hk => ⟨(h7 k hk).1, (h7 k hk).2.1, by have := (h7 k hk).2.2; omega⟩⟩, e1.trans (hb.mono e1.size), fun k hk => (hb.block k (h7 k hk).2.2).trans (e2 k hk), e3, e4, e5, e6, e7⟩

/-- What is new is held from now on. -/
theorem PairD.hold {w WB : World} {H : Nat → Prop} {D M : Nat} {a b : ASt} {n : Nat} {wr wr' : World} (h : PairD w WB H D M a b n wr) (hb : Below wr.heap.size wr wr') : PairD w wr' (fun k => wr.heap.size ≤ k ∧ k < wr'.heap.size) D M a b n wr' := by
  have h' := h.still hb
  obtain ⟨⟨r1, s1, r2, rs, fv, kv, lv, uv, h1, h2, h3, h4, h5, h6, h7⟩, e1, e2, e3, e4, e5, e6, e7⟩ := h
  exact ⟨⟨r1, s1, r2, rs, fv, kv, lv, uv, h1.still hb, h2, h3.still hb, h4, h5, h6, fun k hk => ⟨no_role h1 hk.1, noDoc h3 hk.1, hk.2⟩⟩, h'.below, fun k _ => rfl, e3, e4, e5, e6, e7⟩

theorem PairD.drop {w WB : World} {H : Nat → Prop} {D M : Nat} {a b : ASt} {n m : Nat} {wr : World} (h : PairD w WB H D M a b n wr) (hm : n ≤ m) : PairD w w (fun _ => False) D M a b m wr := by
  obtain ⟨⟨r1, s1, r2, rs, fv, kv, lv, uv, h1, h2, h3, h4, h5, h6, h7⟩, e1, e2, e3, e4, e5, e6, e7⟩ := h
  exact ⟨⟨r1, s1, r2, rs, fv, kv, lv, uv, h1, h2, h3, h4, h5, h6, fun k hk => hk.elim⟩, e1, fun k hk => hk.elim, e3, e4, e5, e6.mono hm, e7.mono hm⟩

/-- A block that both were made behind is written to. -/
theorem PairD.write {w : World} {D M : Nat} {a b : ASt} {n : Nat} {wr : World} (h : PairD w w (fun _ => False) D M a b n wr) {k i : Nat} (hk : k < w.heap.size) (v : Value) : PairD (w.setCell ⟨k, i, none⟩ v) (w.setCell ⟨k, i, none⟩ v) (fun _ => False) D M a b n (wr.setCell ⟨k, i, none⟩ v) := by
  obtain ⟨⟨r1, s1, r2, rs, fv, kv, lv, uv, h1, h2, h3, h4, h5, h6, h7⟩, e1, e2, e3, e4, e5, e6, e7⟩ := h
  have hsz : (w.setCell ⟨k, i, none⟩ v).heap.size = w.heap.size := by simp [World.setCell]
  have hsr : (wr.setCell ⟨k, i, none⟩ v).heap.size = wr.heap.size := by simp [World.setCell]
  have hot : ∀ j, j ≠ k → (wr.setCell ⟨k, i, none⟩ v).heap[j]? = wr.heap[j]? := fun j hj => Below.heap_setCell _ _ _ j hj
  refine ⟨⟨r1, s1, r2, rs, fv, kv, lv, uv, h1.kept (Nat.le_of_eq hsr.symm) (fun j q e _ => hot j (fun e' => by have := h5 j q e; omega)) (fun _ _ e => e) (fun j q e => by rw [hsr]; exact h1.dom j q e), h2, h3.kept (fun j e _ => ⟨hot j (fun e' => by have := h6 j e; omega), rfl⟩) h3.one (fun j e => by rw [hsr]; exact h3.dom j e), h4, fun j q e => by rw [hsz]; exact h5 j q e, fun j e => by rw [hsz]; exact h6 j e, fun k hk => hk.elim⟩, ?_, fun k hk => hk.elim, e3, e4, e5, e6, e7⟩
  rw [hsz]
  refine ⟨e1.os, e1.tape, e1.output, by rw [hsr, hsz]; exact e1.size, fun j hj => ?_⟩
  by_cases hjk : j = k
  · subst hjk
    have := e1.block j hj
    simp [World.setCell, Array.getElem?_modify, this]
  · exact (hot j hjk).trans ((e1.block j hj).trans (Below.heap_setCell _ _ _ j hjk).symm)

/-- An operation on the disk. -/
theorem PairD.does {w WB : World} {H : Nat → Prop} {D M : Nat} {a b : ASt} {n : Nat} {wr : World} (h : PairD w WB H D M a b n wr) (hn : n ≤ 998) {p p1 p2 p3 : Option Addr} {c c1 c2 c3 : Nat} {o : AOp} (hop : OpAt w p p1 p2 p3 c c1 c2 c3 o) :
    Calls Try.prog 14 #[.pointer (some ⟨D, 0, none⟩), opV p p1 p2 p3 c c1 c2 c3 o] wr fun r w' => r = .returned (.int .i64 (doA a o).2) ∧ Hid (PairD w WB H D M (doA a o).1 b (n + 1) w') := by
  have hopr := hop.later h.below
  obtain ⟨⟨r1, s1, r2, rs, fv, kv, lv, uv, h1, rfl, h3, h4, h5, h6, h7⟩, e1, e2, e3, e4, e5, e6, e7⟩ := h
  have hops : s1.ops ≤ n := e6.ops.2
  refine (do_D h1 (by omega) e3.dead p p1 p2 p3 c c1 c2 c3 o hopr).mono ?_
  rintro r w' ⟨rfl, role', s', g1, g2, g3⟩
  have hz := g2.size
  have hr2 : ∀ k, r2 k ≠ 0 → r1 k = none := fun k e => by
    cases e' : r1 k with
    | none => rfl
    | some q' => exact absurd (h4 k q' e') e
  have hk2 : ∀ k, r2 k ≠ 0 → w'.heap[k]? = wr.heap[k]? := fun k e => g2.keep k (h3.dom k e) (.inl (hr2 k e))
  have hfw : FewA (n + 1) (doA (abs s1) o).1 := do_few e6 o (by have := hop.lK; omega) (by have := hop.lF; omega) (by have := hop.lU; omega)
  refine ⟨rfl, ⟨role', s', r2, rs, fv, kv, lv, uv, g1, by rw [← g3], h3.kept (fun k e _ => ⟨hk2 k e, rfl⟩) h3.one (fun k e => Nat.lt_of_lt_of_le (h3.dom k e) hz), fun k q e => ?_, fun k q e => ?_, h6, fun k hk => ?_⟩, ?_, fun k hk => ?_, do_coh e3 o, e4, e5, hfw, e7.mono (by omega)⟩
  · rcases Nat.lt_or_ge k wr.heap.size with hl | hl
    · rw [g2.ext k hl] at e
      exact h4 k q e
    · exact noDoc h3 hl
  · rcases Nat.lt_or_ge k wr.heap.size with hl | hl
    · rw [g2.ext k hl] at e
      exact h5 k q e
    · have := e1.size; omega
  · obtain ⟨q1, q2, q3⟩ := h7 k hk
    exact ⟨(g2.ext k q3).trans q1, q2, by omega⟩
  · refine ⟨g2.os.trans e1.os, g2.tape.trans e1.tape, g2.output.trans e1.output, Nat.le_trans e1.size hz, fun k hk => ?_⟩
    refine (g2.keep k (Nat.lt_of_lt_of_le hk e1.size) (.inl ?_)).trans (e1.block k hk)
    cases e' : r1 k with
    | none => rfl
    | some q => have := h5 k q e'; omega
  · obtain ⟨q1, q2, q3⟩ := h7 k hk
    exact (g2.keep k q3 (.inl q1)).trans (e2 k hk)

/-- The same operation on the document's disk. -/
theorem PairD.model {w WB : World} {H : Nat → Prop} {D M : Nat} {b : ASt} {n : Nat} {wr : World} {o : AOp} (h : PairD w WB H D M (doA b o).1 b n wr) (hn : n ≤ 998) {p p1 p2 p3 : Option Addr} {c c1 c2 c3 : Nat} (hop : OpAt w p p1 p2 p3 c c1 c2 c3 o) :
    Calls Try.prog 15 #[.pointer (some ⟨M, 0, none⟩), opV p p1 p2 p3 c c1 c2 c3 o] wr fun r w' => r = .returned (.int .i64 (doA b o).2) ∧ Hid (PairD w WB H D M (doA b o).1 (doA b o).1 n w') := by
  have hopr := hop.later h.below
  obtain ⟨⟨r1, s1, r2, rs, fv, kv, lv, uv, h1, h2, h3, h4, h5, h6, h7⟩, e1, e2, e3, e4, e5, e6, e7⟩ := h
  have hlow : ∀ k, k < w.heap.size → r2 k = 0 := fun k hk => by
    by_cases e : r2 k = 0
    · exact e
    · have := h6 k e; omega
  have hs1 : SortedA (doA b o).1.fs := by rw [← h2]; exact h1.sortedA
  refine (model_any h3 e4 e7 hn e5 hopr ⟨fun ad e hne => hlow _ (hop.lt ad e hne), fun ad e hne => hlow _ (hop.keep.lt ad e (by simpa using hne)), fun ad e hne => hlow _ (hop.fail.lt ad e (by simpa using hne)), fun ad e hne => hlow _ (hop.full.lt ad e (by simpa using hne))⟩).mono ?_
  rintro r w' ⟨rfl, HD⟩
  obtain ⟨k9, l9, u9, role', rs', fv', g1, g2⟩ := HD.out
  have hz := g2.size
  have hk1 : ∀ k q, r1 k = some q → w'.heap[k]? = wr.heap[k]? := fun k q e => g2.keep k (h1.dom k q e) (.inl (h4 k q e))
  refine ⟨rfl, ⟨r1, s1, role', rs', fv', k9, l9, u9, h1.kept hz (fun k q e _ => hk1 k q e) (fun _ _ e => e) (fun k q e => Nat.lt_of_lt_of_le (h1.dom k q e) hz), h2, g1, fun k q e => ?_, h5, fun k e => ?_, fun k hk => ?_⟩, ?_, fun k hk => ?_, e3, e3, hs1, e6, e6⟩
  · rw [g2.ext k (h1.dom k q e)]
    exact h4 k q e
  · rcases Nat.lt_or_ge k wr.heap.size with hl | hl
    · rw [g2.ext k hl] at e
      exact h6 k e
    · have := e1.size; omega
  · obtain ⟨q1, q2, q3⟩ := h7 k hk
    exact ⟨q1, (g2.ext k q3).trans q2, by omega⟩
  · refine ⟨g2.os.trans e1.os, g2.tape.trans e1.tape, g2.output.trans e1.output, Nat.le_trans e1.size hz, fun k hk => ?_⟩
    exact (g2.keep k (Nat.lt_of_lt_of_le hk e1.size) (.inl (hlow k hk))).trans (e1.block k hk)
  · obtain ⟨q1, q2, q3⟩ := h7 k hk
    exact (g2.keep k q3 (.inl q2)).trans (e2 k hk)

theorem PairD.ops {w WB : World} {H : Nat → Prop} {D M : Nat} {a b : ASt} {n : Nat} {wr : World} (h : PairD w WB H D M a b n wr) :
    Calls Try.prog 16 #[.pointer (some ⟨D, 0, none⟩)] wr fun r w' => r = .returned (.int .i64 a.ops) ∧ wr = w' := by
  obtain ⟨r1, s1, r2, rs, fv, kv, lv, uv, h1, rfl, _⟩ := h.ex
  exact ops_D h1

theorem PairD.cell6 {w WB : World} {H : Nat → Prop} {D M : Nat} {a b : ASt} {n : Nat} {wr : World} (h : PairD w WB H D M a b n wr) : wr.cell? ⟨M, 6, none⟩ = some (.int .i64 b.ops) := by
  obtain ⟨r1, s1, r2, rs, fv, kv, lv, uv, h1, h2, h3, _⟩ := h.ex
  exact blk_cell (o := 6) h3.str rfl

theorem PairD.reads {w WB : World} {H : Nat → Prop} {D M : Nat} {a b : ASt} {n : Nat} {wr : World} (h : PairD w WB H D M a b n wr) (t : ByteArray) (at_ l : Int) (ha : I64 at_) (hl : I64 l) :
    Calls Try.prog 17 #[.pointer (some ⟨D, 0, none⟩), .string t, .int .i64 at_, .int .i64 l] wr fun r w' => ∃ q m c, r = .returned (.tuple #[.slice q m c, .int .i64 (readA a t at_ l).2]) ∧ Hid (Out wr (readA a t at_ l).1 (.slice q m c) w') := by
  obtain ⟨r1, s1, r2, rs, fv, kv, lv, uv, h1, rfl, _⟩ := h.ex
  refine (read_D h1 t at_ l ha hl).mono ?_
  rintro r w' ⟨v, rfl, ho⟩
  obtain ⟨q, c, rfl, _⟩ := own_slice ho.1
  exact ⟨q, _, c, rfl, ho⟩

theorem PairD.readsM {w WB : World} {H : Nat → Prop} {D M : Nat} {a b : ASt} {n : Nat} {wr : World} (h : PairD w WB H D M a b n wr) (hn : n ≤ 998) (t : ByteArray) (at_ l : Int) (ha : I64 at_) (hl : I64 l) :
    Calls Try.prog 18 #[.pointer (some ⟨M, 0, none⟩), .string t, .int .i64 at_, .int .i64 l] wr fun r w' => ∃ q m c, r = .returned (.tuple #[.slice q m c, .int .i64 (readA b t at_ l).2]) ∧ Hid (Out wr (readA b t at_ l).1 (.slice q m c) w') := by
  obtain ⟨r1, s1, r2, rs, fv, kv, lv, uv, h1, h2, h3, _⟩ := h.ex
  exact rread_any h3 h.cohB h.fewB hn t at_ l ha hl

end Go.Proofs.Ytcceaokldphfgaa

namespace Go.Proofs.Ytcceaokldphfgaa
open Go.RowKit Go.Shelf

/-- One file more is told. -/
theorem FilesAt.push {W : World} {B c : Nat} {a : Option Addr} {l : List (ByteArray × List UInt8)} {nm : ByteArray} {bs : List UInt8} {d2 : Value} (h : FilesAt W B (.slice a l.length c) l) (hd : d2.oneCell' = true) (hb : W.ownsRow B 5 1 d2 bs.length (bs.map byteV)) (hB : B ≤ W.heap.size) (hl : l.length ≤ 5000) :
    ∃ a3 c3 w3, (Builtin.append_ #[53, 53] 53 #[.slice a l.length c, .slice (some ⟨W.heap.size, 0, none⟩) 1 1]).run Try.prog (W.alloc (.cells #[.string nm, d2] 69)) = .ok (.slice a3 (l.length + 1) c3) w3 ∧
      FilesAt w3 B (.slice a3 (l.length + 1) c3) (l ++ [(nm, bs)]) ∧ (∀ w, B = w.heap.size → Below w.heap.size w W → Below w.heap.size w w3) := by
  obtain ⟨cs, h1, h2⟩ := h
  obtain ⟨i0, hi0, hz0, hz1, hz2⟩ := info_parts Try.info69
  have hnw : (W.alloc (.cells #[.string nm, d2] 69)).heap[W.heap.size]? = some (.cells #[.string nm, d2] 69 (0, 0)) := World.alloc_heap_new W _
  obtain ⟨v', w3, hrun, hown, hgrew⟩ := app_wide (P := Try.prog) (W.alloc (.cells #[.string nm, d2] 69)) 53 53 69 i0 _ 2 40 Try.underlying53 hi0 hz0 hz1 hz2 rfl (by decide) (.slice a l.length c) l.length cs ((own_zero h1).alloc _) ⟨W.heap.size, 0, none⟩ 1 1 [.string nm, d2] rfl
    (fun j u hu => by rw [Addr.add_lit] at *; exact blk_cell hnw (by simpa using hu))
    (fun u hu => by
      simp only [List.mem_cons, List.not_mem_nil, or_false] at hu
      rcases hu with rfl | rfl
      · rfl
      · exact hd) (by unfold maxLen; omega) (by omega)
  have hg := grew_alloc hgrew
  obtain ⟨a3, c3, rfl⟩ := own_shape hown
  have hb3 : ∀ k, (Value.slice a3 (l.length + 1) c3).ownBlock = some k → B ≤ k := fun k e => by
    rcases hg.at_ k e with h9 | h9
    · exact (h1.lt k h9).1
    · omega
  have hcl : cs.length = 2 * l.length := by have := h1.1; omega
  have hbyte : ∀ (k : Nat) (cur : Array Value), W.heap[k]? = some (.cells cur 5 (0, 0)) → w3.heap[k]? = W.heap[k]? := fun k cur hc => by
    refine hg.by_.block k (Array.getElem?_eq_some_iff.1 hc).1 (fun e => ?_)
    obtain ⟨cur2, hg2, _⟩ := own_block h1 e.symm
    rw [hc] at hg2
    simp at hg2
  refine ⟨a3, c3, w3, hrun, ⟨cs ++ [.string nm, d2], by rw [List.length_append]; exact own_up hown hb3, ?_⟩, fun w hw hbw => ?_⟩
  · refine Told.snoc (h2.same fun k cur _ hc => hbyte k cur hc) hcl ?_
    obtain ⟨hlx, h0 | ⟨g, cap, cur, rfl, hbg, hgg, hr⟩⟩ := hb
    · exact ⟨hlx, .inl h0⟩
    · exact ⟨hlx, .inr ⟨g, cap, cur, rfl, hbg, (hbyte g cur hgg).trans hgg, hr⟩⟩
  · exact hbw.grown hg.by_ hbw.size (fun k e => by rw [← hw]; exact (h1.lt k e).1)

/-- What All tells. -/
def allOf (b : Bool) (r : DRep) : ByteArray × List UInt8 := (r.a.name, if b = true then r.a.safe else r.a.data)

theorem allOf_take {b : Bool} {rs : List DRep} {k : Nat} {r : DRep} (h : rs[k]? = some r) : (rs.take (k + 1)).map (allOf b) = (rs.take k).map (allOf b) ++ [allOf b r] := by
  obtain ⟨hk, rfl⟩ := List.getElem?_eq_some_iff.1 h
  rw [List.take_succ_eq_append_getElem hk, List.map_append]
  rfl

set_option maxHeartbeats 2000000 in
set_option maxRecDepth 100000 in
theorem rall_any {w : World} {role : DRole} {M nn : Nat} {a : ASt} {rs : List DRep} {fv kv lv uv : Value} (h : DocOK w role M a rs fv kv lv uv) (hc : Coh a) (hf : FewA nn a) (hn : nn ≤ 998) (b : Bool) :
    Calls Try.prog 50 #[.pointer (some ⟨M, 0, none⟩), .bool b] w fun r w' => ∃ p n c, r = .returned (.slice p n c) ∧ Hid (FilesAt w' w.heap.size (.slice p n c) (if b = true then safeL a.fs else toldA a)) ∧ Hid (Below w.heap.size w w') := by
  have hfew : FewD rs := h.few hf (by omega)
  obtain ⟨X, hX⟩ : ∃ X, X = (if b = true then safeL a.fs else toldA a) := ⟨_, rfl⟩
  rw [← hX]
  have HX : Hid (X = if a.dead = true ∧ b = false then [] else rs.map (allOf b)) := by
    show X = _
    rw [hX, show safeL a.fs = rs.map fun r => (r.a.name, r.a.safe) by unfold safeL; rw [h.fs, List.map_map]; rfl]
    unfold toldA
    rw [show dataL a.fs = rs.map fun r => (r.a.name, r.a.data) by unfold dataL; rw [h.fs, List.map_map]; rfl]
    cases b <;> cases a.dead <;> rfl
  have HW : Hid (∀ r ∈ rs, Whole r.a ∧ r.a.chs.length ≤ 1000 ∧ r.a.data.length ≤ 268435456) := fun r hr => ⟨h.whole hc hr, hfew.2 r hr, (h.files r hr).lenD (h.whole hc hr)⟩
  have hl := hfew.1
  have m5 : w.cell? ⟨M, 5, none⟩ = some fv := blk_cell (o := 5) h.str rfl
  obtain ⟨qf, cf, ef⟩ := h.fvS
  have HD := hideP h
  generalize hnl : rs.length = nl at *
  have HN := hideP hnl
  subst ef
  clear h hc hf hfew hX hnl
  go_enter Try.func50, Try.ntmps50
  go_wp2
  clear m5
  go_loopw [5, 8, 14] (fun s _ i wr => ∃ k : Nat, k ≤ nl ∧ i = .int .i64 k ∧ ∃ p c, s = .slice p k c ∧ Hid (FilesAt wr w.heap.size (.slice p k c) ((rs.take k).map (allOf b))) ∧ Hid (Below w.heap.size w wr)) (fun _ _ i _ => nl - (intOf i).toNat)
  case atStart => exact ⟨0, Nat.zero_le _, rfl, none, 0, rfl, ⟨[], World.ownsRow_nil _ _ _ _, fun j x hx => by simp at hx⟩, Below.refl _ _⟩
  case round =>
    obtain ⟨k, hk, rfl, p0, c0', rfl, HFA, HBR⟩ := hrel
    by_cases hkl : k < nl
    · have hkl' : (k : Int) < (nl : Int) := by omega
      have hkL : k < rs.length := by rw [HN.out]; exact hkl
      obtain ⟨r, hr⟩ : ∃ r, rs[k]? = some r := ⟨_, List.getElem?_eq_getElem hkL⟩
      have hD := HD.out.still HBR.out
      obtain ⟨g, cap', e, _, _, _, c0, c1, c2, _⟩ := hD.file hr
      cases e
      have hmem := List.mem_of_getElem? hr
      obtain ⟨z1, z2, z3⟩ := HW.out r hmem
      have hF := hD.files r hmem
      obtain ⟨x1, x2, x3, ex⟩ : ∃ q n c, r.sv = .slice q n c := by
        obtain ⟨q, c, e, _⟩ := own_slice hF.safe.1
        exact ⟨_, _, _, e⟩
      obtain ⟨y1, y2, ey, _⟩ := hF.crow
      obtain ⟨W1, hW1⟩ : ∃ W1, W1 = wr.alloc (.cells #[.string r.a.name, r.sv, r.cv] 90) := ⟨_, rfl⟩
      have hal : Below wr.heap.size wr W1 := by rw [hW1]; exact (Below.refl _ wr).alloc (Nat.le_refl _) _
      have hbx1 : W1.heap[wr.heap.size]? = some (.cells #[.string r.a.name, r.sv, r.cv] 90 (0, 0)) := by rw [hW1]; exact World.alloc_heap_new wr _
      have hkeep : ∀ {V V' : World}, DFileOK V role r → Below V.heap.size V V' → DFileOK V' role r := fun hV hb => hV.kept (fun k e hk => ⟨hb.block k hk, e⟩) (fun k e => ⟨hb.block k (hV.row.lt k e).2, hV.rowR k e⟩)
      have hF1 := hkeep hF hal
      have htw := rtwin_any (own_rdN hF1.safe.1) (by have := hF1.len; omega)
      have t2 : IntKind.i64.wrap ((k : Int) + 1) = (k : Int) + 1 := by rw [IntKind.wrap_i64]; omega
      have hlen : ((rs.take k).map (allOf b)).length = k := by simp; omega
      have hbw1 : Below w.heap.size w W1 := HBR.out.trans (hal.mono HBR.out.size)
      -- what the end of the round wants
      have HEND : Hid (∀ (V : World) (q : Option Addr) (n' c' : Nat), Below W1.heap.size W1 V → V.ownsRow W1.heap.size 5 1 (.slice q n' c') (allOf b r).2.length ((allOf b r).2.map byteV) →
          ∃ a3 c3 w3, Hid ((Builtin.append_ #[53, 53] 53 #[.slice p0 k c0', .slice (some ⟨V.heap.size, 0, none⟩) 1 1]).run Try.prog (V.alloc (.cells #[.string r.a.name, .slice q n' c'] 69)) = .ok (.slice a3 (k + 1) c3) w3) ∧ Hid (FilesAt w3 w.heap.size (.slice a3 (k + 1) c3) ((rs.take (k + 1)).map (allOf b))) ∧ Hid (Below w.heap.size w w3)) := by
        intro V q n' c' hV hrow
        have hbV : Below w.heap.size w V := hbw1.trans (hV.mono hbw1.size)
        have hFA := (HFA.out.later hal).later hV
        have hFA : FilesAt V w.heap.size (.slice p0 ((rs.take k).map (allOf b)).length c0') ((rs.take k).map (allOf b)) := by rw [hlen]; exact hFA
        have hro : V.ownsRow w.heap.size 5 1 (.slice q n' c') (allOf b r).2.length ((allOf b r).2.map byteV) := row_to hrow hbw1.size (fun _ _ _ => rfl)
        have hp := FilesAt.push (nm := r.a.name) hFA rfl hro hbV.size (by rw [hlen]; omega)
        rw [hlen] at hp
        obtain ⟨a3, c3, w3, q1, q2, q3⟩ := hp
        exact ⟨a3, c3, w3, q1, (by rw [allOf_take hr]; exact q2 : FilesAt _ _ _ _), q3 w rfl hbV⟩
      rw [ex] at c1
      rw [ey] at c2
      rw [ex] at htw
      have HTW := hideP htw
      have HW1 := hideP hW1
      rw [ex, ey] at HW1 hbx1
      clear hD hF htw hal hbw1 hlen hmem hW1
      cases b with
      | true =>
        have HE2 : Hid (∀ (V : World) (q : Option Addr) (c' : Nat), Hid (Out W1 r.a.safe (.slice q r.a.safe.length c') V) → V.cell? ⟨wr.heap.size, 0, none⟩ = some (.string r.a.name) ∧ 
          ∃ a3 c3 w3, Hid ((Builtin.append_ #[53, 53] 53 #[.slice p0 k c0', .slice (some ⟨V.heap.size, 0, none⟩) 1 1]).run Try.prog (V.alloc (.cells #[.string r.a.name, .slice q r.a.safe.length c'] 69)) = .ok (.slice a3 (k + 1) c3) w3) ∧ Hid (FilesAt w3 w.heap.size (.slice a3 (k + 1) c3) ((rs.take (k + 1)).map (allOf true))) ∧ Hid (Below w.heap.size w w3)) := by
          intro V q c' HO
          exact ⟨blk_cell ((HO.out.2.block _ (Array.getElem?_eq_some_iff.1 hbx1).1).trans hbx1) rfl, HEND.out V q _ c' HO.out.2 HO.out.1⟩
        clear HEND hbx1 hkeep hF1 z1 z2 z3 HW
        generalize r.a.name = nm at *
        generalize r.a.safe = sf at *
        generalize r.a.chs.length = nc at *
        go_wp2_with fail
        rw [← HW1.out]
        refine HTW.out.mono ?_
        rintro e9 w5 ⟨q5, c5, rfl, HO⟩
        obtain ⟨n5, a3, c3, w3, HRN, HF3, HB3⟩ := HE2.out w5 q5 c5 HO
        clear HO HTW HW1 HE2 HFA HBR
        go_wp2_with (at_builtin; refine Lib.wpList_append_run _ rfl _ _ 53 53 rfl _ _ rfl rfl _ _ HRN.out ?_)
        exact ⟨⟨k + 1, by omega, by go_num, a3, c3, rfl, HF3, HB3⟩, by simp [intOf]; omega⟩
      | false =>
        have HE2 : Hid (∀ (V : World) (q : Option Addr) (c' : Nat), Hid (Out W1 r.a.safe (.slice q r.a.safe.length c') V) → 
          (V.cell? ⟨wr.heap.size, 0, none⟩ = some (.string r.a.name) ∧ V.cell? ⟨wr.heap.size, 1, none⟩ = some (.slice x1 x2 x3) ∧ V.cell? ⟨wr.heap.size, 2, none⟩ = some (.slice y1 r.a.chs.length y2)) ∧
          Hid (Calls Try.prog 48 #[.agg #[.string r.a.name, .slice x1 x2 x3, .slice y1 r.a.chs.length y2]] V fun e V2 => ∃ q n c, e = .returned (.slice q n c) ∧ V2.cell? ⟨wr.heap.size, 0, none⟩ = some (.string r.a.name) ∧
            ∃ a3 c3 w3, Hid ((Builtin.append_ #[53, 53] 53 #[.slice p0 k c0', .slice (some ⟨V2.heap.size, 0, none⟩) 1 1]).run Try.prog (V2.alloc (.cells #[.string r.a.name, .slice q n c] 69)) = .ok (.slice a3 (k + 1) c3) w3) ∧ Hid (FilesAt w3 w.heap.size (.slice a3 (k + 1) c3) ((rs.take (k + 1)).map (allOf false))) ∧ Hid (Below w.heap.size w w3))) := by
          intro V q c' HO
          have hbxV := (HO.out.2.block _ (Array.getElem?_eq_some_iff.1 hbx1).1).trans hbx1
          refine ⟨⟨blk_cell hbxV rfl, blk_cell hbxV rfl, blk_cell hbxV rfl⟩, ?_⟩
          have hdat := (hkeep hF1 HO.out.2).dataD z1 z2
          rw [ex, ey] at hdat
          refine hdat.mono ?_
          rintro e V2 ⟨q2, n2, k2, rfl, HO2⟩
          have hb2 := HO2.out.1.2
          have hb12 := HO.out.2.trans (hb2.mono HO.out.2.size)
          refine ⟨q2, n2, k2, rfl, blk_cell ((hb2.block _ (Array.getElem?_eq_some_iff.1 hbxV).1).trans hbxV) rfl, HEND.out V2 q2 n2 k2 hb12 (row_to HO2.out.1.1 HO.out.2.size (fun _ _ _ => rfl))⟩
        clear HEND hbx1 hkeep hF1 z1 z2 z3 HW
        generalize r.a.name = nm at *
        generalize r.a.safe = sf at *
        generalize r.a.chs.length = nc at *
        go_wp2_with fail
        rw [← HW1.out]
        refine HTW.out.mono ?_
        rintro e9 w5 ⟨q5, c5, rfl, HO⟩
        obtain ⟨⟨n5, n6, n7⟩, HDT⟩ := HE2.out w5 q5 c5 HO
        clear HO HTW HW1 HE2 HFA HBR
        go_wp2_with fail
        refine HDT.out.mono ?_
        rintro e9 w6 ⟨q6, m6, c6, rfl, n8, a3, c3, w3, HRN, HF3, HB3⟩
        clear HDT n5 n6 n7
        go_wp2_with (at_builtin; refine Lib.wpList_append_run _ rfl _ _ 53 53 rfl _ _ rfl rfl _ _ HRN.out ?_)
        exact ⟨⟨k + 1, by omega, by go_num, a3, c3, rfl, HF3, HB3⟩, by simp [intOf]; omega⟩
    · have hkl' : ¬ (k : Int) < (nl : Int) := by omega
      have hkn : k = nl := by omega
      subst hkn
      have m7 : wr.cell? ⟨M, 7, none⟩ = some (.bool a.dead) := blk_cell (o := 7) (HD.out.still HBR.out).str rfl
      have HXX : Hid (X = if a.dead = true ∧ b = false then [] else rs.map (allOf b)) := HX
      have HFX : Hid (FilesAt wr w.heap.size (.slice p0 k c0') (rs.map (allOf b))) := by
        have := HFA.out
        rwa [List.take_of_length_le (by rw [HN.out]; exact Nat.le_refl _)] at this
      clear HX HFA HW HD
      cases hd : a.dead <;> cases b
      · rw [hd] at m7
        have HE : Hid (FilesAt wr w.heap.size (.slice p0 k c0') X) := by
          have := HFX.out
          rwa [← show X = rs.map (allOf false) by rw [HXX.out, hd]; rfl] at this
        clear HXX HFX
        go_wp2
        go_ret
        exact ⟨_, _, _, rfl, HE, HBR⟩
      · rw [hd] at m7
        have HE : Hid (FilesAt wr w.heap.size (.slice p0 k c0') X) := by
          have := HFX.out
          rwa [← show X = rs.map (allOf true) by rw [HXX.out, hd]; rfl] at this
        clear HXX HFX
        go_wp2
        go_ret
        exact ⟨_, _, _, rfl, HE, HBR⟩
      · rw [hd] at m7
        have HE : Hid (FilesAt wr w.heap.size (.slice none 0 0) X) := by
          rw [show X = [] by rw [HXX.out, hd]; rfl]
          exact ⟨[], World.ownsRow_nil _ _ _ _, fun j x hx => by simp at hx⟩
        clear HXX HFX
        go_wp2
        go_ret
        exact ⟨_, _, _, rfl, HE, HBR⟩
      · rw [hd] at m7
        have HE : Hid (FilesAt wr w.heap.size (.slice p0 k c0') X) := by
          have := HFX.out
          rwa [← show X = rs.map (allOf true) by rw [HXX.out, hd]; rfl] at this
        clear HXX HFX
        go_wp2
        go_ret
        exact ⟨_, _, _, rfl, HE, HBR⟩

end Go.Proofs.Ytcceaokldphfgaa
