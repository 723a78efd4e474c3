/- YtcceaokldphfgaaDiskDoesC25 -/
import Derived.Test.YtcceaokldphfgaaDiskDoesC15
import Derived.Test.YtcceaokldphfgaaDiskDoesC24
import Derived.Test.YtcceaokldphfgaaDiskDoesC22
import Derived.Test.YtcceaokldphfgaaDiskDoesC21
import Derived.Test.YtcceaokldphfgaaDiskDoesC13
namespace Go.Proofs.Ytcceaokldphfgaa
open Go.ChangeShapes Go.WideShapes Go.ChangeAt Go.RowKit Go.Shelf Go.Deep

theorem wf_I64 {n : Int} (h : (Lit.int .i64 n).wf = true) : I64 n := by
  simp [Lit.wf, IntKind.min, IntKind.max, IntKind.signed, IntKind.bits] at h
  unfold I64
  omega

theorem ints_of : ∀ {xs : List Value}, (∀ u ∈ xs, ∃ n, u = .int .i64 n ∧ (Lit.int .i64 n).wf = true) → ∃ l : List Int, xs = l.map (Value.int .i64) ∧ ∀ x ∈ l, I64 x
  | [], _ => ⟨[], rfl, fun _ h => by cases h⟩
  | x :: xs, h => by
    obtain ⟨n, rfl, hn⟩ := h x (by simp)
    obtain ⟨l, rfl, hl⟩ := ints_of (xs := xs) (fun u hu => h u (by simp [hu]))
    refine ⟨n :: l, rfl, fun y hy => ?_⟩
    rcases List.mem_cons.1 hy with rfl | hy
    · exact wf_I64 hn
    · exact hl y hy

section
variable {H : Type} {enc : TypeId × Value → H} {W : World}

/-- A slice of integers that came in, as a field. -/
theorem rds_in {t e : TypeId} {k : IntKind} {bytes fuel : Nat} {c : Value} {y : DataW H × List MemPlace} (ht : Try.prog.underlying t = some (.slice e)) (he : Try.prog.underlying e = some (.int k)) (hc : Try.prog.cellsOf e = 1) (hb : Try.prog.bytesOf e = bytes) (hpos : 0 < bytes)
    (hf : DataW.trod enc Try.prog W 0 (fun _ => true) true fuel t [c] = some y) (hw : ∀ n ∈ y.1.weights Try.prog t, n ≤ reachBytes) :
    ∃ ao cap xs, c = .slice ao xs.length cap ∧ RdS W ao cap xs bytes ∧ xs.length * bytes ≤ 140737488351232 ∧ (∀ u ∈ xs, ∃ n, u = .int k n ∧ (Lit.int k n).wf = true) ∧ xs.length ≤ cap := by
  rcases open_slice1 ht hc hf with ⟨hcs, _⟩ | ⟨a, len, cap, m, n, V, D, Pl, hcs, _, hl, hm, hmm, hx, hV⟩
  · simp only [List.cons.injEq, and_true] at hcs
    refine ⟨none, 0, [], hcs, ⟨fun _ => ⟨rfl, rfl⟩, fun a e => by simp at e, fun a e => by simp at e, by simp, by simp, by simp⟩, by simp, by simp, by simp⟩
  · simp only [List.cons.injEq, and_true] at hcs
    simp only [if_true] at hmm
    subst hmm
    have hVi : ∀ i, i < len → ∃ n, V i = .int k n ∧ (Lit.int k n).wf = true := by
      intro i hi
      obtain ⟨n, h1, _, h3⟩ := DataW.trod_int he (hV i (by omega)).2
      simp only [List.cons.injEq, and_true] at h1
      exact ⟨n, h1, h3⟩
    have hwt : (len + (m - len)) * bytes ≤ reachBytes := by
      have := hw ((len + (m - len)) * bytes) (by rw [hx]; simp [DataW.weights, ht, hb])
      exact this
    have hlb : len * bytes ≤ 140737488351232 := by
      have h1 : len * bytes ≤ (len + (m - len)) * bytes := Nat.mul_le_mul_right _ (by omega)
      have : reachBytes = 140737488351232 := rfl
      omega
    have hlen : len ≤ len * bytes := Nat.le_mul_of_pos_right _ hpos
    refine ⟨some a, m, (List.range len).map V, by rw [hcs]; simp, ⟨fun e => by simp at e, ?_, ?_, ?_, ?_, ?_⟩, by simpa using hlb, ?_, (by simp; omega)⟩
    · intro a' e hne
      cases e
      have h0 : 0 < len := by
        rcases Nat.eq_zero_or_pos len with rfl | h
        · simp at hne
        · exact h
      have := World.block_lt_of_cell? W _ (hV 0 (by omega)).1
      simpa [Addr.add] using this
    · intro a' e j u hu
      cases e
      simp only [List.getElem?_map, Option.map_eq_some_iff] at hu
      obtain ⟨i, hi, rfl⟩ := hu
      have hj : j < len := by
        rcases Nat.lt_or_ge j len with h | h
        · exact h
        · rw [List.getElem?_eq_none (by simpa using h)] at hi; cases hi
      rw [List.getElem?_range hj] at hi
      cases hi
      exact (hV j (by omega)).1
    · intro u hu
      simp only [List.mem_map, List.mem_range] at hu
      obtain ⟨i, hi, rfl⟩ := hu
      obtain ⟨n, e, _⟩ := hVi i hi
      rw [e]; rfl
    · simp; omega
    · simp; omega
    · intro u hu
      simp only [List.mem_map, List.mem_range] at hu
      obtain ⟨i, hi, rfl⟩ := hu
      exact hVi i hi

/-- A plan that came in. -/
theorem plan_in {fuel : Nat} {cs : List Value} {y : DataW H × List MemPlace} (hf : DataW.trod enc Try.prog W 0 (fun _ => true) true fuel 24 cs = some y) (hw : ∀ n ∈ y.1.weights Try.prog 24, n ≤ reachBytes) :
    ∃ (cr ro : Int) (a1 a2 a3 : Option Addr) (c1 c2 c3 : Nat) (keep fail full : List Int), cs = [.int .i64 cr, .slice a1 keep.length c1, .slice a2 fail.length c2, .slice a3 full.length c3, .int .i64 ro] ∧ PlanAt W a1 a2 a3 c1 c2 c3 cr ro keep fail full := by
  obtain ⟨xs, n, _, rfl, hl, hlen, hfs⟩ := DataW.trod_struct Try.underlying24 hf
  rw [Try.cells24] at hl
  obtain ⟨v0, v1, v2, v3, v4, rfl⟩ := list5 hl
  obtain ⟨y0, y1, y2, y3, y4, rfl⟩ := list5 hlen
  have f0 := hfs 0
  have f1 := hfs 1
  have f2 := hfs 2
  have f3 := hfs 3
  have f4 := hfs 4
  simp only [List.getElem?_toArray, Option.some.injEq, forall_eq', Try.cells3, Try.cells22, List.drop_zero, List.drop_succ_cons, List.take_succ_cons, List.take_zero, List.getElem?_cons_zero, List.getElem?_cons_succ] at f0 f1 f2 f3 f4
  simp only [DataW.weights, Try.underlying24, List.map_cons, List.map_nil, DataW.weightsEach, List.mem_append] at hw
  obtain ⟨cr, e0, _, b0⟩ := DataW.trod_int Try.underlying3 f0
  obtain ⟨ro, e4, _, b4⟩ := DataW.trod_int Try.underlying3 f4
  obtain ⟨a1, c1, x1, e1, r1, l1, i1, _⟩ := rds_in Try.underlying22 Try.underlying3 Try.cells3 Try.bytes3 (by omega) f1 (fun n hn => hw n (by simp [hn]))
  obtain ⟨a2, c2, x2, e2, r2, l2, i2, _⟩ := rds_in Try.underlying22 Try.underlying3 Try.cells3 Try.bytes3 (by omega) f2 (fun n hn => hw n (by simp [hn]))
  obtain ⟨a3, c3, x3, e3, r3, l3, i3, _⟩ := rds_in Try.underlying22 Try.underlying3 Try.cells3 Try.bytes3 (by omega) f3 (fun n hn => hw n (by simp [hn]))
  simp only [List.cons.injEq, and_true] at e0 e4
  obtain ⟨keep, rfl, k1⟩ := ints_of i1
  obtain ⟨fail, rfl, k2⟩ := ints_of i2
  obtain ⟨full, rfl, k3⟩ := ints_of i3
  rw [List.length_map] at e1 e2 e3 l1 l2 l3
  subst e0 e1 e2 e3 e4
  exact ⟨cr, ro, a1, a2, a3, c1, c2, c3, keep, fail, full, rfl, r1, r2, r3, wf_I64 b0, wf_I64 b4, k1, k2, k3, l1, l2, l3⟩

/-- An operation that came in. -/
theorem op_in {fuel : Nat} {cs : List Value} {y : DataW H × List MemPlace} (hf : DataW.trod enc Try.prog W 0 (fun _ => true) true fuel 35 cs = some y) (hw : ∀ n ∈ y.1.weights Try.prog 35, n ≤ reachBytes) :
    ∃ (o : AOp) (a a1 a2 a3 : Option Addr) (c c1 c2 c3 : Nat), cs = opC a a1 a2 a3 c c1 c2 c3 o ∧ OpAt W a a1 a2 a3 c c1 c2 c3 o := by
  obtain ⟨xs, n, _, rfl, hl, hlen, hfs⟩ := DataW.trod_struct Try.underlying35 hf
  rw [Try.cells35] at hl
  obtain ⟨v0, v1, v2, v3, v4, v5, v6, v7, v8, v9, v10, rfl⟩ := list11 hl
  obtain ⟨y0, y1, y2, y3, y4, y5, y6, rfl⟩ := list7 hlen
  have f0 := hfs 0
  have f1 := hfs 1
  have f2 := hfs 2
  have f3 := hfs 3
  have f4 := hfs 4
  have f5 := hfs 5
  have f6 := hfs 6
  simp only [List.getElem?_toArray, Option.some.injEq, forall_eq', Try.cells3, Try.cells9, Try.cells33, Try.cells24, List.drop_zero, List.drop_succ_cons, List.take_succ_cons, List.take_zero, List.getElem?_cons_zero, List.getElem?_cons_succ] at f0 f1 f2 f3 f4 f5 f6
  simp only [DataW.weights, Try.underlying35, List.map_cons, List.map_nil, DataW.weightsEach, List.mem_append] at hw
  obtain ⟨k, e0, _, _⟩ := DataW.trod_int Try.underlying3 f0
  obtain ⟨nm, e1, _, _⟩ := DataW.trod_string Try.underlying9 f1
  obtain ⟨to, e2, _, _⟩ := DataW.trod_string Try.underlying9 f2
  obtain ⟨at_, e3, _, b3⟩ := DataW.trod_int Try.underlying3 f3
  obtain ⟨long, e4, _, b4⟩ := DataW.trod_int Try.underlying3 f4
  obtain ⟨a, c, xb, e5, r5, l5, hb, hcap⟩ := rds_in Try.underlying33 Try.underlying5 Try.cells5 Try.bytes5 (by omega) f5 (fun n hn => hw n (by simp [hn]))
  obtain ⟨l, rfl⟩ := bytes_of hb
  obtain ⟨cr, ro, a1, a2, a3, c1, c2, c3, keep, fail, full, e6, hp⟩ := plan_in f6 (fun n hn => hw n (by simp [hn]))
  simp only [List.cons.injEq, and_true] at e0 e1 e2 e3 e4 e6
  obtain ⟨g0, g1, g2, g3, g4⟩ := e6
  rw [List.length_map] at e5 l5
  subst e0 e1 e2 e3 e4 e5 g0 g1 g2 g3 g4
  refine ⟨⟨k, nm, to, at_, long, l, cr, ro, keep, fail, full⟩, a, a1, a2, a3, c, c1, c2, c3, rfl, ?_⟩
  exact {
    nil := fun e => ⟨by have := (r5.nil e).1; simpa using this, (r5.nil e).2⟩
    lt := fun b e hne => r5.lt b e (by simpa using hne)
    cell := fun b e j u hu => r5.at_ b e j (byteV u) (by simp [hu])
    len := by simpa using l5
    keep := hp.rK
    fail := hp.rF
    full := hp.rU
    iAt := wf_I64 b3
    iLong := wf_I64 b4
    iC := hp.iC
    iR := hp.iR
    iK := hp.iK
    iF := hp.iF
    iU := hp.iU
    lK := hp.lK
    lF := hp.lF
    lU := hp.lU
    cap := by simpa using hcap }

theorem cells_at {n : Nat} {x : Addr} {cs : List Value} (h : W.cells? 0 x n = some cs) : cs.length = n ∧ ∀ (i : Nat) (u : Value), cs[i]? = some u → W.cell? (x.add i) = some u := by
  obtain ⟨_, hl, hc⟩ := World.cells?_some h
  refine ⟨hl, fun i u hu => ?_⟩
  have hi : i < n := by
    have := (List.getElem?_eq_some_iff.1 hu).1
    omega
  rw [hc i hi, hu]

set_option maxRecDepth 100000 in
/-- Operations that came in. -/
theorem ops_in {v : Value} {d : DataW H} {p : List MemPlace} {base : Nat} (hok : Value.okWide Try.prog W .any base 25 v) (h : DataW.Trod enc Try.prog W 0 (fun _ => true) true 25 v d p) (hw : ∀ n ∈ d.weights Try.prog 25, n ≤ reachBytes) : ∃ L : List AOp, OpsAt W v L := by
  obtain ⟨fuel, hf⟩ := h
  obtain ⟨ao, n, cap, rfl⟩ := okWide_slice Try.underlying25 hok
  have hcells : (Value.slice ao n cap).cells.toList = [.slice ao n cap] := rfl
  rw [hcells] at hf
  rcases open_slice Try.underlying25 hf with ⟨h1, hx⟩ | ⟨a, len, cp, m, k, D, Pl, h1, _, hle, hcm, hm, hx, hi⟩
  · simp only [List.cons.injEq, Value.slice.injEq, and_true] at h1
    obtain ⟨rfl, rfl, rfl⟩ := h1
    exact ⟨[], .inl ⟨rfl, _, _, rfl⟩⟩
  · simp only [List.cons.injEq, Value.slice.injEq, and_true] at h1
    obtain ⟨rfl, rfl, rfl⟩ := h1
    simp only [if_true] at hm
    subst hm
    rw [Try.cells35] at hi
    have hd : d = .slice ((List.range n).map D) ((List.range (m - n)).map fun j => D (n + j)) := congrArg Prod.fst hx
    subst hd
    have hs : (n + (m - n)) * Try.prog.bytesOf 35 ≤ reachBytes := hw _ (by simp [DataW.weights, Try.underlying25])
    have hby : Try.prog.bytesOf 35 = 168 := by kernel_rfl
    rw [hby] at hs
    unfold reachBytes at hs
    have hwe : ∀ i, i < n → ∀ y ∈ (D i).weights Try.prog 35, y ≤ reachBytes := fun i hil y hy => by
      have hmem : ∀ (l : List (DataW H)), D i ∈ l → y ∈ DataW.weightsAll Try.prog 35 l := fun l => by
        induction l with
        | nil => intro h; cases h
        | cons z l ih =>
          intro h
          simp only [DataW.weightsAll, List.mem_append]
          rcases List.mem_cons.1 h with e1 | h
          · left; rw [← e1]; exact hy
          · exact Or.inr (ih h)
      refine hw y ?_
      simp only [DataW.weights, Try.underlying25]
      exact List.mem_cons_of_mem _ (List.mem_append_left _ (hmem _ (List.mem_map_of_mem (List.mem_range.2 hil))))
    have hone : ∀ i, i < n → ∃ o : AOp, ∃ a0 a1 a2 a3 c c1 c2 c3, OpAt W a0 a1 a2 a3 c c1 c2 c3 o ∧ ∀ (q : Nat) (u : Value), (opC a0 a1 a2 a3 c c1 c2 c3 o)[q]? = some u → W.cell? ((a.add (i * 11)).add q) = some u := fun i hil => by
      obtain ⟨cs, hc, ht⟩ := hi i (by omega)
      obtain ⟨hl, hcc⟩ := cells_at hc
      obtain ⟨o, a0, a1, a2, a3, c, c1, c2, c3, rfl, hop⟩ := op_in ht (hwe i hil)
      exact ⟨o, a0, a1, a2, a3, c, c1, c2, c3, hop, hcc⟩
    rcases Nat.eq_zero_or_pos n with rfl | hpos
    · exact ⟨[], .inl ⟨rfl, _, _, rfl⟩⟩
    · have hsp : a.spot = none := by
        obtain ⟨o, a0, a1, a2, a3, c, c1, c2, c3, _, hcc⟩ := hone 0 hpos
        have := World.cell?_spot (hcc 0 _ rfl)
        simpa [Addr.add] using this
      obtain ⟨blk, off, sp⟩ := a
      simp only at hsp
      subst hsp
      have hch : ∀ i, ∃ o : AOp, i < n → ∃ a0 a1 a2 a3 c c1 c2 c3, OpAt W a0 a1 a2 a3 c c1 c2 c3 o ∧ ∀ (q : Nat) (u : Value), (opC a0 a1 a2 a3 c c1 c2 c3 o)[q]? = some u → W.cell? (((⟨blk, off, none⟩ : Addr).add (i * 11)).add q) = some u := fun i => by
        by_cases hil : i < n
        · obtain ⟨o, ho⟩ := hone i hil
          exact ⟨o, fun _ => ho⟩
        · exact ⟨⟨0, ⟨#[]⟩, ⟨#[]⟩, 0, 0, [], 0, 0, [], [], []⟩, fun h => absurd h hil⟩
      refine ⟨(List.range n).map fun i => (hch i).choose, .inr ⟨blk, off, m, by simp, ?_, by simp; omega, fun j o hj => ?_⟩⟩
      · obtain ⟨cs, hc, _⟩ := hi 0 (by omega)
        exact World.cells?_block hc (by omega)
      · rw [List.getElem?_map, Option.map_eq_some_iff] at hj
        obtain ⟨i, hij, rfl⟩ := hj
        have hjn : j < n := by
          rcases Nat.lt_or_ge j n with h | h
          · exact h
          · rw [List.getElem?_eq_none (by simpa using h)] at hij; cases hij
        rw [List.getElem?_range hjn] at hij
        cases hij
        obtain ⟨a0, a1, a2, a3, c, c1, c2, c3, hop, hcc⟩ := (hch j).choose_spec hjn
        refine ⟨a0, a1, a2, a3, c, c1, c2, c3, hop, fun q u hu => ?_⟩
        have := hcc q u hu
        rwa [Addr.add_lit, Addr.add_lit] at this

set_option maxRecDepth 100000 in
theorem plan_arg {v : Value} {d : DataW H} {p : List MemPlace} {base : Nat} (hok : Value.okWide Try.prog W .any base 24 v) (h : DataW.Trod enc Try.prog W 0 (fun _ => true) true 24 v d p) (hw : ∀ n ∈ d.weights Try.prog 24, n ≤ reachBytes) :
    ∃ (cr ro : Int) (a1 a2 a3 : Option Addr) (c1 c2 c3 : Nat) (keep fail full : List Int), v = planV a1 a2 a3 c1 c2 c3 cr ro keep fail full ∧ PlanAt W a1 a2 a3 c1 c2 c3 cr ro keep fail full := by
  obtain ⟨cs, rfl, _⟩ := okWide_struct Try.underlying24 hok
  obtain ⟨fuel, hf⟩ := h
  obtain ⟨cr, ro, a1, a2, a3, c1, c2, c3, keep, fail, full, hcs, hp⟩ := plan_in hf hw
  refine ⟨cr, ro, a1, a2, a3, c1, c2, c3, keep, fail, full, ?_, hp⟩
  have : cs.toList = _ := hcs
  rw [← Array.toArray_toList (xs := cs), this]

end
end Go.Proofs.Ytcceaokldphfgaa

namespace Go.Proofs.Ytcceaokldphfgaa
open Go.RowKit Go.Shelf

theorem putObj_heap_other (W : World) (l k : Nat) (o : Obj) (h : k ≠ l) : (W.putObj l o).heap[k]? = W.heap[k]? := by
  simp [World.putObj, Ne.symm h]

end Go.Proofs.Ytcceaokldphfgaa

namespace Go.Proofs.Ytcceaokldphfgaa
open Go.ChangeShapes Go.WideShapes Go.ChangeAt Go.RowKit Go.Shelf

theorem Try.own : ownKnob Try.prog.godebug = none := by kernel_rfl

theorem Try.laidOut : laidOutB Try.prog = true := by kernel_rfl

end Go.Proofs.Ytcceaokldphfgaa

namespace Go.Proofs.Ytcceaokldphfgaa
open Go.RowKit Go.Shelf

/-- Two cells for each file: its name, and its bytes in a row of their own. -/
def Told (B : Nat) (W : World) (cs : List Value) (l : List (ByteArray × List UInt8)) : Prop :=
  ∀ (j : Nat) (x : ByteArray × List UInt8), l[j]? = some x → ∃ bv, cs[2 * j]? = some (.string x.1) ∧ cs[2 * j + 1]? = some bv ∧ W.ownsRow B 5 1 bv x.2.length (x.2.map byteV)

def colL {fs : List FRep} (col : FRep → List UInt8) (pre : List (Of fs)) : List (ByteArray × List UInt8) := pre.map fun x => (x.1.a.name, col x.1)

/-- What Files has gathered. -/
structure FilesJ (w : World) {fs : List FRep} (col : FRep → List UInt8) (pre : List (Of fs)) (W : World) : Prop where
  ex : ∃ a c cs, W.heap[w.heap.size]? = some (.cells #[.slice a pre.length c] 53 (0, 0)) ∧ W.ownsRow w.heap.size 69 2 (.slice a pre.length c) pre.length cs ∧ Told w.heap.size W cs (colL col pre)
  below : Below w.heap.size w W

theorem Told.same {B : Nat} {W W' : World} {cs : List Value} {l : List (ByteArray × List UInt8)} (h : Told B W cs l) (hs : ∀ k cur, B ≤ k → W.heap[k]? = some (.cells cur 5 (0, 0)) → W'.heap[k]? = W.heap[k]?) : Told B W' cs l := by
  intro j x hx
  obtain ⟨bv, h1, h2, h3⟩ := h j x hx
  refine ⟨bv, h1, h2, ?_⟩
  obtain ⟨hl, h0 | ⟨g, cap, cur, rfl, hb, hg, hr⟩⟩ := h3
  · exact ⟨hl, .inl h0⟩
  · exact ⟨hl, .inr ⟨g, cap, cur, rfl, hb, (hs g cur hb hg).trans hg, hr⟩⟩

theorem Told.snoc {B : Nat} {W : World} {cs : List Value} {l : List (ByteArray × List UInt8)} {nm : ByteArray} {bs : List UInt8} {bv : Value} (h : Told B W cs l) (hl : cs.length = 2 * l.length) (hb : W.ownsRow B 5 1 bv bs.length (bs.map byteV)) : Told B W (cs ++ [.string nm, bv]) (l ++ [(nm, bs)]) := by
  intro j x hx
  rw [List.getElem?_append] at hx
  by_cases hj : j < l.length
  · rw [if_pos hj] at hx
    obtain ⟨v, h1, h2, h3⟩ := h j x hx
    exact ⟨v, by rw [List.getElem?_append_left (by omega)]; exact h1, by rw [List.getElem?_append_left (by omega)]; exact h2, h3⟩
  · rw [if_neg hj] at hx
    have hj0 : j = l.length := by
      have := (List.getElem?_eq_some_iff.1 hx).1
      simp at this; omega
    subst hj0
    simp only [Nat.sub_self, List.getElem?_cons_zero, Option.some.injEq] at hx
    subst hx
    refine ⟨bv, ?_, ?_, hb⟩
    · rw [List.getElem?_append_right (by omega), show 2 * l.length - cs.length = 0 by omega]; rfl
    · rw [List.getElem?_append_right (by omega), show 2 * l.length + 1 - cs.length = 1 by omega]; rfl

theorem filesJ_own {w : World} {fs : List FRep} {col : FRep → List UInt8} {B : Nat} (hB : w.heap.size ≤ B) : OwnFrom B (fun (pre : List (Of fs)) W => FilesJ w col pre W) := by
  intro pre W W' row h hg hr
  have hn : ∀ r, row = some r → ¬ isC W r := by
    rintro r e ⟨cs, t, fr, hc⟩
    obtain ⟨_, o, ho, hcc⟩ := hr r e
    rw [hc] at ho
    cases ho
    simp [Obj.isCells] at hcc
  obtain ⟨a, c, cs, h1, h2, h3⟩ := h.ex
  refine ⟨⟨a, c, cs, (hg.block _ (Array.getElem?_eq_some_iff.1 h1).1 (fun e => hn _ e.symm ⟨_, _, _, h1⟩)).trans h1, h2.kept hg ?_, h3.same fun k cur _ hk => hg.block k (Array.getElem?_eq_some_iff.1 hk).1 (fun e => hn _ e.symm ⟨_, _, _, hk⟩)⟩, h.below.grown hg h.below.size (fun k e => Nat.le_trans hB (hr k e).1)⟩
  cases e : (Value.slice a pre.length c).ownBlock with
  | none => exact .inl rfl
  | some g =>
    right
    intro e'
    obtain ⟨cur, hgg, _⟩ := own_block h2 e
    exact hn g e'.symm ⟨_, _, _, hgg⟩

/-- One file more. -/
theorem filesJ_step {w W w2 : World} {role : Role} {D : Nat} {s : DSt} {col : FRep → List UInt8} {pre : List (Of s.fs)} {x : Of s.fs} {d2 : Value} {a : Option Addr} {c : Nat} {cs : List Value} (h : DiskOK w role D s)
    (hbx : W.heap[w.heap.size]? = some (.cells #[.slice a pre.length c] 53 (0, 0))) (hown : W.ownsRow w.heap.size 69 2 (.slice a pre.length c) pre.length cs) (htold : Told w.heap.size W cs (colL col pre)) (hb : Below w.heap.size w W) (hb2 : Below W.heap.size W w2) (hn : pre.length < 4096) (hd : d2.oneCell' = true)
    (hnew : w2.ownsRow w.heap.size 5 1 d2 (col x.1).length ((col x.1).map byteV)) :
    ∃ a3 n3 c3 w3, (Builtin.append_ #[53, 53] 53 #[.slice a pre.length c, .slice (some ⟨w2.heap.size, 0, none⟩) 1 1]).run Try.prog (w2.alloc (.cells #[.string x.1.a.name, d2] 69)) = .ok (.slice a3 n3 c3) w3 ∧
      w3.cell? ⟨w.heap.size, 0, none⟩ = some (.slice a pre.length c) ∧ w3.frozen? ⟨w.heap.size, 0, none⟩ = false ∧ Below w.heap.size w w3 ∧ Below w.heap.size w (w3.setCell ⟨w.heap.size, 0, none⟩ (.slice a3 n3 c3)) ∧
      (∀ B, KeepsFrom B W (w3.setCell ⟨w.heap.size, 0, none⟩ (.slice a3 n3 c3))) ∧ KpR s.filesV s.fs W (w3.setCell ⟨w.heap.size, 0, none⟩ (.slice a3 n3 c3)) ∧ FilesJ w col (pre ++ [x]) (w3.setCell ⟨w.heap.size, 0, none⟩ (.slice a3 n3 c3)) := by
  obtain ⟨i0, hi0, hz0, hz1, hz2⟩ := info_parts Try.info69
  have hBlt : w.heap.size < W.heap.size := (Array.getElem?_eq_some_iff.1 hbx).1
  have hVb : Below W.heap.size W (w2.alloc (.cells #[.string x.1.a.name, d2] 69)) := hb2.alloc hb2.size _
  have hrow : ∀ g, (Value.slice a pre.length c).ownBlock = some g → g < W.heap.size ∧ g ≠ w.heap.size ∧ isC W g := by
    intro g e
    obtain ⟨cur, hg, _⟩ := own_block hown e
    refine ⟨(Array.getElem?_eq_some_iff.1 hg).1, fun e' => ?_, ⟨_, _, _, hg⟩⟩
    rw [e'] at hg
    rw [hg] at hbx
    simp at hbx
  have hownV : (w2.alloc (.cells #[.string x.1.a.name, d2] 69)).ownsRow w.heap.size 69 2 (.slice a pre.length c) pre.length cs := by
    obtain ⟨hl, h' | ⟨g, cap, cur, e, hbg, hg, hr⟩⟩ := hown
    · exact ⟨hl, .inl h'⟩
    · exact ⟨hl, .inr ⟨g, cap, cur, e, hbg, (hVb.block g (Array.getElem?_eq_some_iff.1 hg).1).trans hg, hr⟩⟩
  have hnw : (w2.alloc (.cells #[.string x.1.a.name, d2] 69)).heap[w2.heap.size]? = some (.cells #[.string x.1.a.name, d2] 69 (0, 0)) := World.alloc_heap_new w2 _
  obtain ⟨v3, w3, hrun, hown3, hgr, _⟩ := run_append_own (P := Try.prog) (w2.alloc (.cells #[.string x.1.a.name, d2] 69)) w.heap.size 53 53 69 i0 (.agg #[.string ByteArray.empty, .slice none 0 0]) 2 40 Try.underlying53 hi0 hz0 hz1 hz2 rfl (by decide) (.slice a pre.length c) pre.length cs hownV ⟨w2.heap.size, 0, none⟩ 1 1 [.string x.1.a.name, d2] rfl
    (fun j u hu => by
      rw [Addr.add_lit, Nat.zero_add]
      match j, hu with
      | 0, hu => simp only [List.getElem?_cons_zero, Option.some.injEq] at hu; subst hu; exact blk_cell hnw rfl
      | 1, hu => simp only [List.getElem?_cons_succ, List.getElem?_cons_zero, Option.some.injEq] at hu; subst hu; exact blk_cell hnw rfl
      | j + 2, hu => simp at hu)
    (fun u hu => by
      simp only [List.mem_cons, List.not_mem_nil, or_false] at hu
      rcases hu with rfl | rfl
      · rfl
      · exact hd) (by unfold maxLen; omega) (by omega) (by have := hVb.size; omega)
  obtain ⟨a3, c3, rfl⟩ := own_shape hown3
  have hVW : W.heap.size ≤ (w2.alloc (.cells #[.string x.1.a.name, d2] 69)).heap.size := hVb.size
  have hsame : ∀ k, k < W.heap.size → (Value.slice a pre.length c).ownBlock ≠ some k → w3.heap[k]? = W.heap[k]? := fun k hk hne => (hgr.block k (by omega) (fun e => hne e.symm)).trans (hVb.block k hk)
  have hbx3 : w3.heap[w.heap.size]? = some (.cells #[.slice a pre.length c] 53 (0, 0)) := (hsame _ hBlt (fun e => (hrow _ e).2.1 rfl)).trans hbx
  have hbel3 : Below w.heap.size w w3 := by
    have h1 : Below w.heap.size w (w2.alloc (.cells #[.string x.1.a.name, d2] 69)) := hb.trans (hVb.mono (by omega))
    exact h1.grown hgr (by omega) (fun k e => by
      obtain ⟨_, _, hk⟩ := own_block hown e
      exact hk)
  have hbel4 : Below w.heap.size w (w3.setCell ⟨w.heap.size, 0, none⟩ (.slice a3 (pre.length + 1) c3)) := hbel3.setCell (p := ⟨w.heap.size, 0, none⟩) (Nat.le_refl _) _
  have hoth : Oth W (w3.setCell ⟨w.heap.size, 0, none⟩ (.slice a3 (pre.length + 1) c3)) := by
    refine Oth.trans (B := w3) ⟨by have := hgr.size; omega, fun k hk hn => hsame k hk (fun e => hn (hrow k e).2.2)⟩ (Oth.setCell hbx3 _)
  have hbyte : ∀ (V : World) k cur, k < (w2.alloc (.cells #[.string x.1.a.name, d2] 69)).heap.size → (w2.alloc (.cells #[.string x.1.a.name, d2] 69)).heap[k]? = V.heap[k]? → V.heap[k]? = some (.cells cur 5 (0, 0)) → (w3.setCell ⟨w.heap.size, 0, none⟩ (.slice a3 (pre.length + 1) c3)).heap[k]? = V.heap[k]? := by
    intro V k cur hk hV hc
    have hkb : k ≠ w.heap.size := fun e => by
      subst e
      have h1 := (hVb.block _ hBlt).trans hbx
      rw [hV, hc] at h1
      simp at h1
    refine (Below.heap_setCell w3 _ _ k hkb).trans ((hgr.block k hk (fun e => ?_)).trans hV)
    obtain ⟨cur2, hg2, _⟩ := own_block hownV e.symm
    rw [hV, hc] at hg2
    simp at hg2
  have hcsl : cs.length = 2 * pre.length := by have := hown.1; omega
  refine ⟨a3, _, c3, w3, hrun, blk_cell hbx3 rfl, blk_free hbx3, hbel3, hbel4, fun B => hoth.keeps B, KpR.of_same (fun g e => ?_), ⟨⟨a3, c3, cs ++ [.string x.1.a.name, d2], ?_, ?_, ?_⟩, hbel4⟩⟩
  · have hg := (h.files.lt g e).2
    exact (hbel4.block g hg).trans (hb.block g hg).symm
  · have := blk_set (o := 0) hbx3 (.slice a3 (pre.length + 1) c3)
    simpa using this
  · have hne : (Value.slice a3 (pre.length + 1) c3).ownBlock ≠ some w.heap.size := fun e => by
      obtain ⟨cur, hg, _⟩ := own_block hown3 e
      rw [hg] at hbx3
      simp at hbx3
    have := ownsRow_setCell_other hown3 (a := ⟨w.heap.size, 0, none⟩) hne (.slice a3 (pre.length + 1) c3)
    simpa using this
  · have e : colL col (pre ++ [x]) = colL col pre ++ [(x.1.a.name, col x.1)] := by simp [colL]
    rw [e]
    refine Told.snoc (htold.same fun k cur hk hc => hbyte W k cur (by have := (Array.getElem?_eq_some_iff.1 hc).1; omega) (hVb.block k (Array.getElem?_eq_some_iff.1 hc).1) hc) (by rw [hcsl]; simp [colL]) ?_
    obtain ⟨hl, h0 | ⟨g, cap, cur, rfl, hbg, hg, hr⟩⟩ := hnew
    · exact ⟨hl, .inl h0⟩
    · have hglt := (Array.getElem?_eq_some_iff.1 hg).1
      refine ⟨hl, .inr ⟨g, cap, cur, rfl, hbg, (hbyte w2 g cur (by simp; omega) (Below.heap_alloc w2 _ g hglt) hg).trans hg, hr⟩⟩

end Go.Proofs.Ytcceaokldphfgaa
