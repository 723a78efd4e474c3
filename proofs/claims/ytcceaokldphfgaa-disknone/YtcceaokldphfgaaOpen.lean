import Derived.Test.YtcceaokldphfgaaRows
import Derived.Test.YtcceaokldphfgaaTwin2
import Derived.ProofKit
import Derived.SizedLaws
import Derived.Deep.Slices
namespace Go.Proofs.Ytcceaokldphfgaa
open Go.ChangeShapes Go.WideShapes Go.ChangeAt Go.RowKit Go.Shelf Go.Deep

theorem Try.cells3 : Try.prog.cellsOf 3 = 1 := by kernel_rfl
theorem Try.cells5 : Try.prog.cellsOf 5 = 1 := by kernel_rfl
theorem Try.cells9 : Try.prog.cellsOf 9 = 1 := by kernel_rfl
theorem Try.cells22 : Try.prog.cellsOf 22 = 1 := by kernel_rfl
theorem Try.cells33 : Try.prog.cellsOf 33 = 1 := by kernel_rfl
theorem Try.cells24 : Try.prog.cellsOf 24 = 5 := by kernel_rfl
theorem Try.cells35 : Try.prog.cellsOf 35 = 11 := by kernel_rfl
theorem Try.bytes3 : Try.prog.bytesOf 3 = 8 := by kernel_rfl
theorem Try.bytes5 : Try.prog.bytesOf 5 = 1 := by kernel_rfl

theorem list5 {α : Type} {cs : List α} (h : cs.length = 5) : ∃ c0 c1 c2 c3 c4, cs = [c0, c1, c2, c3, c4] := by
  match cs, h with
  | [c0, c1, c2, c3, c4], _ => exact ⟨c0, c1, c2, c3, c4, rfl⟩
theorem list7 {α : Type} {cs : List α} (h : cs.length = 7) : ∃ c0 c1 c2 c3 c4 c5 c6, cs = [c0, c1, c2, c3, c4, c5, c6] := by
  match cs, h with
  | [c0, c1, c2, c3, c4, c5, c6], _ => exact ⟨c0, c1, c2, c3, c4, c5, c6, rfl⟩
theorem list11 {α : Type} {cs : List α} (h : cs.length = 11) : ∃ c0 c1 c2 c3 c4 c5 c6 c7 c8 c9 c10, cs = [c0, c1, c2, c3, c4, c5, c6, c7, c8, c9, c10] := by
  match cs, h with
  | [c0, c1, c2, c3, c4, c5, c6, c7, c8, c9, c10], _ => exact ⟨c0, c1, c2, c3, c4, c5, c6, c7, c8, c9, c10, rfl⟩

section
variable {H : Type} {enc : TypeId × Value → H} {W : World}

/-- A slice of integers that came in, as a field. -/
theorem rds_of {t e : TypeId} {k : IntKind} {bytes fuel : Nat} {c : Value} {y : DataW H × List MemPlace} (ht : Try.prog.underlying t = some (.slice e)) (he : Try.prog.underlying e = some (.int k)) (hc : Try.prog.cellsOf e = 1) (hb : Try.prog.bytesOf e = bytes) (hpos : 0 < bytes)
    (hf : DataW.trod enc Try.prog W 0 (fun _ => true) true fuel t [c] = some y) (hw : ∀ n ∈ y.1.weights Try.prog t, n ≤ reachBytes) :
    ∃ ao cap xs, c = .slice ao xs.length cap ∧ RdS W ao cap xs bytes ∧ ∀ u ∈ xs, ∃ n, u = .int k n ∧ (Lit.int k n).wf = true := by
  rcases open_slice1 ht hc hf with ⟨hcs, _⟩ | ⟨a, len, cap, m, n, V, D, Pl, hcs, _, hl, hm, hmm, hx, hV⟩
  · simp only [List.cons.injEq, and_true] at hcs
    refine ⟨none, 0, [], hcs, ⟨fun _ => ⟨rfl, rfl⟩, fun a e => by simp at e, fun a e => by simp at e, by simp, by simp, by simp⟩, by simp⟩
  · simp only [List.cons.injEq, and_true] at hcs
    simp only [if_true] at hmm
    subst hmm
    have hVi : ∀ i, i < len → ∃ n, V i = .int k n ∧ (Lit.int k n).wf = true := by
      intro i hi
      obtain ⟨n, h1, _, h3⟩ := DataW.trod_int he (hV i (by omega)).2
      simp only [List.cons.injEq, and_true] at h1
      exact ⟨n, h1, h3⟩
    have hwt : (len + (m - len)) * bytes ≤ reachBytes := by
      have := hw ((len + (m - len)) * bytes) (by rw [hx]; simp [DataW.weights, ht, hb])
      exact this
    have hlb : len * bytes ≤ 140737488351232 := by
      have h1 : len * bytes ≤ (len + (m - len)) * bytes := Nat.mul_le_mul_right _ (by omega)
      have : reachBytes = 140737488351232 := rfl
      omega
    have hlen : len ≤ len * bytes := Nat.le_mul_of_pos_right _ hpos
    refine ⟨some a, m, (List.range len).map V, by rw [hcs]; simp, ⟨fun e => by simp at e, ?_, ?_, ?_, ?_, ?_⟩, ?_⟩
    · intro a' e hne
      cases e
      have h0 : 0 < len := by
        rcases Nat.eq_zero_or_pos len with rfl | h
        · simp at hne
        · exact h
      have := World.block_lt_of_cell? W _ (hV 0 (by omega)).1
      simpa [Addr.add] using this
    · intro a' e j u hu
      cases e
      simp only [List.getElem?_map, Option.map_eq_some_iff] at hu
      obtain ⟨i, hi, rfl⟩ := hu
      have hj : j < len := by
        rcases Nat.lt_or_ge j len with h | h
        · exact h
        · rw [List.getElem?_eq_none (by simpa using h)] at hi; cases hi
      rw [List.getElem?_range hj] at hi
      cases hi
      exact (hV j (by omega)).1
    · intro u hu
      simp only [List.mem_map, List.mem_range] at hu
      obtain ⟨i, hi, rfl⟩ := hu
      obtain ⟨n, e, _⟩ := hVi i hi
      rw [e]; rfl
    · simp; omega
    · simp; omega
    · intro u hu
      simp only [List.mem_map, List.mem_range] at hu
      obtain ⟨i, hi, rfl⟩ := hu
      exact hVi i hi

theorem bytes_of : ∀ {xs : List Value}, (∀ u ∈ xs, ∃ n, u = .int .u8 n ∧ (Lit.int .u8 n).wf = true) → ∃ l : List UInt8, xs = l.map byteV
  | [], _ => ⟨[], rfl⟩
  | x :: xs, h => by
    obtain ⟨n, rfl, hn⟩ := h x (by simp)
    obtain ⟨l, rfl⟩ := bytes_of (xs := xs) (fun u hu => h u (by simp [hu]))
    have hr : 0 ≤ n ∧ n ≤ 255 := by simp [Lit.wf, IntKind.min, IntKind.max, IntKind.signed, IntKind.bits] at hn; omega
    refine ⟨UInt8.ofNat n.toNat :: l, ?_⟩
    simp only [List.map_cons, List.cons.injEq, and_true, byteV]
    congr 1
    simp [UInt8.toNat_ofNat']
    omega

/-- A plan, as five cells. -/
theorem plan_open {fuel : Nat} {cs : List Value} {y : DataW H × List MemPlace} (hf : DataW.trod enc Try.prog W 0 (fun _ => true) true fuel 24 cs = some y) (hw : ∀ n ∈ y.1.weights Try.prog 24, n ≤ reachBytes) :
    ∃ (cr ro : Int) (a1 a2 a3 : Option Addr) (c1 c2 c3 : Nat) (x1 x2 x3 : List Value), cs = [.int .i64 cr, .slice a1 x1.length c1, .slice a2 x2.length c2, .slice a3 x3.length c3, .int .i64 ro] ∧ RdS W a1 c1 x1 8 ∧ RdS W a2 c2 x2 8 ∧ RdS W a3 c3 x3 8 := by
  obtain ⟨xs, n, _, rfl, hl, hlen, hfs⟩ := DataW.trod_struct Try.underlying24 hf
  rw [Try.cells24] at hl
  obtain ⟨v0, v1, v2, v3, v4, rfl⟩ := list5 hl
  obtain ⟨y0, y1, y2, y3, y4, rfl⟩ := list5 hlen
  have f0 := hfs 0
  have f1 := hfs 1
  have f2 := hfs 2
  have f3 := hfs 3
  have f4 := hfs 4
  simp only [List.getElem?_toArray, Option.some.injEq, forall_eq', Try.cells3, Try.cells22, List.drop_zero, List.drop_succ_cons, List.take_succ_cons, List.take_zero, List.getElem?_cons_zero, List.getElem?_cons_succ] at f0 f1 f2 f3 f4
  simp only [DataW.weights, Try.underlying24, List.map_cons, List.map_nil, DataW.weightsEach, List.mem_append] at hw
  obtain ⟨cr, e0, _, _⟩ := DataW.trod_int Try.underlying3 f0
  obtain ⟨ro, e4, _, _⟩ := DataW.trod_int Try.underlying3 f4
  obtain ⟨a1, c1, x1, e1, r1, _⟩ := rds_of Try.underlying22 Try.underlying3 Try.cells3 Try.bytes3 (by omega) f1 (fun n hn => hw n (by simp [hn]))
  obtain ⟨a2, c2, x2, e2, r2, _⟩ := rds_of Try.underlying22 Try.underlying3 Try.cells3 Try.bytes3 (by omega) f2 (fun n hn => hw n (by simp [hn]))
  obtain ⟨a3, c3, x3, e3, r3, _⟩ := rds_of Try.underlying22 Try.underlying3 Try.cells3 Try.bytes3 (by omega) f3 (fun n hn => hw n (by simp [hn]))
  simp only [List.cons.injEq, and_true] at e0 e4
  subst e0 e1 e2 e3 e4
  exact ⟨cr, ro, a1, a2, a3, c1, c2, c3, x1, x2, x3, rfl, r1, r2, r3⟩

/-- An operation, as eleven cells. -/
theorem op_open {fuel : Nat} {cs : List Value} {y : DataW H × List MemPlace} (hf : DataW.trod enc Try.prog W 0 (fun _ => true) true fuel 35 cs = some y) (hw : ∀ n ∈ y.1.weights Try.prog 35, n ≤ reachBytes) :
    ∃ (k at_ long : Int) (nm to : ByteArray) (a : Option Addr) (c : Nat) (l : List UInt8) (cr ro : Int) (a1 a2 a3 : Option Addr) (c1 c2 c3 : Nat) (x1 x2 x3 : List Value),
      cs = [.int .i64 k, .string nm, .string to, .int .i64 at_, .int .i64 long, .slice a l.length c, .int .i64 cr, .slice a1 x1.length c1, .slice a2 x2.length c2, .slice a3 x3.length c3, .int .i64 ro] ∧
      RdS W a c (l.map byteV) 1 ∧ RdS W a1 c1 x1 8 ∧ RdS W a2 c2 x2 8 ∧ RdS W a3 c3 x3 8 := by
  obtain ⟨xs, n, _, rfl, hl, hlen, hfs⟩ := DataW.trod_struct Try.underlying35 hf
  rw [Try.cells35] at hl
  obtain ⟨v0, v1, v2, v3, v4, v5, v6, v7, v8, v9, v10, rfl⟩ := list11 hl
  obtain ⟨y0, y1, y2, y3, y4, y5, y6, rfl⟩ := list7 hlen
  have f0 := hfs 0
  have f1 := hfs 1
  have f2 := hfs 2
  have f3 := hfs 3
  have f4 := hfs 4
  have f5 := hfs 5
  have f6 := hfs 6
  simp only [List.getElem?_toArray, Option.some.injEq, forall_eq', Try.cells3, Try.cells9, Try.cells33, Try.cells24, List.drop_zero, List.drop_succ_cons, List.take_succ_cons, List.take_zero, List.getElem?_cons_zero, List.getElem?_cons_succ] at f0 f1 f2 f3 f4 f5 f6
  simp only [DataW.weights, Try.underlying35, List.map_cons, List.map_nil, DataW.weightsEach, List.mem_append] at hw
  obtain ⟨k, e0, _, _⟩ := DataW.trod_int Try.underlying3 f0
  obtain ⟨nm, e1, _, _⟩ := DataW.trod_string Try.underlying9 f1
  obtain ⟨to, e2, _, _⟩ := DataW.trod_string Try.underlying9 f2
  obtain ⟨at_, e3, _, _⟩ := DataW.trod_int Try.underlying3 f3
  obtain ⟨long, e4, _, _⟩ := DataW.trod_int Try.underlying3 f4
  obtain ⟨a, c, xb, e5, r5, hb⟩ := rds_of Try.underlying33 Try.underlying5 Try.cells5 Try.bytes5 (by omega) f5 (fun n hn => hw n (by simp [hn]))
  obtain ⟨l, rfl⟩ := bytes_of hb
  obtain ⟨cr, ro, a1, a2, a3, c1, c2, c3, x1, x2, x3, e6, r1, r2, r3⟩ := plan_open f6 (fun n hn => hw n (by simp [hn]))
  simp only [List.cons.injEq, and_true] at e0 e1 e2 e3 e4 e6
  obtain ⟨g0, g1, g2, g3, g4⟩ := e6
  subst e0 e1 e2 e3 e4 e5 g0 g1 g2 g3 g4
  exact ⟨k, at_, long, nm, to, a, c, l, cr, ro, a1, a2, a3, c1, c2, c3, x1, x2, x3, by simp, r5, r1, r2, r3⟩

end
end Go.Proofs.Ytcceaokldphfgaa
