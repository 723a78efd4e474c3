/- YtcceaokldphfgaaDiskAllC47 -/
import Derived.Test.YtcceaokldphfgaaDiskAllC44
import Derived.Test.YtcceaokldphfgaaDiskAllC42
namespace Go.Proofs.Ytcceaokldphfgaa
open Go.RowKit Go.Shelf

/-- Files that are told. -/
def FilesAt (w : World) (B : Nat) (v : Value) (l : List (ByteArray × List UInt8)) : Prop := ∃ cs, w.ownsRow B 69 2 v l.length cs ∧ Told B w cs l

theorem FilesAt.to {w w' : World} {B : Nat} {v : Value} {l : List (ByteArray × List UInt8)} (h : FilesAt w B v l) (hs : ∀ k, B ≤ k → k < w.heap.size → w'.heap[k]? = w.heap[k]?) : FilesAt w' B v l := by
  obtain ⟨cs, h1, h2⟩ := h
  refine ⟨cs, ?_, h2.same fun k cur hk hc => hs k hk (Array.getElem?_eq_some_iff.1 hc).1⟩
  obtain ⟨hl, h0 | ⟨g, cap, cur, rfl, hb, hg, hr⟩⟩ := h1
  · exact ⟨hl, .inl h0⟩
  · exact ⟨hl, .inr ⟨g, cap, cur, rfl, hb, (hs g hb (Array.getElem?_eq_some_iff.1 hg).1).trans hg, hr⟩⟩

theorem FilesAt.later {w w' : World} {B : Nat} {v : Value} {l : List (ByteArray × List UInt8)} (h : FilesAt w B v l) (hb : Below w.heap.size w w') : FilesAt w' B v l := h.to fun k _ hk => hb.block k hk

theorem FilesAt.shape {w : World} {B : Nat} {v : Value} {l : List (ByteArray × List UInt8)} (h : FilesAt w B v l) : ∃ a c, v = .slice a l.length c ∧ l.length ≤ 9223372036854775807 := by
  obtain ⟨cs, h1, _⟩ := h
  rcases h1.2 with ⟨rfl, h0⟩ | ⟨g, cap, cur, rfl, hb, hg, hn, hm, _⟩
  · exact ⟨none, 0, by rw [h0], by omega⟩
  · exact ⟨_, _, rfl, by unfold maxLen at hm; omega⟩

theorem FilesAt.at_ {w : World} {B : Nat} {a : Option Addr} {c : Nat} {l : List (ByteArray × List UInt8)} (h : FilesAt w B (.slice a l.length c) l) {j : Nat} (hj : j < l.length) :
    ∃ g q m k, a = some ⟨g, 0, none⟩ ∧ w.cell? ⟨g, j * 2, none⟩ = some (.string l[j].1) ∧ w.cell? ⟨g, j * 2 + 1, none⟩ = some (.slice q m k) ∧ m = l[j].2.length ∧ ∀ w', Below w.heap.size w w' → (convert 33 9 (.slice q m k)).run Try.prog w' = .ok (.string ⟨l[j].2.toArray⟩) w' := by
  obtain ⟨cs, h1, h2⟩ := h
  obtain ⟨bv, e1, e2, e3⟩ := h2 j l[j] (by simp [hj])
  rcases h1.2 with ⟨e0, h0⟩ | ⟨g, cap, cur, e0, hb, hg, hn, hm, hz, ht⟩
  · omega
  · simp only [Value.slice.injEq] at e0
    obtain ⟨q, k, rfl⟩ := own_shape e3
    have hcell : ∀ (i : Nat) (u : Value), cs[i]? = some u → w.cell? ⟨g, i, none⟩ = some u := fun i u hu => by
      refine blk_cell hg ?_
      rw [← ht, List.getElem?_take] at hu
      split at hu
      · simpa using hu
      · cases hu
    refine ⟨g, q, _, k, e0.1, hcell _ _ (by rw [Nat.mul_comm]; exact e1), hcell _ _ (by rw [Nat.mul_comm]; exact e2), rfl, fun w' hb' => conv_out (own_below e3 hb')⟩

set_option maxHeartbeats 1000000 in
set_option maxRecDepth 100000 in
theorem same_true {w : World} {B B' : Nat} {v u : Value} {l : List (ByteArray × List UInt8)} (h : FilesAt w B v l) (h' : FilesAt w B' u l) :
    Calls Try.prog 28 #[v, u] w fun r w' => r = .returned (.bool true) ∧ Below w.heap.size w w' := by
  obtain ⟨a, c, rfl, hm⟩ := h.shape
  obtain ⟨b, d, rfl, _⟩ := h'.shape
  have H := hideP h
  have H' := hideP h'
  have hnn : ((l.length : Int) != (l.length : Int)) = false := by simp
  clear h h'
  go_enter Try.func28, Try.ntmps28
  go_wp2
  go_loopw [5, 13] (fun _ i wr => ∃ j : Nat, j ≤ l.length ∧ i = .int .i64 j ∧ Hid (Below w.heap.size w wr)) (fun _ i _ => l.length - (intOf i).toNat)
  case atStart => exact ⟨0, Nat.zero_le _, rfl, Below.refl _ _⟩
  case round =>
    obtain ⟨j, hj, rfl, hb⟩ := hrel
    by_cases hjl : j < l.length
    · obtain ⟨g, q, m, k, rfl, m1, m2, hm1, m3⟩ := (H.out.later hb.out).at_ hjl
      obtain ⟨g', q', m', k', rfl, n1, n2, hm2, n3⟩ := (H'.out.later hb.out).at_ hjl
      have c1 := m3 wr.drew (Below.refl _ _).drew
      have c2 := n3 wr.drew (Below.refl _ _).drew
      have hse1 : (l[j].1.toList == l[j].1.toList) = true := by simp
      have hse2 : ((⟨l[j].2.toArray⟩ : ByteArray).toList == (⟨l[j].2.toArray⟩ : ByteArray).toList) = true := by simp
      have HBD : Hid (Below w.heap.size w wr.drew) := hb.out.drew
      clear m3 n3 hm1 hm2 hb
      go_wp2
      go_region
      go_wp2
      go_roundw
      case rel => exact ⟨j + 1, by omega, by go_num, HBD⟩
      case measure => simp [intOf]; omega
    · have hjl' : j = l.length := by omega
      subst hjl'
      go_wp2
      go_ret
      exact ⟨rfl, hb.out⟩

end Go.Proofs.Ytcceaokldphfgaa
