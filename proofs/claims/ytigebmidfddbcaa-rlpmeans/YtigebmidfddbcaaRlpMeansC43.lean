/-
  Numbers and words come back from their items: the walk of RlpNumbers.
-/
import Derived.Test.YtigebmidfddbcaaRlpMeansC42
import Derived.Test.YtigebmidfddbcaaRlpMeansC27
import Derived.Test.YtigebmidfddbcaaRlpMeansC30
namespace Go.Proofs.Ytigebmidfddbcaa
open Go.RowKit Go.Shelf

/-- An answer that tells whether something holds. -/
def EqOut (p : Prop) (e : Ending) : Prop := ∃ r : Bool, e = .returned (.bool r) ∧ (r = true ↔ p)

set_option maxHeartbeats 1000000 in
set_option maxRecDepth 100000 in
theorem bytesEqual_any {a1 a2 : Option Addr} {c1 c2 : Nat} {b1 b2 : List Nat} (w : World) (h1 : BS w a1 b1.length c1 (lb b1)) (h2 : BS w a2 b2.length c2 (lb b2)) :
    Calls Try.prog 68 #[.slice a1 b1.length c1, .slice a2 b2.length c2] w fun e w' => EqOut (b1 = b2) e ∧ w = w' := by
  have hs1 := conv_BS h1
  have hs2 := conv_BS h2
  have hseq := strB_eq h1.lt h2.lt
  clear h1 h2
  generalize strB (lb b1) b1.length = s1 at *
  generalize strB (lb b2) b2.length = s2 at *
  generalize b1.length = n1 at *
  generalize b2.length = n2 at *
  have HS := hideP hseq
  clear hseq
  by_cases h : s1 = s2
  · subst h
    go_enter Try.func68, Try.ntmps68
    go_wp2_with fail
    go_ret
    exact ⟨⟨true, rfl, by simpa using HS.out.1 (by first | rfl | trivial)⟩, rfl⟩
  · have h' := toList_ne h
    go_enter Try.func68, Try.ntmps68
    go_wp2_with fail
    go_ret
    exact ⟨⟨false, rfl, by simp; exact fun e => h (HS.out.2 e)⟩, rfl⟩

set_option maxHeartbeats 8000000 in
set_option maxRecDepth 100000 in
theorem equalFunc_any {k1 k2 : List Tree} {ka ja : Option Addr} {kc jc : Nat} (w : World) (hK1 : KS w ka k1.length kc) (hK2 : KS w ja k2.length jc) (hKids1 : IsKids w k1 ka 0) (hKids2 : IsKids w k2 ja 0)
    (hIH : ∀ (t1 t2 : Tree) (v1 v2 : Value) (W : World), t1 ∈ k1 → IsItem W t1 v1 → IsItem W t2 v2 → Calls Try.prog 44 #[v1, v2] W fun e w' => (∃ r : Bool, e = .returned (.bool r) ∧ (r = true ↔ t1 = t2)) ∧ Below W.heap.size W w') :
    Calls Try.prog 69 #[.slice ka k1.length kc, .slice ja k2.length jc, .func (.func 44) #[] #[]] w fun e w' => (∃ r : Bool, e = .returned (.bool r) ∧ (r = true ↔ k1 = k2)) ∧ Below w.heap.size w w' := by
  have HALL := hideP (And.intro hK1 (And.intro hK2 (And.intro hKids1 (And.intro hKids2 hIH))))
  clear hK1 hK2 hKids1 hKids2 hIH
  generalize hnk1 : k1.length = nk1 at *
  generalize hnk2 : k2.length = nk2 at *
  have HNK := hideP (And.intro hnk1 hnk2)
  clear hnk1 hnk2
  by_cases h3 : nk1 = nk2
  · subst h3
    have hn63 : nk1 ≤ 9223372036854775807 := by
      have e1 := HALL.out.1.le
      have e2 := HALL.out.1.room
      have e3 : maxLen = 9223372036854775807 := by decide
      omega
    go_enter Try.func69, Try.ntmps69
    go_wp2_with fail
    go_loopw [17] (fun i wr => ∃ q : Nat, i = .int .i64 (q : Int) ∧ q ≤ nk1 ∧ k1.take q = k2.take q ∧ Hid (Below w.heap.size w wr)) (fun i _ => nk1 - (intOf i).toNat)
    case atStart => exact ⟨0, rfl, Nat.zero_le _, by simp, hideP (Below.refl _ _)⟩
    case round =>
      obtain ⟨q, rfl, hqn, htk, hbr⟩ := hrel
      by_cases hlt : q < nk1
      · obtain ⟨hK1, hK2, hKids1, hKids2, hIH⟩ := HALL.out
        have hl1 : q < k1.length := by rw [HNK.out.1]; exact hlt
        have hl2 : q < k2.length := by rw [HNK.out.2]; exact hlt
        obtain ⟨g, v0, v1, v2, rfl, d0, d1, d2, hit⟩ := hKids1.get (List.getElem?_eq_getElem hl1)
        obtain ⟨g', u0, u1, u2, rfl, d0', d1', d2', hit'⟩ := hKids2.get (List.getElem?_eq_getElem hl2)
        rw [Nat.zero_add] at d0 d1 d2 d0' d1' d2'
        have hcall := fun (W : World) (hb : Below w.heap.size w W) => hIH k1[q] k2[q] (.agg #[v0, v1, v2]) (.agg #[u0, u1, u2]) W (List.getElem_mem hl1) (hit.moved hb) (hit'.moved hb)
        have ht1 : k1.take (q + 1) = k1.take q ++ [k1[q]] := by rw [List.take_add_one, List.getElem?_eq_getElem hl1]; rfl
        have ht2 : k2.take (q + 1) = k2.take q ++ [k2[q]] := by rw [List.take_add_one, List.getElem?_eq_getElem hl2]; rfl
        have hnext : k1[q] = k2[q] → k1.take (q + 1) = k2.take (q + 1) := fun e => by rw [ht1, ht2, htk, e]
        have hbad : ¬ k1[q] = k2[q] → ¬ k1 = k2 := fun e h => by
          cases h
          exact e rfl
        generalize k1[q] = tq at *
        generalize k2[q] = uq at *
        cases tq with
        | node tl tb tk =>
        cases uq with
        | node ul ub uk =>
        obtain ⟨ta, tc, ta', tc', hv, _, _, _⟩ := hit.form
        obtain ⟨ua, uc, ua', uc', hv', _, _, _⟩ := hit'.form
        simp only [Value.agg.injEq, Array.mk.injEq, List.cons.injEq, and_true] at hv hv'
        obtain ⟨rfl, rfl, rfl⟩ := hv
        obtain ⟨rfl, rfl, rfl⟩ := hv'
        have hgw := World.block_lt_of_cell? _ _ d0
        have hgw' := World.block_lt_of_cell? _ _ d0'
        have hbw := hbr.out
        have d0 := (hbw.cell (p := ⟨g, q * 3, none⟩) hgw).trans d0
        have d1 := (hbw.cell (p := ⟨g, q * 3 + 1, none⟩) hgw).trans d1
        have d2 := (hbw.cell (p := ⟨g, q * 3 + 2, none⟩) hgw).trans d2
        have d0' := (hbw.cell (p := ⟨g', q * 3, none⟩) hgw').trans d0'
        have d1' := (hbw.cell (p := ⟨g', q * 3 + 1, none⟩) hgw').trans d1'
        have d2' := (hbw.cell (p := ⟨g', q * 3 + 2, none⟩) hgw').trans d2'
        have hgr : g < wr.heap.size := Nat.lt_of_lt_of_le hgw hbw.size
        have hgr' : g' < wr.heap.size := Nat.lt_of_lt_of_le hgw' hbw.size
        have g1 : (q : Int) < (nk1 : Int) := by omega
        have g1' : (0 : Int) ≤ (q : Int) := by omega
        have e9 : IntKind.i64.wrap ((q : Int) + 1) = ((q + 1 : Nat) : Int) := by rw [IntKind.wrap_i64]; omega
        have HN := hideP (And.intro hnext (And.intro hbad hlt))
        generalize tb.length = tn at *
        generalize tk.length = tn' at *
        generalize ub.length = un at *
        generalize uk.length = un' at *
        have hb2 : Below wr.heap.size wr ((wr.alloc (.cells #[.int .i64 tl, .slice ta tn tc, .slice ta' tn' tc'] 26)).alloc (.cells #[.int .i64 ul, .slice ua un uc, .slice ua' un' uc'] 26)) := ((Below.refl _ wr).alloc (Nat.le_refl _) _).alloc (by simp) _
        have hb02 := hbw.trans (hb2.mono hbw.size)
        have HC := hideP (hcall _ hb02)
        have HB2 := hideP hb02
        clear hcall hnext hbad ht1 ht2 htk hit hit' hK1 hK2 hKids1 hKids2 hIH hl1 hl2 hgw hgw' hlt hqn hbw hb2 hb02
        go_wp2_with fail
        refine HC.out.mono ?_
        rintro e W4 ⟨⟨r, rfl, hr⟩, hb4⟩
        have H4 := hideP (HB2.out.trans (hb4.mono HB2.out.size))
        clear hb4 HC HB2 d0 d1 d2 d0' d1' d2'
        cases r with
        | true =>
          have HE := hideP (HN.out.1 (hr.1 rfl))
          clear hr
          go_wp2_with fail
          exact ⟨⟨q + 1, rfl, HN.out.2.2, HE.out, H4⟩, by have := HN.out.2.2; simp [intOf]; omega⟩
        | false =>
          have HE := hideP (HN.out.2.1 (fun e => by have := hr.2 e; cases this))
          clear hr
          go_wp2_with fail
          go_ret
          exact ⟨⟨false, rfl, by simp [HE.out]⟩, H4.out⟩
      · have hqe : q = nk1 := by omega
        have HR : Hid (k1 = k2) := hideP (by
          rw [List.take_of_length_le (by rw [HNK.out.1]; omega), List.take_of_length_le (by rw [HNK.out.2]; omega)] at htk
          exact htk)
        subst hqe
        clear htk hlt hqn
        go_wp2_with fail
        go_ret
        exact ⟨⟨true, rfl, by simp only [true_iff]; exact HR.out⟩, hbr.out⟩
  · have h3' : ¬ (nk1 : Int) = (nk2 : Int) := by omega
    have HR : Hid (¬ k1 = k2) := hideP (by
      rintro rfl
      have := HNK.out
      exact h3 (by rw [← this.1, this.2]))
    clear h3
    go_enter Try.func69, Try.ntmps69
    go_wp2_with fail
    go_ret
    exact ⟨⟨false, rfl, by simp [HR.out]⟩, Below.refl _ _⟩

set_option maxHeartbeats 8000000 in
set_option maxRecDepth 100000 in
theorem rlpSame_all : ∀ (N : Nat) (t1 t2 : Tree) (v1 v2 : Value) (w : World), t1.num ≤ N → IsItem w t1 v1 → IsItem w t2 v2 →
    Calls Try.prog 44 #[v1, v2] w fun e w' => (∃ r : Bool, e = .returned (.bool r) ∧ (r = true ↔ t1 = t2)) ∧ Below w.heap.size w w'
  | 0, t1, _, _, _, _, h, _, _ => absurd t1.num_pos (by omega)
  | N + 1, .node l1 b1 k1, .node l2 b2 k2, v1, v2, w, hN, hI1, hI2 => by
    obtain ⟨xa, xc, ka, kc, rfl, hB1, hK1, hKids1⟩ := hI1.form
    obtain ⟨ya, yc, ja, jc, rfl, hB2, hK2, hKids2⟩ := hI2.form
    unfold Tree.num at hN
    have hb1 : Below w.heap.size w ((w.alloc (.cells #[.int .i64 l1, .slice xa b1.length xc, .slice ka k1.length kc] 26)).alloc (.cells #[.int .i64 l2, .slice ya b2.length yc, .slice ja k2.length jc] 26)) := ((Below.refl _ w).alloc (Nat.le_refl _) _).alloc (by simp) _
    have hEq := bytesEqual_any _ (hB1.moved hb1) (hB2.moved hb1)
    have hEF := equalFunc_any _ ⟨hK1.le, hK1.room, hK1.at_⟩ ⟨hK2.le, hK2.room, hK2.at_⟩ (hKids1.moved hb1) (hKids2.moved hb1) (fun t1 t2 v1 v2 W h => rlpSame_all N t1 t2 v1 v2 W (by have := Tree.nums_mem h; omega))
    have HB := hideP hb1
    have HEQ := hideP hEq
    have HEF := hideP hEF
    clear hN hI1 hI2 hB1 hB2 hK1 hK2 hKids1 hKids2 hb1 hEq hEF
    generalize hnb1 : b1.length = nb1 at *
    generalize hnb2 : b2.length = nb2 at *
    generalize hnk1 : k1.length = nk1 at *
    generalize hnk2 : k2.length = nk2 at *
    clear hnb1 hnb2 hnk1 hnk2
    by_cases h1 : l1 = l2
    · subst h1
      go_enter Try.func44, Try.ntmps44
      go_wp2_with fail
      refine HEQ.out.mono ?_
      rintro e W ⟨⟨r, rfl, hr⟩, rfl⟩
      cases r with
      | true =>
        have hbb := hr.1 rfl
        subst hbb
        clear hr HEQ
        go_wp2_with fail
        refine HEF.out.mono ?_
        rintro e W4 ⟨⟨r, rfl, hr⟩, hb4⟩
        have H4 := hideP (HB.out.trans (hb4.mono HB.out.size))
        have HR := hideP hr
        clear hr hb4 HEF HB
        go_wp2_with fail
        go_ret
        refine ⟨⟨r, rfl, HR.out.trans ⟨fun h => by rw [h], fun h => by cases h; rfl⟩⟩, H4.out⟩
      | false =>
        have HR : Hid (¬ b1 = b2) := hideP (fun e => by have := hr.2 e; cases this)
        clear hr HEQ HEF
        go_wp2_with fail
        go_ret
        exact ⟨⟨false, rfl, by simp only [Bool.false_eq_true, false_iff]; exact fun h => by cases h; exact HR.out rfl⟩, HB.out⟩
    · have h1' : (l1 == l2) = false := beq_eq_false_iff_ne.2 h1
      clear HEQ HEF
      go_enter Try.func44, Try.ntmps44
      go_wp2_with fail
      go_ret
      exact ⟨⟨false, rfl, by simp only [Bool.false_eq_true, false_iff]; exact fun h => by cases h; exact h1 rfl⟩, HB.out⟩

end Go.Proofs.Ytigebmidfddbcaa

namespace Go.Proofs.Ytigebmidfddbcaa
open Go.RowKit Go.Shelf

theorem eq_same4 (a b c d : Int) (W : World) : (Op.equalIn 10000 59 (.agg #[.int .u64 a, .int .u64 b, .int .u64 c, .int .u64 d]) (.agg #[.int .u64 a, .int .u64 b, .int .u64 c, .int .u64 d])).run Try.prog W = .ok true W := by
  have h : ∀ x : Int, (Op.equalIn 9999 57 (.int .u64 x) (.int .u64 x)).run Try.prog W = .ok true W := fun x => by
    unfold Op.equalIn
    simp [go_sem]
  unfold Op.equalIn
  simp [go_sem, List.range', h]

end Go.Proofs.Ytigebmidfddbcaa
