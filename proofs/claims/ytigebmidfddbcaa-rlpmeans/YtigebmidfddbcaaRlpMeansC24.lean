/-
  The chapter's first examples: law's awake.
-/
import Derived.Lib.SlBytesConst
import Derived.Test.YtigebmidfddbcaaRlpMeansC23
namespace Go.Proofs.Ytigebmidfddbcaa
open Go.RowKit Go.Shelf

theorem blk_cellF {w : World} {p t o : Nat} {fr : Nat × Nat} {cs : Array Value} {v : Value} (h : w.heap[p]? = some (.cells cs t fr)) (hv : cs[o]? = some v) : w.cell? ⟨p, o, none⟩ = some v := by
  simp [World.cell?, h, hv]

/-- A row of bytes as it was laid. -/
theorem BS.lit {w : World} {g : Nat} {fr : Nat × Nat} (l : List Nat) (hl : ∀ x ∈ l, x < 256) (h : w.heap[g]? = some (.cells (l.map (fun (x : Nat) => Value.int .u8 (x : Int))).toArray 5 fr)) (hm : l.length ≤ maxLen) : BS w (some ⟨g, 0, none⟩) l.length l.length (lb l) := by
  refine ⟨fun j => ?_, Nat.le_refl _, hm, fun j hj => ⟨_, rfl, ?_⟩, fun h => by cases h⟩
  · unfold lb
    rw [List.getD_eq_getElem?_getD]
    cases e : l[j]? with
    | none => simp
    | some x => exact hl x (List.mem_of_getElem? e)
  · rw [show (⟨g, 0, none⟩ : Addr).add j = ⟨g, j, none⟩ by unfold Addr.add; split <;> simp_all]
    refine blk_cellF h ?_
    rw [List.getElem?_toArray, List.getElem?_map, List.getElem?_eq_getElem hj]
    unfold lb
    rw [List.getD_eq_getElem?_getD, List.getElem?_eq_getElem hj]
    rfl

theorem pay_lb (l : List Nat) : pay (lb l) l.length = l := by
  apply List.ext_getElem?
  intro j
  unfold pay lb
  by_cases h : j < l.length
  · simp [h]
  · simp [h]

theorem BS.cbs {w : World} {G n : Nat} {bs : Nat → Nat} (hl : ∀ j, bs j < 256) (hn : n ≤ maxLen) (h : w.heap[G]? = some (.cells (cbs n bs) 5 (0, 0))) : BS w (some ⟨G, 0, none⟩) n n bs := by
  refine ⟨hl, Nat.le_refl _, hn, fun j hj => ⟨_, rfl, ?_⟩, fun h => by cases h⟩
  rw [show (⟨G, 0, none⟩ : Addr).add j = ⟨G, j, none⟩ by unfold Addr.add; split <;> simp_all]
  exact blk_cell h (cbs_get n bs hj)

theorem cells6 {w : World} {b t : Nat} {u0 u1 u2 u3 u4 u5 : Value} (h : w.heap[b]? = some (.cells #[u0, u1, u2, u3, u4, u5] t (0, 0))) :
    w.cell? ⟨b, 0, none⟩ = some u0 ∧ w.cell? ⟨b, 1, none⟩ = some u1 ∧ w.cell? ⟨b, 2, none⟩ = some u2 ∧ w.cell? ⟨b, 3, none⟩ = some u3 ∧ w.cell? ⟨b, 4, none⟩ = some u4 ∧ w.cell? ⟨b, 5, none⟩ = some u5 :=
  ⟨blk_cell h rfl, blk_cell h rfl, blk_cell h rfl, blk_cell h rfl, blk_cell h rfl, blk_cell h rfl⟩

def catT : Tree := .node 0 [99, 97, 116] []

def dogT : Tree := .node 0 [100, 111, 103] []

def bothT : Tree := .node 1 [] [catT, dogT]

theorem both_meas : bothT.meas 0 = (9, 0) := by kernel_rfl

theorem both_enc : bothT.enc = [200, 131, 99, 97, 116, 131, 100, 111, 103] := by kernel_rfl

theorem both_dec : dec (lb [200, 131, 99, 97, 116, 131, 100, 111, 103]) 9 = (bothT, 0) := by kernel_rfl

theorem five_dec : (dec (lb [129, 5]) 2).2 = 42 := by kernel_rfl

theorem both_str : strB (lb [200, 131, 99, 97, 116, 131, 100, 111, 103]) 9 = ⟨#[200, 131, 99, 97, 116, 131, 100, 111, 103]⟩ := by kernel_rfl

theorem dog_str : strB (lb [100, 111, 103]) 3 = ⟨#[100, 111, 103]⟩ := by kernel_rfl

theorem text_tree {l : List Nat} {w : World} {ao : Option Addr} {c : Nat} (hn : l.length ≤ 140737488355328) (h : BS w ao l.length c (lb l)) :
    Calls Try.prog 40 #[.slice ao l.length c] w fun e w' => (∃ so sc, e = .returned (.agg #[.int .i64 0, .slice so l.length sc, .slice none 0 0]) ∧ IsItem (cut w.heap.size w') (.node 0 l []) (.agg #[.int .i64 0, .slice so l.length sc, .slice none 0 0])) ∧ Below w.heap.size w w' := by
  refine (text_any hn w h).mono ?_
  rintro e w' ⟨⟨s, rfl, hO⟩, hb⟩
  obtain ⟨so, sc, rfl, _, _⟩ := hO.ex
  have := hO.item
  rw [pay_lb] at this
  exact ⟨⟨so, sc, rfl, this⟩, hb⟩

set_option maxHeartbeats 4000000 in
set_option maxRecDepth 100000 in
theorem awake_any (w : World) : Calls Try.prog 19 #[] w fun e w' => e = .returned (.bool true) ∧ Below w.heap.size w w' := by
  have kc := fun (w : World) (C : Array Value) (n c : Nat) => Lib.run_convert_bytes_const (P := Try.prog) w 23 5 C n c (by kernel_rfl) (by kernel_rfl)
  go_enter Try.func19, Try.ntmps19
  go_wp2_with fail
  have hB1 : BS (w.alloc (.cells #[.int .u8 99, .int .u8 97, .int .u8 116] 5 (3, 4))) (some ⟨w.heap.size, 0, none⟩) 3 3 (lb [99, 97, 116]) := BS.lit [99, 97, 116] (by decide) (heap_new _ _) (by decide)
  have hb1 : Below w.heap.size w (w.alloc (.cells #[.int .u8 99, .int .u8 97, .int .u8 116] 5 (3, 4))) := (Below.refl _ w).alloc (Nat.le_refl _) _
  refine (text_tree (l := [99, 97, 116]) (by decide) hB1).mono ?_
  rintro e W1 ⟨⟨so1, sc1, rfl, hi1⟩, hb2⟩
  have hbA : Below w.heap.size w W1 := hb1.trans (hb2.mono hb1.size)
  have hi1 := hi1.uncut
  have hB2 : BS (W1.alloc (.cells #[.int .u8 100, .int .u8 111, .int .u8 103] 5 (3, 4))) (some ⟨W1.heap.size, 0, none⟩) 3 3 (lb [100, 111, 103]) := BS.lit [100, 111, 103] (by decide) (heap_new _ _) (by decide)
  have hb3 : Below W1.heap.size W1 (W1.alloc (.cells #[.int .u8 100, .int .u8 111, .int .u8 103] 5 (3, 4))) := (Below.refl _ W1).alloc (Nat.le_refl _) _
  have H1 := hideP (And.intro hbA (And.intro hi1 (And.intro hB2 hb3)))
  clear hB1 hb1 hb2 hbA hi1 hB2 hb3
  simp only [List.length_cons, List.length_nil, Nat.reduceAdd]
  go_wp2_with fail
  obtain ⟨hbA, hi1, hB2, hb3⟩ := H1.out
  refine (text_tree (l := [100, 111, 103]) (by decide) hB2).mono ?_
  rintro e W2 ⟨⟨so2, sc2, rfl, hi2⟩, hb4⟩
  have hbB : Below W1.heap.size W1 W2 := hb3.trans (hb4.mono hb3.size)
  have hi1 := hi1.moved hbB
  have hi2 := hi2.uncut
  have hbA := hbA.trans (hbB.mono hbA.size)
  have H2 := hideP (And.intro hbA (And.intro hi1 hi2))
  clear hbA hi1 hi2 hbB hb4 hb3 hB2 H1
  simp only [List.length_cons, List.length_nil, Nat.reduceAdd]
  go_wp2_with fail
  obtain ⟨hbA, hi1, hi2⟩ := H2.out
  have hb5 : Below W2.heap.size W2 (W2.alloc (.cells #[.int .i64 0, .slice so1 3 sc1, .slice none 0 0, .int .i64 0, .slice so2 3 sc2, .slice none 0 0] 26)) := (Below.refl _ W2).alloc (Nat.le_refl _) _
  obtain ⟨x0, x1, x2, x3, x4, x5⟩ := cells6 (heap_new W2 (.cells #[.int .i64 0, .slice so1 3 sc1, .slice none 0 0, .int .i64 0, .slice so2 3 sc2, .slice none 0 0] 26))
  have hK : IsKids (W2.alloc (.cells #[.int .i64 0, .slice so1 3 sc1, .slice none 0 0, .int .i64 0, .slice so2 3 sc2, .slice none 0 0] 26)) [catT, dogT] (some ⟨W2.heap.size, 0, none⟩) 0 := by
    unfold IsKids
    refine ⟨⟨_, _, _, _, rfl, x0, x1, x2, hi1.moved hb5⟩, ?_⟩
    unfold IsKids
    refine ⟨⟨_, _, _, _, rfl, x3, x4, x5, hi2.moved hb5⟩, ?_⟩
    unfold IsKids
    trivial
  have hfit : Tree.fitsK [catT, dogT] := Tree.fitsK_of (by
    intro t ht
    simp only [List.mem_cons, List.not_mem_nil, or_false] at ht
    rcases ht with rfl | rfl <;> exact ⟨by decide, by decide, by unfold Tree.fitsK; trivial⟩)
  have hL := rlpList_any (ts := [catT, dogT]) (ao := some ⟨W2.heap.size, 0, none⟩) (c := 2) (W2.alloc (.cells #[.int .i64 0, .slice so1 3 sc1, .slice none 0 0, .int .i64 0, .slice so2 3 sc2, .slice none 0 0] 26)) ⟨by decide, by decide, Or.inr ⟨_, rfl⟩⟩ hK (by decide) hfit
  simp only [List.length_cons, List.length_nil, Nat.reduceAdd] at hL
  refine hL.mono ?_
  rintro e W3 ⟨⟨v, rfl, hi3⟩, hb6⟩
  have hi3 : IsItem W3 bothT v := hi3.uncut
  have hbA := (hbA.trans (hb5.mono hbA.size)).trans (hb6.mono (Nat.le_trans hbA.size hb5.size))
  have hE := encode_any W3 hi3 (by decide) (by decide)
  rw [both_meas] at hE
  have H3 := hideP hbA
  have HE := hideP hE
  clear hbA hi1 hi2 hb5 x0 x1 x2 x3 x4 x5 hK hfit hL hb6 hE H2 hi3
  go_wp2_with fail
  refine HE.out.mono ?_
  rintro e W4 ⟨⟨r, rfl, hr⟩, hb7⟩
  unfold EncOut at hr
  rw [both_meas, both_enc] at hr
  rcases hr with ⟨h, _⟩ | ⟨_, G, rfl, hG, hg⟩
  · exact absurd rfl h
  have hBe : BS W4 (some ⟨G, 0, none⟩) 9 9 (lb [200, 131, 99, 97, 116, 131, 100, 111, 103]) := BS.cbs (by
    intro j
    unfold lb
    rw [List.getD_eq_getElem?_getD]
    cases e : [200, 131, 99, 97, 116, 131, 100, 111, 103][j]? with
    | none => simp
    | some x =>
      have hx := List.mem_of_getElem? e
      revert hx
      simp only [List.mem_cons, List.not_mem_nil, or_false, Option.getD_some]
      omega) (by decide) hg
  have hbA := H3.out.trans (hb7.mono H3.out.size)
  have hB5 : BS (W4.alloc (.cells #[.int .u8 200, .int .u8 131, .int .u8 99, .int .u8 97, .int .u8 116, .int .u8 131, .int .u8 100, .int .u8 111, .int .u8 103] 5)) (some ⟨W4.heap.size, 0, none⟩) 9 9 (lb [200, 131, 99, 97, 116, 131, 100, 111, 103]) := BS.lit [200, 131, 99, 97, 116, 131, 100, 111, 103] (by decide) (heap_new _ _) (by decide)
  have hb8 : Below W4.heap.size W4 (W4.alloc (.cells #[.int .u8 200, .int .u8 131, .int .u8 99, .int .u8 97, .int .u8 116, .int .u8 131, .int .u8 100, .int .u8 111, .int .u8 103] 5)) := (Below.refl _ W4).alloc (Nat.le_refl _) _
  have hD := decode_any _ hB5 (by omega)
  rw [both_dec] at hD
  have HD := hideP hD
  have H4 := hideP (And.intro hbA (And.intro hBe hb8))
  clear hbA hBe hb8 hD hB5 hg hG hb7 H3 HE
  simp only [List.length_cons, List.length_nil, Nat.reduceAdd]
  go_wp2_with fail
  refine HD.out.mono ?_
  rintro e W5 ⟨⟨v5, rfl, hi5⟩, hb9⟩
  obtain ⟨hbA, hBe, hb8⟩ := H4.out
  have hi5 := hi5.uncut
  obtain ⟨xa, xc, ka, kc, rfl, _, _, hk5⟩ := hi5.form
  simp only [List.length_cons, List.length_nil, Nat.reduceAdd] at hb9 ⊢
  have hbB := hb8.trans (hb9.mono hb8.size)
  have hBe := hBe.moved hbB
  have hbA := hbA.trans (hbB.mono hbA.size)
  obtain ⟨g5, v0, v1, v2, rfl, c0, c1, c2, hi6⟩ := hk5.get (j := 1) (t := dogT) rfl
  have hi6' := hi6
  obtain ⟨da, dc, _, _, ed, hBd, _, _⟩ := hi6'.form
  simp only [Value.agg.injEq, Array.mk.injEq, List.cons.injEq, and_true] at ed
  obtain ⟨rfl, rfl, rfl⟩ := ed
  have hb10 : Below W5.heap.size W5 (W5.alloc (.cells #[.int .i64 1, .slice xa 0 xc, .slice (some ⟨g5, 0, none⟩) 2 kc] 26)) := (Below.refl _ W5).alloc (Nat.le_refl _) _
  have hb11 : Below W5.heap.size W5 ((W5.alloc (.cells #[.int .i64 1, .slice xa 0 xc, .slice (some ⟨g5, 0, none⟩) 2 kc] 26)).alloc (.cells #[.int .u8 129, .int .u8 5] 5)) := hb10.alloc (by simp) _
  have hx6 : ((W5.alloc (.cells #[.int .i64 1, .slice xa 0 xc, .slice (some ⟨g5, 0, none⟩) 2 kc] 26)).alloc (.cells #[.int .u8 129, .int .u8 5] 5)).heap[W5.heap.size]? = some (.cells #[.int .i64 1, .slice xa 0 xc, .slice (some ⟨g5, 0, none⟩) 2 kc] 26 (0, 0)) := (heap_old _ _ (by simp)).trans (heap_new _ _)
  have hB7 : BS ((W5.alloc (.cells #[.int .i64 1, .slice xa 0 xc, .slice (some ⟨g5, 0, none⟩) 2 kc] 26)).alloc (.cells #[.int .u8 129, .int .u8 5] 5)) (some ⟨W5.heap.size + 1, 0, none⟩) 2 2 (lb [129, 5]) := BS.lit (fr := (0, 0)) [129, 5] (by decide) (by
    have := heap_new (W5.alloc (.cells #[.int .i64 1, .slice xa 0 xc, .slice (some ⟨g5, 0, none⟩) 2 kc] 26)) (.cells #[.int .u8 129, .int .u8 5] 5)
    rwa [World.size_alloc] at this) (by decide)
  have hD := decode_any _ hB7 (by omega)
  rw [five_dec] at hD
  have HD2 := hideP hD
  have H5 := hideP (And.intro hbA (And.intro hBe (And.intro hb11 (And.intro hx6 (And.intro c0 (And.intro c1 (And.intro c2 hBd)))))))
  clear hbA hBe hb10 hb11 hx6 hB7 hD hBd hi6 hi6' c0 c1 c2 hk5 hi5 hb8 hb9 hbB H4 HD
  go_wp2_with fail
  refine HD2.out.mono ?_
  rintro e W8 ⟨⟨v8, rfl, hi8⟩, hb12⟩
  obtain ⟨hbA, hBe, hb11, hx6, c0, c1, c2, hBd⟩ := H5.out
  generalize (dec (lb [129, 5]) 2).1 = t8 at hi8
  cases t8 with
  | node l8 b8 k8 =>
  obtain ⟨ya, yc, yka, ykc, rfl, _, _, _⟩ := hi8.form
  generalize b8.length = n8
  generalize k8.length = m8
  have hx8 := (hb12.block _ (lt_of_block hx6)).trans hx6
  have hb13 := hb11.trans (hb12.mono hb11.size)
  have hb14 := hb13.alloc hb13.size (.cells #[.int .i64 l8, .slice ya n8 yc, .slice yka m8 ykc] 26)
  have hx9 := (heap_old W8 (.cells #[.int .i64 l8, .slice ya n8 yc, .slice yka m8 ykc] 26) (lt_of_block hx8)).trans hx8
  have hs1 := conv_BS (hBe.moved hb14)
  have hs2 := conv_BS (hBd.moved hb14)
  simp only [List.length_cons, List.length_nil, Nat.reduceAdd] at hs1 hs2
  rw [both_str] at hs1
  rw [dog_str] at hs2
  have hg5 := World.block_lt_of_cell? _ _ c1
  have c1' := (hb14.cell (p := ⟨g5, 4, none⟩) hg5).trans c1
  obtain ⟨z0, z1, z2⟩ := cells3 hx9
  have HEND := hideP (hbA.trans (hb14.mono hbA.size))
  clear hbA hBe hb11 hx6 c0 c1 c2 hBd hx8 hb13 hb14 hx9 hg5 hi8 hb12 H5 HD2
  simp only [List.length_cons, List.length_nil, Nat.reduceAdd] at c1' hs2 ⊢
  go_wp2_with fail
  go_ret
  exact ⟨rfl, HEND.out⟩

end Go.Proofs.Ytigebmidfddbcaa
