/-
  The document's Text, Whole and Number.
-/
import Derived.Test.YtigebmidfddbcaaRlpMeansC40
import Derived.Test.YtigebmidfddbcaaRlpMeansC16
namespace Go.Proofs.Ytigebmidfddbcaa
open Go.RowKit Go.Shelf

set_option maxHeartbeats 1000000 in
set_option maxRecDepth 100000 in
theorem refText_any {ao : Option Addr} {n c : Nat} {bs : Nat → Nat} (hn : n ≤ 140737488355328) (w : World) (h : BS w ao n c bs) :
    Calls Try.prog 41 #[.slice ao n c] w fun e w' => (∃ s, e = .returned (.agg #[.int .i64 0, s, .slice none 0 0]) ∧ Own w.heap.size w' s n bs) ∧ Below w.heap.size w w' := by
  have hb1 : Below w.heap.size w (w.alloc (.cells #[.int .i64 0, .slice none 0 0, .slice none 0 0] 26 (0, 0))) := (Below.refl _ w).alloc (Nat.le_refl _) _
  have hb2 := hb1.alloc hb1.size (.cells #[] 5 (0, 0))
  have hbx := (heap_old _ (.cells #[] 5 (0, 0)) (by simp)).trans (heap_new w (.cells #[.int .i64 0, .slice none 0 0, .slice none 0 0] 26 (0, 0)))
  have HB := hideP (h.moved hb2)
  have H2 := hideP (And.intro hb2 hbx)
  have HN := hideP hn
  have HLT := hideP h.lt
  clear h hn hb1 hb2 hbx
  go_enter Try.func41, Try.ntmps41
  go_wp2_with (at_builtin; refine wpList_append_fresh rfl _ _ rfl (some ⟨w.heap.size + 1, 0, none⟩) ao n c rfl rfl HN.out bs HB.out ?_)
  intro ao' cap W3 h1 h2 h3
  have hsz : ((w.alloc (.cells #[.int .i64 0, .slice none 0 0, .slice none 0 0] 26 (0, 0))).alloc (.cells #[] 5 (0, 0))).heap.size = w.heap.size + 1 + 1 := by simp
  have hO : Own (w.heap.size + 1) W3 (.slice ao' n cap) n bs := by
    rcases h1 with ⟨rfl, rfl, rfl, rfl⟩ | ⟨h0, rfl⟩
    · exact ⟨_, 0, rfl, BS.empty _ _ _ HLT.out, Or.inr ⟨_, rfl, by omega, by simp⟩⟩
    · have hB := h2 h0
      obtain ⟨ad, e, hc⟩ := hB.cell 0 h0
      cases e
      exact ⟨_, cap, rfl, hB, Or.inr ⟨_, rfl, by omega, by have := World.block_lt_of_cell? W3 _ hc; simpa [Addr.add] using this⟩⟩
  have hbx' := (h3.block w.heap.size (by omega)).trans H2.out.2
  obtain ⟨y0, y1, y2⟩ := cells3 hbx'
  have yf : ∀ o, W3.frozen? ⟨w.heap.size, o, none⟩ = false := fun o => blk_free hbx'
  have HO := hideP hO
  have HL : Hid (Below w.heap.size w W3) := H2.out.1.trans (h3.mono (by omega))
  clear h1 h2 h3 hsz hO hbx' H2 HB
  go_wp2_with fail
  refine bodyPost_ret (v := .agg #[.int .i64 0, .slice ao' n cap, .slice none 0 0]) (by simp [results, Try.results41, go_sem, y0, y1, y2, World.cell?_setCell_same]) rfl ⟨⟨_, rfl, HO.out.same (fun b hb _ => ?_) (by simp) (by omega)⟩, ?_⟩
  · have hb' : b ≠ w.heap.size := by omega
    repeat first | rfl | (refine (Below.heap_setCell _ _ _ _ hb').trans ?_)
  · repeat first | exact HL.out | (refine Below.setCell ?_ (by simp <;> omega) _)

/-- A text of a word's least bytes. -/
def LText (N : Nat) (w : World) (X : Nat) (v : Value) : Prop := ∃ n, LB X n ∧ ∃ s, v = .agg #[.int .i64 0, s, .slice none 0 0] ∧ Own N w s n (lowB X n)

set_option maxHeartbeats 2000000 in
set_option maxRecDepth 100000 in
theorem refWhole_any (X : Nat) (w : World) : Calls Try.prog 39 #[wv X] w fun e w' => (∃ v, e = .returned v ∧ LText w.heap.size w' X v) ∧ Below w.heap.size w w' := by
  have HLS := hideP (fun W => refLeast_any X W)
  obtain ⟨x0, x1, x2, x3, hx⟩ := wv_form X
  simp only [hx] at HLS ⊢
  clear hx
  have hb1 : Below w.heap.size w (w.alloc (.cells #[.int .u64 x0, .int .u64 x1, .int .u64 x2, .int .u64 x3] 59)) := (Below.refl _ w).alloc (Nat.le_refl _) _
  have hb2 := hb1.alloc hb1.size (.cells #[.int .i64 0, .slice none 0 0, .slice none 0 0] 26)
  have hbx : ((w.alloc (.cells #[.int .u64 x0, .int .u64 x1, .int .u64 x2, .int .u64 x3] 59)).alloc (.cells #[.int .i64 0, .slice none 0 0, .slice none 0 0] 26)).heap[w.heap.size + 1]? = some (.cells #[.int .i64 0, .slice none 0 0, .slice none 0 0] 26 (0, 0)) := heap_new1 _ _ _
  have H2 := hideP (And.intro hb2 hbx)
  clear hb1 hb2 hbx
  go_enter Try.func39, Try.ntmps39
  go_wp2_with fail
  refine (HLS.out _).mono ?_
  rintro e W3 ⟨⟨v3, n, rfl, hlb, hO3⟩, hb3⟩
  obtain ⟨a3, c3, rfl, hB3, _⟩ := hO3.ex
  have hle := hlb.le
  have HT := hideP (refText_any (by omega) W3 hB3)
  have hbx3 := (hb3.block _ (lt_of_block H2.out.2)).trans H2.out.2
  have H3 := hideP (And.intro (H2.out.1.trans (hb3.mono H2.out.1.size)) hbx3)
  have HLB := hideP hlb
  clear hlb hO3 hB3 hle hbx3 hb3 H2 HLS
  go_wp2_with fail
  refine HT.out.mono ?_
  rintro e W4 ⟨⟨s, rfl, hO4⟩, hb4⟩
  have hbx4 := (hb4.block _ (lt_of_block H3.out.2)).trans H3.out.2
  have hlt3 := lt_of_block H3.out.2
  obtain ⟨y0, y1, y2⟩ := cells3 hbx4
  have yf : ∀ o, W4.frozen? ⟨w.heap.size + 1, o, none⟩ = false := fun o => blk_free hbx4
  obtain ⟨a4, c4, rfl, _, _⟩ := hO4.ex
  have HO := hideP (And.intro hO4 hlt3)
  have HL : Hid (Below w.heap.size w W4) := H3.out.1.trans (hb4.mono H3.out.1.size)
  clear hO4 hb4 hbx4 hlt3 H3 HT
  go_wp2_with fail
  refine bodyPost_ret (v := .agg #[.int .i64 0, .slice a4 n c4, .slice none 0 0]) (by simp [results, Try.results39, go_sem, y0, y1, y2, World.cell?_setCell_same]) rfl ⟨⟨_, rfl, n, HLB.out, _, rfl, HO.out.1.same (fun b hb _ => ?_) (by simp) (by have := HO.out.2; omega)⟩, ?_⟩
  · have hb' : b ≠ w.heap.size + 1 := by have := HO.out.2; omega
    repeat first | rfl | (refine (Below.heap_setCell _ _ _ _ hb').trans ?_)
  · repeat first | exact HL.out | (refine Below.setCell ?_ (by simp <;> omega) _)

set_option maxHeartbeats 2000000 in
set_option maxRecDepth 100000 in
theorem refNumber_any (X : Nat) (hX : X < 18446744073709551616) (w : World) : Calls Try.prog 37 #[.int .u64 X] w fun e w' => (∃ v, e = .returned v ∧ LText w.heap.size w' X v) ∧ Below w.heap.size w w' := by
  have HOF := hideP (fun W => refOf_any X hX W)
  have HLS := hideP (fun W => refLeast_any X W)
  obtain ⟨x0, x1, x2, x3, hx⟩ := wv_form X
  simp only [hx] at HLS HOF
  clear hx hX
  have hb2 : Below w.heap.size w (w.alloc (.cells #[.int .i64 0, .slice none 0 0, .slice none 0 0] 26)) := (Below.refl _ w).alloc (Nat.le_refl _) _
  have hbx := heap_new w (.cells #[.int .i64 0, .slice none 0 0, .slice none 0 0] 26)
  have H1 := hideP (And.intro hb2 hbx)
  clear hb2 hbx
  go_enter Try.func37, Try.ntmps37
  go_wp2_with fail
  refine (HOF.out _).mono ?_
  rintro e W2 ⟨rfl, hb2⟩
  have H2 := hideP (And.intro (H1.out.1.trans (hb2.mono H1.out.1.size)) ((hb2.block _ (lt_of_block H1.out.2)).trans H1.out.2))
  clear hb2 H1 HOF
  go_wp2_with fail
  refine (HLS.out _).mono ?_
  rintro e W3 ⟨⟨v3, n, rfl, hlb, hO3⟩, hb3⟩
  obtain ⟨a3, c3, rfl, hB3, _⟩ := hO3.ex
  have hle := hlb.le
  have HT := hideP (refText_any (by omega) W3 hB3)
  have hbx3 := (hb3.block _ (lt_of_block H2.out.2)).trans H2.out.2
  have H3 := hideP (And.intro (H2.out.1.trans (hb3.mono H2.out.1.size)) hbx3)
  have HLB := hideP hlb
  clear hlb hO3 hB3 hle hbx3 hb3 H2 HLS
  go_wp2_with fail
  refine HT.out.mono ?_
  rintro e W4 ⟨⟨s, rfl, hO4⟩, hb4⟩
  have hbx4 := (hb4.block _ (lt_of_block H3.out.2)).trans H3.out.2
  have hlt3 := lt_of_block H3.out.2
  obtain ⟨y0, y1, y2⟩ := cells3 hbx4
  have yf : ∀ o, W4.frozen? ⟨w.heap.size, o, none⟩ = false := fun o => blk_free hbx4
  obtain ⟨a4, c4, rfl, _, _⟩ := hO4.ex
  have HO := hideP (And.intro hO4 hlt3)
  have HL : Hid (Below w.heap.size w W4) := H3.out.1.trans (hb4.mono H3.out.1.size)
  clear hO4 hb4 hbx4 hlt3 H3 HT
  go_wp2_with fail
  refine bodyPost_ret (v := .agg #[.int .i64 0, .slice a4 n c4, .slice none 0 0]) (by simp [results, Try.results37, go_sem, y0, y1, y2, World.cell?_setCell_same]) rfl ⟨⟨_, rfl, n, HLB.out, _, rfl, HO.out.1.same (fun b hb _ => ?_) (by simp) (by have := HO.out.2; omega)⟩, ?_⟩
  · have hb' : b ≠ w.heap.size := by have := HO.out.2; omega
    repeat first | rfl | (refine (Below.heap_setCell _ _ _ _ hb').trans ?_)
  · repeat first | exact HL.out | (refine Below.setCell ?_ (by simp <;> omega) _)

theorem LB.one {X n m : Nat} (h1 : LB X n) (h2 : LB X m) : n = m := by
  have a1 := h1.lt
  have a2 := h1.ge
  have b1 := h2.lt
  have b2 := h2.ge
  by_cases h : n = m
  · exact h
  · rcases Nat.lt_or_gt_of_ne h with h | h
    · have c := Nat.lt_of_le_of_lt (b2 (by omega)) a1
      have := (Nat.pow_lt_pow_iff_right (by decide : 1 < 2)).1 c
      omega
    · have c := Nat.lt_of_le_of_lt (a2 (by omega)) b1
      have := (Nat.pow_lt_pow_iff_right (by decide : 1 < 2)).1 c
      omega

/-- The tree of a word's least bytes. -/
theorem LText.item {N : Nat} {w : World} {X : Nat} {v : Value} (h : LText N w X v) : ∃ n, LB X n ∧ IsItem (cut N w) (.node 0 (pay (lowB X n) n) []) v := by
  obtain ⟨n, hlb, s, rfl, hO⟩ := h
  exact ⟨n, hlb, hO.item⟩

end Go.Proofs.Ytigebmidfddbcaa
