/-
  Decode: the item of bytes, or why there is none.
-/
import Derived.Test.YtigebmidfddbcaaRlpMeansC19
namespace Go.Proofs.Ytigebmidfddbcaa
open Go.RowKit Go.Shelf

theorem read_all : ∀ (d within : Nat), within + d = 64 → ∀ {ao : Option Addr} {n c : Nat} {bs : Nat → Nat} (l f t : Nat) (w : World), BS w ao n c bs → l ≤ 1 → f ≤ t → t ≤ n → n ≤ 140737488355328 → 0 < n → (l = 1 → t - f ≤ 1099511627776) →
    Calls Try.prog 56 #[.slice ao n c, pc l f t, .int .i64 within] w fun e w' => (∃ v, e = .returned (.tuple #[v, .int .i64 (rd d bs l f t).2]) ∧ IsItem (cut w.heap.size w') (rd d bs l f t).1 v) ∧ Below w.heap.size w w' := by
  intro d
  induction d with
  | zero =>
    intro within hd ao n c bs l f t w hB hl hft htn hn h0 h40
    obtain rfl : within = 64 := by omega
    match l, hl with
    | 0, _ => exact read_text 0 64 f t w hB hft htn hn h0
    | 1, _ => exact read_deep f t w hB hft htn h0
  | succ d ih =>
    intro within hd ao n c bs l f t w hB hl hft htn hn h0 h40
    match l, hl with
    | 0, _ => exact read_text (d + 1) within f t w hB hft htn hn h0
    | 1, _ => exact read_list d within hd (ih (within + 1) (by omega)) f t w hB hft htn h0 (h40 rfl)

/-- What bytes are read as. -/
def dec (bs : Nat → Nat) (n : Nat) : Tree × Nat :=
  if (hd bs n).2.2.2 ≠ 0 then (.node 0 [] [], (hd bs n).2.2.2)
  else if (rd 64 bs (hd bs n).1 (hd bs n).2.1 (hd bs n).2.2.1).2 ≠ 0 then (.node 0 [] [], (rd 64 bs (hd bs n).1 (hd bs n).2.1 (hd bs n).2.2.1).2)
  else if (hd bs n).2.2.1 < n then (.node 0 [] [], 43) else ((rd 64 bs (hd bs n).1 (hd bs n).2.1 (hd bs n).2.2.1).1, 0)

set_option maxHeartbeats 4000000 in
set_option maxRecDepth 100000 in
theorem decode_any {ao : Option Addr} {n c : Nat} {bs : Nat → Nat} (w : World) (hB : BS w ao n c bs) (hn : n ≤ 140737488355328) :
    Calls Try.prog 23 #[.slice ao n c] w fun e w' => (∃ v, e = .returned (.tuple #[v, .int .i64 (dec bs n).2]) ∧ IsItem (cut w.heap.size w') (dec bs n).1 v) ∧ Below w.heap.size w w' := by
  have hhead := fun W (hb : Below w.heap.size w W) => head_any W (hB.moved hb)
  have hread := fun W (hb : Below w.heap.size w W) (hok : (hd bs n).2.2.2 = 0) => read_all 64 0 rfl (hd bs n).1 (hd bs n).2.1 (hd bs n).2.2.1 W (hB.moved hb) (hd_ok hok).2.1 (hd_ok hok).2.2.1 (hd_ok hok).2.2.2.2 hn (hd_ok hok).1 (fun h => (hd_list hok h).2)
  have hdec : dec bs n = if (hd bs n).2.2.2 ≠ 0 then (.node 0 [] [], (hd bs n).2.2.2)
      else if (rd 64 bs (hd bs n).1 (hd bs n).2.1 (hd bs n).2.2.1).2 ≠ 0 then (.node 0 [] [], (rd 64 bs (hd bs n).1 (hd bs n).2.1 (hd bs n).2.2.1).2)
      else if (hd bs n).2.2.1 < n then (.node 0 [] [], 43) else ((rd 64 bs (hd bs n).1 (hd bs n).2.1 (hd bs n).2.2.1).1, 0) := rfl
  generalize dec bs n = res at *
  generalize hd bs n = h at *
  obtain ⟨pl, pf, pt, pe⟩ := h
  dsimp only at hhead hread hdec
  unfold pc at hhead hread
  have hb0 : Below w.heap.size w (w.alloc (.cells #[.int .i64 0, .slice none 0 0, .slice none 0 0] 26)) := (Below.refl _ w).alloc (Nat.le_refl _) _
  have hbx := heap_new w (.cells #[.int .i64 0, .slice none 0 0, .slice none 0 0] 26)
  have HH := hideP (hhead _ hb0)
  have HR := hideP hread
  have HD := hideP hdec
  have HB0 := hideP hb0
  have HBX := hideP hbx
  clear hhead hread hdec hB hn hb0 hbx
  by_cases he : pe = 0
  · subst he
    go_enter Try.func23, Try.ntmps23
    go_wp2_with fail
    refine HH.out.mono ?_
    rintro e w1 ⟨rfl, hb1⟩
    have hb2 : Below w.heap.size w (w1.alloc (.cells #[.int .i64 pl, .int .i64 pf, .int .i64 pt] 40)) := (HB0.out.trans (hb1.mono (by simp))).alloc (by have := hb1.size; simp at this; omega) _
    have hpx := heap_new w1 (.cells #[.int .i64 pl, .int .i64 pf, .int .i64 pt] 40)
    have hrx : (w1.alloc (.cells #[.int .i64 pl, .int .i64 pf, .int .i64 pt] 40)).heap[w.heap.size]? = _ := (heap_old _ _ (by have := hb1.size; simp at this; omega)).trans ((hb1.block _ (by simp)).trans HBX.out)
    have hcall := HR.out _ hb2 (by first | rfl | trivial)
    generalize rd 64 bs pl pf pt = r at *
    obtain ⟨rt, re⟩ := r
    dsimp only at hcall
    have HC := hideP hcall
    have HB2 := hideP hb2
    have HPX := hideP hpx
    have HRX := hideP hrx
    obtain ⟨d0, d1, d2⟩ := cells3 hpx
    clear hcall hb1 hb2 hpx hrx
    go_wp2_with fail
    generalize hP : w1.heap.size = P at *
    generalize (w1.alloc (.cells #[.int .i64 pl, .int .i64 pf, .int .i64 pt] 40)) = W1 at *
    clear hP
    refine HC.out.mono ?_
    rintro e W2 ⟨⟨v, rfl, hIt⟩, hb3⟩
    cases rt with
    | node kl kb kk =>
    have HIT := hideP hIt
    obtain ⟨ka, kc, ka', kc', rfl, _, _, _⟩ := hIt.form
    generalize hkn : kb.length = kn at *
    generalize hkn' : kk.length = kn' at *
    clear hkn hkn'
    have hpx2 := (hb3.block _ (lt_of_block HPX.out)).trans HPX.out
    have hrx2 := (hb3.block _ (lt_of_block HRX.out)).trans HRX.out
    have hkx := heap_new W2 (.cells #[.int .i64 kl, .slice ka kn kc, .slice ka' kn' kc'] 26)
    have hb4 : Below w.heap.size w (W2.alloc (.cells #[.int .i64 kl, .slice ka kn kc, .slice ka' kn' kc'] 26)) := (HB2.out.trans (hb3.mono HB2.out.size)).alloc (Nat.le_trans HB2.out.size hb3.size) _
    have hpx3 := (heap_old W2 (.cells #[.int .i64 kl, .slice ka kn kc, .slice ka' kn' kc'] 26) (lt_of_block hpx2)).trans hpx2
    have hrx3 := (heap_old W2 (.cells #[.int .i64 kl, .slice ka kn kc, .slice ka' kn' kc'] 26) (lt_of_block hrx2)).trans hrx2
    have hIt4 : IsItem (cut W1.heap.size (W2.alloc (.cells #[.int .i64 kl, .slice ka kn kc, .slice ka' kn' kc'] 26))) (.node kl kb kk) (.agg #[.int .i64 kl, .slice ka kn kc, .slice ka' kn' kc']) := hIt.mono fun a u hc => by
      obtain ⟨e1, e2⟩ := cut_cell.1 hc
      exact cut_cell.2 ⟨e1, (cell_congr (heap_old _ _ (World.block_lt_of_cell? _ _ e2))).trans e2⟩
    have hw1 : w.heap.size < W1.heap.size := lt_of_block HRX.out
    have HEND := hideP (And.intro hb4 (And.intro hIt4 hw1))
    obtain ⟨q0, q1, q2⟩ := cells3 hpx3
    obtain ⟨k0, k1, k2⟩ := cells3 hkx
    obtain ⟨r0, r1, r2⟩ := cells3 hrx3
    have rf : ∀ o, (W2.alloc (.cells #[.int .i64 kl, .slice ka kn kc, .slice ka' kn' kc'] 26)).frozen? ⟨w.heap.size, o, none⟩ = false := fun o => blk_free hrx3
    clear hIt hb3 hpx2 hrx2 hkx hb4 hpx3 hrx3 hIt4 hw1 HIT HC HPX HRX HB2 HR HH HB0 HBX d0 d1 d2
    by_cases hre : re = 0
    · subst hre
      by_cases hlt : pt < n
      · have g1 : (pt : Int) < (n : Int) := by omega
        have HRES : Hid (res = (.node 0 [] [], 43)) := hideP (by
          have := HD.out
          simpa [hlt] using this)
        clear HD hlt
        go_wp2_with fail
        refine bodyPost_ret (v := .tuple #[.agg #[.int .i64 0, .slice none 0 0, .slice none 0 0], .int .i64 43]) (by simp [results, Try.results23, go_sem, r0, r1, r2, World.cell?_setCell_same]) rfl ?_
        rw [HRES.out]
        refine ⟨⟨_, rfl, isItem_zero _⟩, ?_⟩
        exact ((HEND.out.1.setCell (Nat.le_refl _) _).setCell (Nat.le_refl _) _).setCell (Nat.le_refl _) _
      · have g1 : ¬ (pt : Int) < (n : Int) := by omega
        have HRES : Hid (res = (.node kl kb kk, 0)) := hideP (by
          have := HD.out
          simpa [hlt] using this)
        clear HD hlt
        go_wp2_with fail
        refine bodyPost_ret (v := .tuple #[.agg #[.int .i64 kl, .slice ka kn kc, .slice ka' kn' kc'], .int .i64 0]) (by simp [results, Try.results23, go_sem, r0, r1, r2, World.cell?_setCell_same]) rfl ?_
        rw [HRES.out]
        refine ⟨⟨_, rfl, HEND.out.2.1.mono fun a u hc => ?_⟩, ?_⟩
        · obtain ⟨e1, e2⟩ := cut_cell.1 hc
          have hne : a.block ≠ w.heap.size := by have := HEND.out.2.2; omega
          refine cut_cell.2 ⟨by have := HEND.out.2.2; omega, ?_⟩
          exact (cell_congr (Below.heap_setCell _ _ _ _ hne)).trans ((cell_congr (Below.heap_setCell _ _ _ _ hne)).trans ((cell_congr (Below.heap_setCell _ _ _ _ hne)).trans e2))
        · exact ((HEND.out.1.setCell (Nat.le_refl _) _).setCell (Nat.le_refl _) _).setCell (Nat.le_refl _) _
    · have hre' : ¬ (re : Int) = 0 := by omega
      have HRES : Hid (res = (.node 0 [] [], re)) := hideP (by
        have := HD.out
        simpa [hre] using this)
      clear HD
      go_wp2_with fail
      refine bodyPost_ret (v := .tuple #[.agg #[.int .i64 0, .slice none 0 0, .slice none 0 0], .int .i64 re]) (by simp [results, Try.results23, go_sem, r0, r1, r2, World.cell?_setCell_same]) rfl ?_
      rw [HRES.out]
      refine ⟨⟨_, rfl, isItem_zero _⟩, ?_⟩
      exact ((HEND.out.1.setCell (Nat.le_refl _) _).setCell (Nat.le_refl _) _).setCell (Nat.le_refl _) _
  · have he' : ¬ (pe : Int) = 0 := by omega
    have HRES : Hid (res = (.node 0 [] [], pe)) := hideP (by
      have := HD.out
      simpa [he] using this)
    clear HD HR
    go_enter Try.func23, Try.ntmps23
    go_wp2_with fail
    refine HH.out.mono ?_
    rintro e w1 ⟨rfl, hb1⟩
    have hb2 : Below w.heap.size w (w1.alloc (.cells #[.int .i64 pl, .int .i64 pf, .int .i64 pt] 40)) := (HB0.out.trans (hb1.mono (by simp))).alloc (by have := hb1.size; simp at this; omega) _
    have hrx : (w1.alloc (.cells #[.int .i64 pl, .int .i64 pf, .int .i64 pt] 40)).heap[w.heap.size]? = _ := (heap_old _ _ (by have := hb1.size; simp at this; omega)).trans ((hb1.block _ (by simp)).trans HBX.out)
    obtain ⟨r0, r1, r2⟩ := cells3 hrx
    have rf : ∀ o, (w1.alloc (.cells #[.int .i64 pl, .int .i64 pf, .int .i64 pt] 40)).frozen? ⟨w.heap.size, o, none⟩ = false := fun o => blk_free hrx
    have HB2 := hideP hb2
    clear hb1 hb2 hrx HB0 HBX HH
    go_wp2_with fail
    refine bodyPost_ret (v := .tuple #[.agg #[.int .i64 0, .slice none 0 0, .slice none 0 0], .int .i64 pe]) (by simp [results, Try.results23, go_sem, r0, r1, r2, World.cell?_setCell_same]) rfl ?_
    rw [HRES.out]
    refine ⟨⟨_, rfl, isItem_zero _⟩, ?_⟩
    exact ((HB2.out.setCell (Nat.le_refl _) _).setCell (Nat.le_refl _) _).setCell (Nat.le_refl _) _

end Go.Proofs.Ytigebmidfddbcaa
