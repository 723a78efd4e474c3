/-
  The document's decode.
-/
import Derived.Test.YtigebmidfddbcaaRHead
import Derived.Test.YtigebmidfddbcaaRHeadB
import Derived.Test.YtigebmidfddbcaaRDecW
namespace Go.Proofs.Ytigebmidfddbcaa
open Go.RowKit Go.Shelf

theorem refHead_any {ao : Option Addr} {n cap : Nat} {bs : Nat → Nat} (w : World) (h : BS w ao n cap bs) (hn : n ≤ 140737488355328) :
    Calls Try.prog 22 #[.slice ao n cap] w fun e w' => e = .returned (.tuple #[pc (hd bs n).1 (hd bs n).2.1 (hd bs n).2.2.1, .int .i64 (hd bs n).2.2.2]) ∧ Below w.heap.size w w' := by
  by_cases h0 : n = 0
  · subst h0
    exact refHead_none w
  · by_cases h1 : bs 0 < 128
    · exact refHead_byte w h (by omega) h1
    · by_cases h2 : bs 0 < 192
      · exact refHead_128 w h (by omega) h1 h2 hn
      · exact refHead_192 w h (by omega) h1 h2 hn

theorem headOk : HeadOk := fun _ _ _ _ w h hn => refHead_any w h hn

theorem refDec_all : ∀ (d deep : Nat), deep + d = 64 → ∀ (ao : Option Addr) (n c : Nat) (bs : Nat → Nat) (W : World), BS W ao n c bs → n ≤ 140737488355328 →
    Calls Try.prog 57 #[.slice ao n c, .int .i64 deep] W fun e w' => DecOut W w' (rdc d bs n) e ∧ Below W.heap.size W w' := by
  intro d
  induction d with
  | zero =>
    intro deep hd ao n c bs W hB hn
    exact refDec_step headOk 0 deep hd (fun d' e => by cases e) W hB hn
  | succ d ih =>
    intro deep hd ao n c bs W hB hn
    refine refDec_step headOk (d + 1) deep hd (fun d' e => ?_) W hB hn
    cases e
    exact ih (deep + 1) (by omega)

set_option maxHeartbeats 4000000 in
set_option maxRecDepth 100000 in
theorem refDecode_any {ao : Option Addr} {n c : Nat} {bs : Nat → Nat} (w : World) (hB : BS w ao n c bs) (hn : n ≤ 140737488355328) :
    Calls Try.prog 24 #[.slice ao n c] w fun e w' => (∃ v, e = .returned (.tuple #[v, .int .i64 (dec bs n).2]) ∧ IsItem (cut w.heap.size w') (dec bs n).1 v) ∧ Below w.heap.size w w' := by
  have hb0 : Below w.heap.size w (w.alloc (.cells #[.int .i64 0, .slice none 0 0, .slice none 0 0] 26)) := (Below.refl _ w).alloc (Nat.le_refl _) _
  have hbx := heap_new w (.cells #[.int .i64 0, .slice none 0 0, .slice none 0 0] 26)
  have hcall := refDec_all 64 0 rfl ao n c bs _ (hB.moved hb0) hn
  have hdec := rdc_dec bs n
  generalize dec bs n = res at *
  generalize rdc 64 bs n = r at *
  obtain ⟨rt, pt, re⟩ := r
  dsimp only at hdec
  have HC := hideP hcall
  have HD := hideP hdec
  have HB0 := hideP (And.intro hb0 hbx)
  clear hcall hdec hB hn hb0 hbx
  go_enter Try.func24, Try.ntmps24
  go_wp2_with fail
  refine HC.out.mono ?_
  rintro e W2 ⟨⟨v, rfl, hIt⟩, hb3⟩
  cases rt with
  | node kl kb kk =>
  have hIt : IsItem (cut (w.alloc (.cells #[.int .i64 0, .slice none 0 0, .slice none 0 0] 26)).heap.size W2) (.node kl kb kk) v := hIt
  obtain ⟨ka, kc, ka', kc', rfl, _, _, _⟩ := hIt.form
  obtain ⟨hb0, hbx⟩ := HB0.out
  dsimp only
  generalize hkn : kb.length = kn at *
  generalize hkn' : kk.length = kn' at *
  clear hkn hkn'
  have hrx2 := (hb3.block _ (lt_of_block hbx)).trans hbx
  have hkx := heap_new W2 (.cells #[.int .i64 kl, .slice ka kn kc, .slice ka' kn' kc'] 26)
  have hb4 : Below w.heap.size w (W2.alloc (.cells #[.int .i64 kl, .slice ka kn kc, .slice ka' kn' kc'] 26)) := (hb0.trans (hb3.mono hb0.size)).alloc (Nat.le_trans hb0.size hb3.size) _
  have hrx3 := (heap_old W2 (.cells #[.int .i64 kl, .slice ka kn kc, .slice ka' kn' kc'] 26) (lt_of_block hrx2)).trans hrx2
  have hIt4 : IsItem (cut (w.heap.size + 1) (W2.alloc (.cells #[.int .i64 kl, .slice ka kn kc, .slice ka' kn' kc'] 26))) (.node kl kb kk) (.agg #[.int .i64 kl, .slice ka kn kc, .slice ka' kn' kc']) := hIt.mono fun a u hc => by
    obtain ⟨e1, e2⟩ := cut_cell.1 hc
    rw [World.size_alloc] at e1
    exact cut_cell.2 ⟨e1, (cell_congr (heap_old _ _ (World.block_lt_of_cell? _ _ e2))).trans e2⟩
  have HEND := hideP (And.intro hb4 hIt4)
  obtain ⟨k0, k1, k2⟩ := cells3 hkx
  obtain ⟨r0, r1, r2⟩ := cells3 hrx3
  have rf : ∀ o, (W2.alloc (.cells #[.int .i64 kl, .slice ka kn kc, .slice ka' kn' kc'] 26)).frozen? ⟨w.heap.size, o, none⟩ = false := fun o => blk_free hrx3
  clear hIt hb3 hrx2 hkx hb4 hrx3 hIt4 HC HB0 hb0 hbx
  by_cases hre : re = 0
  · subst hre
    by_cases hlt : pt < n
    · have g1 : (pt : Int) < (n : Int) := by omega
      have HRES : Hid (res = (.node 0 [] [], 43)) := hideP (by
        have := HD.out
        simpa [hlt] using this)
      clear HD hlt
      go_wp2_with fail
      refine bodyPost_ret (v := .tuple #[.agg #[.int .i64 0, .slice none 0 0, .slice none 0 0], .int .i64 43]) (by simp [results, Try.results24, go_sem, r0, r1, r2, World.cell?_setCell_same]) rfl ?_
      rw [HRES.out]
      refine ⟨⟨_, rfl, isItem_zero _⟩, ?_⟩
      exact ((HEND.out.1.setCell (Nat.le_refl _) _).setCell (Nat.le_refl _) _).setCell (Nat.le_refl _) _
    · have g1 : ¬ (pt : Int) < (n : Int) := by omega
      have HRES : Hid (res = (.node kl kb kk, 0)) := hideP (by
        have := HD.out
        simpa [hlt] using this)
      clear HD hlt
      go_wp2_with fail
      refine bodyPost_ret (v := .tuple #[.agg #[.int .i64 kl, .slice ka kn kc, .slice ka' kn' kc'], .int .i64 0]) (by simp [results, Try.results24, go_sem, r0, r1, r2, World.cell?_setCell_same]) rfl ?_
      rw [HRES.out]
      refine ⟨⟨_, rfl, HEND.out.2.mono fun a u hc => ?_⟩, ?_⟩
      · obtain ⟨e1, e2⟩ := cut_cell.1 hc
        have hne : a.block ≠ w.heap.size := by omega
        refine cut_cell.2 ⟨by omega, ?_⟩
        exact (cell_congr (Below.heap_setCell _ _ _ _ hne)).trans ((cell_congr (Below.heap_setCell _ _ _ _ hne)).trans ((cell_congr (Below.heap_setCell _ _ _ _ hne)).trans e2))
      · exact ((HEND.out.1.setCell (Nat.le_refl _) _).setCell (Nat.le_refl _) _).setCell (Nat.le_refl _) _
  · have hre' : ¬ (re : Int) = 0 := by omega
    have HRES : Hid (res = (.node 0 [] [], re)) := hideP (by
      have := HD.out
      simpa [hre] using this)
    clear HD hre
    go_wp2_with fail
    refine bodyPost_ret (v := .tuple #[.agg #[.int .i64 0, .slice none 0 0, .slice none 0 0], .int .i64 re]) (by simp [results, Try.results24, go_sem, r0, r1, r2, World.cell?_setCell_same]) rfl ?_
    rw [HRES.out]
    refine ⟨⟨_, rfl, isItem_zero _⟩, ?_⟩
    exact ((HEND.out.1.setCell (Nat.le_refl _) _).setCell (Nat.le_refl _) _).setCell (Nat.le_refl _) _

end Go.Proofs.Ytigebmidfddbcaa
