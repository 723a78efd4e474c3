/-
  law's Item and twin.
-/
import Derived.Test.YtigebmidfddbcaaRlpMeansC26
namespace Go.Proofs.Ytigebmidfddbcaa
open Go.RowKit Go.Shelf

theorem item_nodes : ∀ (N : Nat) (f' : Nat) (ns : List Nd) (deep' : Nat) (ao : Option Addr) (c : Nat) (w0 W : World), ns.length ≤ N → 2 * ns.length ≤ f' → deep' ≤ 200 → Below w0.heap.size w0 W → NS w0 ns ao c → NdOk ns → ns.length ≤ 3518437208884 →
    Calls Try.prog 48 #[.slice ao ns.length c, .int .i64 deep'] W fun e w' => ItemOut w0 W w' (itemT f' ns deep').1 (itemT f' ns deep').2 e ∧ Below W.heap.size W w'
  | _, f', [], deep', ao, c, w0, W, _, _, _, _, _, _, _ => item_none f' deep' w0 W
  | 0, _, x :: r, _, _, _, _, _, h, _, _, _, _, _, _ => by simp at h
  | N + 1, f', x :: r, deep', ao, c, w0, W, hN, hf, hd, hb, hns, hok, hlen => by
    rw [List.length_cons] at hN hf hlen
    cases f' with
    | zero => omega
    | succ f1 => exact item_step f1 deep' hd x r (fun f' ns d ao c w0 W h1 h2 h3 h4 h5 h6 h7 => item_nodes N f' ns d ao c w0 W (by omega) h2 h3 h4 h5 h6 h7) w0 W hb hns hok hlen (by omega)

/-- The item that nodes tell. -/
def treeOf (ns : List Nd) : Tree := (itemT (2 * ns.length) ns 0).1

theorem treeOf_fits {ns : List Nd} (h : NdOk ns) (hl : ns.length ≤ 3518437208884) : (treeOf ns).fits := (itemT_fits _ ns 0 h hl).1

set_option maxHeartbeats 1000000 in
set_option maxRecDepth 100000 in
theorem lawItem_any {ns : List Nd} {ao : Option Addr} {c : Nat} (w : World) (h : NS w ns ao c) (hok : NdOk ns) (hlen : ns.length ≤ 3518437208884) :
    Calls Try.prog 13 #[.slice ao ns.length c] w fun e w' => (∃ v, e = .returned v ∧ IsItem (cut w.heap.size w') (treeOf ns) v) ∧ Below w.heap.size w w' := by
  have hb1 : Below w.heap.size w (w.alloc (.cells #[.int .i64 0, .slice none 0 0, .slice none 0 0] 26)) := (Below.refl _ w).alloc (Nat.le_refl _) _
  have HC := hideP (item_nodes ns.length (2 * ns.length) ns 0 ao c w _ (Nat.le_refl _) (Nat.le_refl _) (by omega) hb1 h hok hlen)
  have HB := hideP hb1
  have HBX := hideP (heap_new w (.cells #[.int .i64 0, .slice none 0 0, .slice none 0 0] 26))
  have ht : treeOf ns = (itemT (2 * ns.length) ns 0).1 := rfl
  rw [← ht] at HC
  generalize (itemT (2 * ns.length) ns 0).2 = rest at *
  generalize treeOf ns = t at *
  clear h hok hlen hb1 ht
  generalize ns.length = n at *
  cases t with
  | node l b k =>
  go_enter Try.func13, Try.ntmps13
  go_wp2_with fail
  refine HC.out.mono ?_
  rintro e w2 ⟨⟨v, ra, rc, rfl, hIt, _⟩, hb2⟩
  obtain ⟨ka, kc, ka', kc', rfl, _, _, _⟩ := hIt.form
  rw [World.size_alloc] at hIt hb2
  have hs2 := hb2.size
  rw [World.size_alloc] at hs2
  have hbx := (heap_old w2 (.cells #[.int .i64 l, .slice ka b.length kc, .slice ka' k.length kc'] 26) (by omega)).trans ((hb2.block w.heap.size (by omega)).trans HBX.out)
  have hkx := heap_new w2 (.cells #[.int .i64 l, .slice ka b.length kc, .slice ka' k.length kc'] 26)
  have hb3 : Below w.heap.size w (w2.alloc (.cells #[.int .i64 l, .slice ka b.length kc, .slice ka' k.length kc'] 26)) := (HB.out.trans (hb2.mono (by omega))).alloc (by omega) _
  obtain ⟨y0, y1, y2⟩ := cells3 hbx
  obtain ⟨k0, k1, k2⟩ := cells3 hkx
  have yf : ∀ o, (w2.alloc (.cells #[.int .i64 l, .slice ka b.length kc, .slice ka' k.length kc'] 26)).frozen? ⟨w.heap.size, o, none⟩ = false := fun o => blk_free hbx
  have HEND := hideP (And.intro hb3 (And.intro hIt hs2))
  clear hbx hkx hb3 hb2 hIt hs2 HC
  generalize b.length = nb at *
  generalize k.length = nk at *
  go_wp2_with fail
  refine bodyPost_ret (v := .agg #[.int .i64 l, .slice ka nb kc, .slice ka' nk kc']) (by simp [results, Try.results13, go_sem, y0, y1, y2, World.cell?_setCell_same]) rfl ⟨⟨_, rfl, HEND.out.2.1.mono fun a u hc => ?_⟩, ?_⟩
  · obtain ⟨h1, h2⟩ := cut_cell.1 hc
    have hne : a.block ≠ w.heap.size := by omega
    have hlt := World.block_lt_of_cell? _ _ h2
    exact cut_cell.2 ⟨by omega, (cell_congr (Below.heap_setCell _ _ _ _ hne)).trans ((cell_congr (Below.heap_setCell _ _ _ _ hne)).trans ((cell_congr (Below.heap_setCell _ _ _ _ hne)).trans ((cell_congr (heap_old w2 _ hlt)).trans h2)))⟩
  · exact ((HEND.out.1.setCell (Nat.le_refl _) _).setCell (Nat.le_refl _) _).setCell (Nat.le_refl _) _

end Go.Proofs.Ytigebmidfddbcaa
