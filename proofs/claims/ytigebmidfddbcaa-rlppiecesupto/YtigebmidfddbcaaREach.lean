/-
  The document's Each: the pieces of bytes in a row.
-/
import Derived.Test.YtigebmidfddbcaaRDec
import Derived.Test.YtigebmidfddbcaaEach
import Derived.Test.YtigebmidfddbcaaRHd
namespace Go.Proofs.Ytigebmidfddbcaa
open Go.RowKit Go.Shelf

/-- The words of pieces, one behind the other. -/
def pcF (L : List (Nat × Nat × Nat × Nat)) : List Value := L.flatMap fun x => [.int .i64 x.1, .int .i64 x.2.1, .int .i64 x.2.2.1]

theorem pcF_append (L M : List (Nat × Nat × Nat × Nat)) : pcF (L ++ M) = pcF L ++ pcF M := List.flatMap_append

theorem pcF_length : ∀ (L : List (Nat × Nat × Nat × Nat)), (pcF L).length = L.length * 3
  | [] => rfl
  | x :: r => by
    have := pcF_length r
    unfold pcF at this ⊢
    rw [List.flatMap_cons, List.length_append, this, List.length_cons]
    simp only [List.length_cons, List.length_nil]
    omega

theorem pcF_get : ∀ {L : List (Nat × Nat × Nat × Nat)} {k : Nat} {x : Nat × Nat × Nat × Nat}, L[k]? = some x → (pcF L)[k * 3]? = some (.int .i64 x.1) ∧ (pcF L)[k * 3 + 1]? = some (.int .i64 x.2.1) ∧ (pcF L)[k * 3 + 2]? = some (.int .i64 x.2.2.1)
  | [], _, _, h => by cases h
  | y :: r, 0, x, h => by
    cases h
    exact ⟨rfl, rfl, rfl⟩
  | y :: r, k + 1, x, h => by
    obtain ⟨h0, h1, h2⟩ := pcF_get (L := r) (k := k) (x := x) (by simpa using h)
    have e : pcF (y :: r) = .int .i64 y.1 :: .int .i64 y.2.1 :: .int .i64 y.2.2.1 :: pcF r := rfl
    rw [e, show (k + 1) * 3 = k * 3 + 1 + 1 + 1 by omega]
    refine ⟨?_, ?_, ?_⟩
    · rw [List.getElem?_cons_succ, List.getElem?_cons_succ, List.getElem?_cons_succ]; exact h0
    · rw [show k * 3 + 1 + 1 + 1 + 1 = (k * 3 + 1) + 1 + 1 + 1 by omega, List.getElem?_cons_succ, List.getElem?_cons_succ, List.getElem?_cons_succ]; exact h1
    · rw [show k * 3 + 1 + 1 + 1 + 2 = (k * 3 + 2) + 1 + 1 + 1 by omega, List.getElem?_cons_succ, List.getElem?_cons_succ, List.getElem?_cons_succ]; exact h2

theorem Try.infoPiece : (Try.prog.info? 40).map (fun i => (i.zero, i.size, i.bytes)) = some (some (.agg #[.int .i64 0, .int .i64 0, .int .i64 0]), 3, 24) := by kernel_rfl

/-- One more piece. -/
theorem piece_append {N : Nat} {w : World} {v : Value} {k : Nat} {vs : List Value} (h : w.ownsRow N 40 3 v k vs) (hN : N ≤ w.heap.size) (hk : k ≤ 140737488355) {l f t : Int} (ad : Addr) (c ty : Nat)
    (h0 : w.cell? ad = some (.int .i64 l)) (h1 : w.cell? (ad.add 1) = some (.int .i64 f)) (h2 : w.cell? (ad.add 2) = some (.int .i64 t)) :
    ∃ v' w', (Builtin.append_ #[54, 54] ty #[v, .slice (some ad) 1 c]).run Try.prog w = .ok v' w' ∧ w'.ownsRow N 40 3 v' (k + 1) (vs ++ [.int .i64 l, .int .i64 f, .int .i64 t]) ∧ Below N w w' ∧ ∀ b, b < w.heap.size → v.ownBlock ≠ some b → w'.heap[b]? = w.heap[b]? := by
  obtain ⟨i0, hif, hz0, hz1, hz2⟩ := info_parts Try.infoPiece
  have hT : Try.prog.underlying 54 = some (.slice 40) := by kernel_rfl
  have hnews : ∀ j u, [Value.int .i64 l, .int .i64 f, .int .i64 t][j]? = some u → w.cell? (ad.add j) = some u := by
    intro j u hu
    match j, hu with
    | 0, hu => cases hu; simpa [Addr.add] using h0
    | 1, hu => cases hu; exact h1
    | 2, hu => cases hu; exact h2
    | (j + 3), hu => simp at hu
  obtain ⟨v', w', hr, hO', hG, _⟩ := run_append_own_wide (P := Try.prog) w N 54 ty 40 i0 (.agg #[.int .i64 0, .int .i64 0, .int .i64 0]) 3 24 hT hif hz0 hz1 hz2 rfl (by omega) v k vs h ad 1 c _ rfl hnews (fun u hu => by
    simp only [List.mem_cons, List.not_mem_nil, or_false] at hu
    rcases hu with rfl | rfl | rfl <;> rfl) (by unfold maxLen; omega) (by omega) hN
  exact ⟨v', w', hr, hO', (Below.refl _ w).grown hG hN (fun x hx => (h.lt x hx).1), fun b hb hne => hG.block b hb (fun e => hne e.symm)⟩

/-- How the document's Each stands, so many pieces done. -/
structure REI (w : World) (bs : Nat → Nat) (n : Nat) (L : List (Nat × Nat × Nat × Nat)) (v : Value) (k p : Nat) (V : World) : Prop where
  row : V.ownsRow w.heap.size 40 3 v k (pcF (L.take k))
  kl : k ≤ good L
  pn : p ≤ n
  rest : ∃ f, n + 1 ≤ f + p ∧ L.drop k = pcs bs n f p
  below : Below w.heap.size w V

set_option maxHeartbeats 4000000 in
set_option maxRecDepth 100000 in
theorem refEach_any {ao : Option Addr} {n c : Nat} {bs : Nat → Nat} (hn : n ≤ 1048576) (w : World) (h : BS w ao n c bs) :
    Calls Try.prog 26 #[.slice ao n c] w fun e w' => (∃ v, e = .returned v ∧ w'.ownsRow w.heap.size 40 3 v (good (pcs bs n (n + 1) 0)) (pcF ((pcs bs n (n + 1) 0).take (good (pcs bs n (n + 1) 0))))) ∧ Below w.heap.size w w' := by
  have hlenL := pcs_len bs n (n + 1) 0
  generalize hL : pcs bs n (n + 1) 0 = L at *
  have H := hideP (And.intro h (And.intro hL hlenL))
  have HN := hideP hn
  clear h hL hlenL hn
  go_enter Try.func26, Try.ntmps26
  go_wp2_with fail
  go_loopw [3, 4] (fun v i wr => ∃ k p : Nat, i = .int .i64 (p : Int) ∧ (∃ a m cc, v = .slice a m cc) ∧ Hid (REI w bs n L v k p wr)) (fun _ i _ => n - (intOf i).toNat)
  case atStart => exact ⟨0, 0, rfl, ⟨_, _, _, rfl⟩, ⟨World.ownsRow_nil w _ _ 3, Nat.zero_le _, Nat.zero_le _, ⟨n + 1, Nat.le_refl _, by rw [List.drop_zero, H.out.2.1]⟩, Below.refl _ _⟩⟩
  case round =>
    obtain ⟨k, p, rfl, ⟨a0, m0, c0, rfl⟩, hI⟩ := hrel
    obtain ⟨hrow, hkl, hpn, ⟨f, hf, hdrop⟩, hbw⟩ := hI.out
    obtain ⟨hB, hL, hlenL⟩ := H.out
    have hn := HN.out
    by_cases hlt : p < n
    · obtain ⟨ao', hB', hsl⟩ := (hB.moved hbw).rest (l := p) hpn
      have hhead := refHead_any wr hB' (by omega)
      cases f with
      | zero => omega
      | succ f =>
      rw [pcs, if_pos hlt] at hdrop
      have hok := hd_ok (bs := fun j => bs (p + j)) (n := n - p)
      generalize hd (fun j => bs (p + j)) (n - p) = hh at *
      obtain ⟨pl, pf, pt, pe⟩ := hh
      have g1 : ((p : Nat) : Int) < ((n : Nat) : Int) := by omega
      have HH := hideP hhead
      simp only [pc] at HH
      by_cases he : pe = 0
      · subst he
        obtain ⟨_, hl1, hft, ht1, htn⟩ := hok rfl
        rw [if_neg (by simp)] at hdrop
        dsimp only at hdrop hft ht1 htn
        obtain ⟨hk, hv, hr⟩ := drop_cons_getD (d := (0, 0, 0, 0)) hdrop
        have hnx := good_next hkl hk (by rw [hv])
        have e1 : IntKind.i64.wrap (((p : Nat) : Int) + ((pf : Nat) : Int)) = ((p + pf : Nat) : Int) := by rw [IntKind.wrap_i64]; omega
        have e2 : IntKind.i64.wrap (((p : Nat) : Int) + ((pt : Nat) : Int)) = ((p + pt : Nat) : Int) := by rw [IntKind.wrap_i64]; omega
        have htake : L.take (k + 1) = L.take k ++ [(pl, p + pf, p + pt, 0)] := by
          rw [List.take_succ_eq_append_getElem hk]
          congr 2
          rw [List.getD_eq_getElem?_getD, List.getElem?_eq_getElem hk] at hv
          exact hv
        have HQ := hideP (And.intro hrow (And.intro hpn (And.intro hbw (And.intro htake (And.intro hnx (And.intro hr (And.intro hf (And.intro ht1 (And.intro htn (And.intro hlt (And.intro hk (And.intro hlenL hn))))))))))))
        clear hrow hkl hpn hf hdrop hbw hB hL hlenL hn hB' hhead hok hI hk hv hr hnx htake hl1 hft ht1 htn hlt H
        generalize hqf : p + pf = qf at *
        generalize hqt : p + pt = qt at *
        have HQT := hideP hqt
        clear hqf hqt
        go_wp2_with fail
        refine HH.out.mono ?_
        rintro e W1 ⟨rfl, hb1⟩
        have hb2 : Below wr.heap.size wr (W1.alloc (.cells #[.int .i64 pl, .int .i64 pf, .int .i64 pt] 40)) := hb1.alloc hb1.size _
        have hb3 : Below wr.heap.size wr ((W1.alloc (.cells #[.int .i64 pl, .int .i64 pf, .int .i64 pt] 40)).alloc (.cells #[.int .i64 pl, .int .i64 qf, .int .i64 qt] 40)) := hb2.alloc hb2.size _
        obtain ⟨hrow, hpn, hbw, htake, hnx, hr, hf, ht1, htn, hlt, hk, hlenL, hn⟩ := HQ.out
        have hnew := heap_new (W1.alloc (.cells #[.int .i64 pl, .int .i64 pf, .int .i64 pt] 40)) (.cells #[.int .i64 pl, .int .i64 qf, .int .i64 qt] 40)
        rw [World.size_alloc] at hnew
        obtain ⟨n0, n1, n2⟩ := cells3 hnew
        have hrow3 : ((W1.alloc (.cells #[.int .i64 pl, .int .i64 pf, .int .i64 pt] 40)).alloc (.cells #[.int .i64 pl, .int .i64 qf, .int .i64 qt] 40)).ownsRow w.heap.size 40 3 (.slice a0 m0 c0) k (pcF (L.take k)) := ⟨hrow.1, by
          rcases hrow.2 with h | ⟨g, cap, cur, e, hb, hg, rest⟩
          · exact Or.inl h
          · exact Or.inr ⟨g, cap, cur, e, hb, (hb3.block g (lt_of_block hg)).trans hg, rest⟩⟩
        have hbw3 := hbw.trans (hb3.mono hbw.size)
        obtain ⟨v', W4, hrun, hrow4, hb4, hoth⟩ := piece_append hrow3 hbw3.size (by omega) ⟨W1.heap.size + 1, 0, none⟩ 1 54 n0 n1 n2
        have hs1 := hb1.size
        have hP3 : ((W1.alloc (.cells #[.int .i64 pl, .int .i64 pf, .int .i64 pt] 40)).alloc (.cells #[.int .i64 pl, .int .i64 qf, .int .i64 qt] 40)).heap[W1.heap.size]? = some (.cells #[.int .i64 pl, .int .i64 pf, .int .i64 pt] 40 (0, 0)) := (heap_old _ _ (by simp)).trans (heap_new W1 _)
        have hP4 := (hoth _ (lt_of_block hP3) (fun e => by
          have := (hrow.lt _ e).2
          omega)).trans hP3
        obtain ⟨z0, z1, z2⟩ := cells3 hP4
        have hlen4 : ∃ a m cc, v' = .slice a m cc := by
          rcases hrow4.2 with ⟨rfl, _⟩ | ⟨g, cap, cur, rfl, _⟩
          · exact ⟨_, _, _, rfl⟩
          · exact ⟨_, _, _, rfl⟩
        obtain ⟨a4, m4, c4, rfl⟩ := hlen4
        have HRUN := hideP hrun
        have hrow5 : W4.ownsRow w.heap.size 40 3 (.slice a4 m4 c4) (k + 1) (pcF (L.take (k + 1))) := by
          rw [htake, pcF_append]
          rw [HQT.out] at *
          exact hrow4
        have HR := hideP (And.intro hrow5 (hbw3.trans (hb4.mono (Nat.le_refl _))))
        clear hrow hpn hbw htake hnx hr hf ht1 htn hlt hk hlenL hn hb1 hb2 hb3 hnew n0 n1 n2 hrow3 hbw3 hrun hrow4 hb4 hoth hs1 hP3 hP4 hrow5 HH
        go_wp2_with (at_builtin; refine wpList_append_run rfl _ _ 54 rfl rfl rfl rfl HRUN.out ?_)
        obtain ⟨hrow5, hbw5⟩ := HR.out
        obtain ⟨_, hpn, _, _, hnx, hr, hf, ht1, htn, hlt, _, _, _⟩ := HQ.out
        have hqt := HQT.out
        exact ⟨⟨k + 1, qt, rfl, ⟨_, _, _, rfl⟩, ⟨hrow5, hnx, by omega, ⟨f, by omega, hr⟩, hbw5⟩⟩, by simp [intOf]; omega⟩
      · have he' : ((pe : Int) != 0) = true := bne_iff_ne.2 (by omega)
        rw [if_pos he] at hdrop
        obtain ⟨hk, hv, hr⟩ := drop_cons_getD (d := (0, 0, 0, 0)) hdrop
        have hgk := good_bad hkl hk (by rw [hv]; exact he)
        have HQ := hideP (And.intro hrow (And.intro hbw hgk))
        clear hrow hkl hpn hf hdrop hbw hB hL hlenL hn hB' hhead hok hI hk hv hr hlt H hgk
        go_wp2_with fail
        refine HH.out.mono ?_
        rintro e W1 ⟨rfl, hb1⟩
        have HB1 := hideP hb1
        clear hb1 HH
        go_wp2_with fail
        go_ret
        obtain ⟨hrow, hbw, hgk⟩ := HQ.out
        have hb2 : Below wr.heap.size wr (W1.alloc (.cells #[.int .i64 pl, .int .i64 pf, .int .i64 pt] 40)) := HB1.out.alloc HB1.out.size _
        refine ⟨⟨_, rfl, ?_⟩, hbw.trans (hb2.mono hbw.size)⟩
        rw [hgk]
        exact ⟨hrow.1, by
          rcases hrow.2 with h | ⟨g, cap, cur, e, hb, hg, rest⟩
          · exact Or.inl h
          · exact Or.inr ⟨g, cap, cur, e, hb, (hb2.block g (lt_of_block hg)).trans hg, rest⟩⟩
    · have hnil : pcs bs n f p = [] := by
        cases f with
        | zero => rfl
        | succ f => rw [pcs, if_neg hlt]
      rw [hnil] at hdrop
      have hkN : L.length ≤ k := by
        have := congrArg List.length hdrop
        rw [List.length_drop, List.length_nil] at this
        omega
      have g1 : ¬ ((p : Nat) : Int) < ((n : Nat) : Int) := by omega
      have hgl := good_le L
      have HQ := hideP (And.intro hrow (And.intro hbw (show good L = k by omega)))
      clear hrow hkl hpn hf hdrop hbw hB hL hlenL hn hI hnil hkN hgl H
      go_wp2_with fail
      go_ret
      obtain ⟨hrow, hbw, hgk⟩ := HQ.out
      exact ⟨⟨_, rfl, by rw [hgk]; exact hrow⟩, hbw⟩

end Go.Proofs.Ytigebmidfddbcaa
