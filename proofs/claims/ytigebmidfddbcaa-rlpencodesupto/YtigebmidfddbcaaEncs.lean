/-
  Encoding, as the document says it: the walk of RlpEncodes.
-/
import Derived.Test.YtigebmidfddbcaaRForm
import Derived.Test.YtigebmidfddbcaaTwinI
import Derived.Test.YtigebmidfddbcaaOne
namespace Go.Proofs.Ytigebmidfddbcaa
open Go.RowKit Go.Shelf

/-- The form, or nothing. -/
def Tree.out (t : Tree) : List Nat := if (t.meas 0).2 = 0 then t.enc else []

set_option maxHeartbeats 4000000 in
set_option maxRecDepth 100000 in
theorem refEncode_any {t : Tree} {v : Value} (w : World) (hI : IsItem w t v) (hW : t.wt ≤ 1099511627776) :
    Calls Try.prog 17 #[v] w fun e w' => (∃ r, e = .returned (.tuple #[r, .int .i64 (t.meas 0).2]) ∧ OwnL w.heap.size w' r t.out) ∧ Below w.heap.size w w' := by
  have hck := fun (W : World) (hb : Below w.heap.size w W) => refCheck_all t.num t v 0 W (Nat.le_refl _) (by omega) (hI.moved hb)
  have hfm := fun (W : World) (hb : Below w.heap.size w W) (h0 : (t.meas 0).2 = 0) => refForm_all t.num t v 0 W (Nat.le_refl _) h0 hW (hI.moved hb)
  have hout : t.out = if (t.meas 0).2 = 0 then t.enc else [] := rfl
  generalize t.out = L at *
  generalize (t.meas 0).2 = me at *
  generalize t.enc = te at *
  cases t with
  | node l b k =>
  obtain ⟨xa, xc, ka, kc, rfl, _, _, _⟩ := hI.form
  generalize b.length = nb at *
  generalize k.length = nk at *
  have hb0 : Below w.heap.size w (w.alloc (.cells #[.int .i64 l, .slice xa nb xc, .slice ka nk kc] 26)) := (Below.refl _ w).alloc (Nat.le_refl _) _
  have hx0 := heap_new w (.cells #[.int .i64 l, .slice xa nb xc, .slice ka nk kc] 26)
  have HC := hideP (hck _ hb0)
  have HF := hideP hfm
  have H0 := hideP (And.intro hb0 hx0)
  have HO := hideP hout
  clear hck hfm hb0 hx0 hout hI hW
  go_enter Try.func17, Try.ntmps17
  go_wp2_with fail
  refine HC.out.mono ?_
  rintro e W2 ⟨rfl, hb2⟩
  have hb02 := H0.out.1.trans (hb2.mono H0.out.1.size)
  have hx2 := (hb2.block _ (lt_of_block H0.out.2)).trans H0.out.2
  obtain ⟨c0, c1, c2⟩ := cells3 hx2
  by_cases hm : me = 0
  · subst hm
    have HC2 := hideP (HF.out W2 hb02 (by first | rfl | trivial))
    have H2 := hideP hb02
    clear hb2 hb02 hx2 HC H0 HF
    go_wp2_with fail
    refine HC2.out.mono ?_
    rintro e W3 ⟨⟨v', rfl, hO3⟩, hb3⟩
    have hL : L = te := by have := HO.out; simpa using this
    have HE : Hid (OwnL w.heap.size W3 v' L ∧ Below w.heap.size w W3) := hideP ⟨by rw [hL]; exact hO3.lower H2.out.size, H2.out.trans (hb3.mono H2.out.size)⟩
    clear hL hO3 hb3 HC2 H2 HO c0 c1 c2
    go_wp2_with fail
    go_ret2
    exact ⟨⟨_, rfl, HE.out.1⟩, HE.out.2⟩
  · have hm' : ¬ (me : Int) = 0 := by omega
    have hL := HO.out
    rw [if_neg hm] at hL
    have HE : Hid (OwnL w.heap.size W2 (.slice none 0 0) L ∧ Below w.heap.size w W2) := hideP ⟨by rw [hL]; exact OwnL.nil _ _, hb02⟩
    clear hL hb2 hb02 hx2 HC H0 HF HO hm c0 c1 c2
    go_wp2_with fail
    go_ret2
    exact ⟨⟨_, rfl, HE.out.1⟩, HE.out.2⟩

theorem meas_out (t : Tree) : (t.meas 0).1 = t.out.length := by
  unfold Tree.out
  by_cases h : (t.meas 0).2 = 0
  · rw [if_pos h]
    exact Tree.meas_enc t 0 h
  · rw [if_neg h]
    cases t with
    | node l b k =>
    unfold Tree.meas at h ⊢
    by_cases h1 : chk l b.length k.length 0 ≠ 0
    · rw [if_pos h1]; rfl
    · rw [if_neg h1] at h ⊢
      by_cases h2 : b.length = 1 ∧ lb b 0 < 128
      · rw [if_pos h2] at h; exact absurd rfl h
      · rw [if_neg h2] at h ⊢
        by_cases h3 : (Tree.measK k (0 + 1) b.length).2 ≠ 0
        · rw [if_pos h3]; rfl
        · rw [if_neg h3] at h; exact absurd rfl h

theorem EncOut.out {N : Nat} {w' : World} {t : Tree} {r : Value} (h : EncOut N w' t r) (hby : t.by) (hw : t.wt ≤ 1099511627776) : ∃ a c, r = .slice a t.out.length c ∧ BS w' a t.out.length c (lb t.out) := by
  unfold Tree.out
  rcases h with ⟨h0, rfl⟩ | ⟨h0, G, rfl, _, hg⟩
  · rw [if_neg h0]
    exact ⟨none, 0, rfl, BS.empty _ _ _ (fun j => by simp [lb])⟩
  · rw [if_pos h0]
    have hel := Tree.enc_le t (by omega)
    exact ⟨_, _, rfl, BS.cbs (lb_lt (Tree.enc_by t hby hw)) (by unfold maxLen; omega) hg⟩

theorem out_by {t : Tree} (hby : t.by) (hw : t.wt ≤ 1099511627776) : ∀ j, lb t.out j < 256 := by
  unfold Tree.out
  by_cases h0 : (t.meas 0).2 = 0
  · rw [if_pos h0]; exact lb_lt (Tree.enc_by t hby hw)
  · rw [if_neg h0]; intro j; simp [lb]

set_option maxHeartbeats 8000000 in
set_option maxRecDepth 100000 in
theorem rlpEncodes_walk {ns : List Nd} {ao : Option Addr} {c : Nat} (w : World)
    (h : NS w ns ao c) (hok : NdOk ns) (hlen : ns.length ≤ 3518437208884) (hbulk : ndBulk ns ≤ 1048576) :
    Calls Try.prog 3 #[.slice ao ns.length c] w fun e w' => e = .returned (.bool true) ∧ Below w.heap.size w w' := by
  have HC := hideP (lawItem_any w h hok hlen)
  have HFT := hideP (treeOf_fits hok hlen)
  have hwt := treeOf_wt ns
  have hwt2 : (treeOf ns).wt ≤ 3145737 := by omega
  have HWT := hideP hwt2
  clear h hok hlen hbulk hwt hwt2
  generalize treeOf ns = t at *
  generalize ns.length = nn at *
  go_enter Try.func3, Try.ntmps3
  go_wp2_with fail
  refine HC.out.mono ?_
  rintro e W1 ⟨⟨v1, rfl, hi1⟩, hb1⟩
  have hi1 := hi1.uncut
  have HBY := hideP hi1.by
  have hmo := meas_out t
  have hout := out_by hi1.by (by have := HWT.out; omega)
  obtain ⟨T, hT⟩ : ∃ T, T = t := ⟨_, rfl⟩
  cases t with
  | node l b k =>
  obtain ⟨xa, xc, ka, kc, rfl, _, _, _⟩ := hi1.form
  rw [← hT] at hi1 HFT HWT HBY hmo hout
  have HT := hideP hT
  generalize hnb : b.length = nb at *
  generalize hnk : k.length = nk at *
  have hb1a : Below W1.heap.size W1 (W1.alloc (.cells #[.int .i64 l, .slice xa nb xc, .slice ka nk kc] 26)) := (Below.refl _ _).alloc (Nat.le_refl _) _
  have hX1 := heap_new W1 (.cells #[.int .i64 l, .slice xa nb xc, .slice ka nk kc] 26)
  have hb01 := hb1.trans (hb1a.mono hb1.size)
  have hi1a := hi1.moved hb1a
  have HTW := hideP (twin_all _ _ _ _ (Nat.le_refl _) hi1a HFT.out)
  have H1 := hideP (And.intro hb01 (And.intro hX1 hi1a))
  obtain ⟨c0, c1, c2⟩ := cells3 hX1
  clear hb1 hb1a hX1 hb01 hi1a hi1 HC hT
  go_wp2_with fail
  refine HTW.out.mono ?_
  rintro e W2 ⟨⟨v2, rfl, hi2⟩, hb2⟩
  have hi2 := hi2.uncut
  rw [HT.out] at hi2
  obtain ⟨ya, yc, la, lc, rfl, _, _, _⟩ := hi2.form
  rw [← HT.out] at hi2
  rw [hnb, hnk] at hi2 ⊢
  obtain ⟨hb01, hX1, hi1a⟩ := H1.out
  have hs1 := hb01.size
  have hs2 := hb2.size
  have hb2a : Below W2.heap.size W2 (W2.alloc (.cells #[.int .i64 l, .slice ya nb yc, .slice la nk lc] 26)) := (Below.refl _ _).alloc (Nat.le_refl _) _
  have hb12 := hb2.trans (hb2a.mono hb2.size)
  have hX2 := (hb12.block _ (lt_of_block hX1)).trans hX1
  have hY2 := heap_new W2 (.cells #[.int .i64 l, .slice ya nb yc, .slice la nk lc] 26)
  have hix2 := hi1a.moved hb12
  have hiy2 := hi2.moved hb2a
  have hb02 := hb01.trans (hb12.mono hb01.size)
  have hnum := Tree.num_le T
  have HE := hideP (encode_any _ hiy2 (by have := HWT.out; omega) (by have := HWT.out; omega))
  have H2 := hideP (And.intro hb02 (And.intro hX2 (And.intro hY2 (And.intro hix2 hiy2))))
  obtain ⟨d0, d1, d2⟩ := cells3 hY2
  clear hi2 hb01 hX1 hi1a hs1 hs2 hb2a hb12 hX2 hY2 hix2 hiy2 hb02 hb2 HTW H1 c0 c1 c2 hnum
  go_wp2_with fail
  refine HE.out.mono ?_
  rintro e W3 ⟨⟨r3, rfl, hr3⟩, hb3⟩
  obtain ⟨a3, c3, rfl, hB3⟩ := hr3.out HBY.out (by have := HWT.out; omega)
  obtain ⟨hb02, hX2, hY2, hix2, hiy2⟩ := H2.out
  have hX3 := (hb3.block _ (lt_of_block hX2)).trans hX2
  have hY3 := (hb3.block _ (lt_of_block hY2)).trans hY2
  have hix3 := hix2.moved hb3
  have hiy3 := hiy2.moved hb3
  have hb03 := hb02.trans (hb3.mono hb02.size)
  have HTW := hideP (twin_all _ _ _ _ (Nat.le_refl _) hix3 HFT.out)
  have H3 := hideP (And.intro hb03 (And.intro hX3 (And.intro hY3 (And.intro hix3 (And.intro hiy3 hB3)))))
  obtain ⟨c0, c1, c2⟩ := cells3 hX3
  clear hb02 hX2 hY2 hix2 hiy2 hb3 hr3 hB3 hX3 hY3 hix3 hiy3 hb03 H2 HE d0 d1 d2
  go_wp2_with fail
  refine HTW.out.mono ?_
  rintro e W4 ⟨⟨v4, rfl, hi4⟩, hb4⟩
  have hi4 := hi4.uncut
  have hnum := Tree.num_le T
  have HS := hideP (size_any W4 hi4 (by have := HWT.out; omega) (by have := HWT.out; omega))
  rw [hmo] at HS
  have H4 := hideP hb4
  clear hi4 hb4 hnum HTW c0 c1 c2
  go_wp2_with fail
  refine HS.out.mono ?_
  rintro e W5 ⟨rfl, hb5⟩
  have hb35 := H4.out.trans (hb5.mono H4.out.size)
  obtain ⟨hb03, hX3, hY3, hix3, hiy3, hB3⟩ := H3.out
  have hX5 := (hb35.block _ (lt_of_block hX3)).trans hX3
  have hY5 := (hb35.block _ (lt_of_block hY3)).trans hY3
  have hix5 := hix3.moved hb35
  have hiy5 := hiy3.moved hb35
  have hB5 := hB3.moved hb35
  have hb05 := hb03.trans (hb35.mono hb03.size)
  have HRE := hideP (refEncode_any W5 hix5 (by have := HWT.out; omega))
  have H5 := hideP (And.intro hb05 (And.intro hX5 (And.intro hY5 (And.intro hix5 (And.intro hiy5 hB5)))))
  obtain ⟨c0, c1, c2⟩ := cells3 hX5
  clear hb5 hb35 hb03 hX3 hY3 hix3 hiy3 hB3 hX5 hY5 hix5 hiy5 hB5 hb05 H3 H4 HS
  go_wp2_with fail
  refine HRE.out.mono ?_
  rintro e W6 ⟨⟨r6, rfl, hr6⟩, hb6⟩
  obtain ⟨a6, c6, rfl, hB6⟩ := row_BS hout hr6
  obtain ⟨hb05, hX5, hY5, hix5, hiy5, hB5⟩ := H5.out
  have hX6 := (hb6.block _ (lt_of_block hX5)).trans hX5
  have hY6 := (hb6.block _ (lt_of_block hY5)).trans hY5
  have HS := hideP (refSame_all _ _ _ _ _ W6 (Nat.le_refl _) (hiy5.moved hb6) (hix5.moved hb6))
  have hb06 := hb05.trans (hb6.mono hb05.size)
  have H6 := hideP (And.intro hb06 (And.intro (hB5.moved hb6) hB6))
  obtain ⟨x0, x1, x2⟩ := cells3 hX6
  obtain ⟨y0, y1, y2⟩ := cells3 hY6
  clear hr6 hb6 hB6 hb05 hX5 hY5 hix5 hiy5 hB5 hX6 hY6 hb06 H5 HRE c0 c1 c2 hout hmo
  generalize hLn : T.out.length = Ln at *
  generalize hLb : lb T.out = Lb at *
  generalize hme : (T.meas 0).2 = me at *
  clear hLn hLb hme
  go_wp2_with fail
  refine HS.out.mono ?_
  rintro e W7 ⟨⟨r, rfl, hr⟩, hb7⟩
  have hrt : r = true := hr.2 (by first | rfl | trivial)
  subst hrt
  obtain ⟨hb06, hB5, hB6⟩ := H6.out
  have hs1 := conv_BS (hB5.moved hb7)
  have hs2 := conv_BS (hB6.moved hb7)
  have H7 := hideP (hb06.trans (hb7.mono hb06.size))
  clear hr hb7 hb06 hB5 hB6 H6 HS x0 x1 x2 y0 y1 y2
  generalize strB Lb Ln = so at *
  go_wp2_with fail
  refine (awake_any _).mono ?_
  rintro e W8 ⟨rfl, hb8⟩
  have H8 := hideP (H7.out.trans (hb8.mono H7.out.size))
  clear hb8 H7 hs1 hs2
  go_wp2_with fail
  go_ret
  exact ⟨rfl, H8.out⟩

end Go.Proofs.Ytigebmidfddbcaa
