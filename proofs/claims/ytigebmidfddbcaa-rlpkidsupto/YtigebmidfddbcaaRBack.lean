/-
  Encoding and decoding undo one another: the walk of RlpBack.
-/
import Derived.Test.YtigebmidfddbcaaCut
import Derived.Test.YtigebmidfddbcaaRSame
import Derived.Test.YtigebmidfddbcaaBackN
namespace Go.Proofs.Ytigebmidfddbcaa
open Go.RowKit Go.Shelf

set_option maxHeartbeats 8000000 in
set_option maxRecDepth 100000 in
theorem rlpBack_walk {ns : List Nd} {ao : Option Addr} {c : Nat} {mb : List Nat} {ma : Option Addr} {mc : Nat} (w : World)
    (h : NS w ns ao c) (hok : NdOk ns) (hlen : ns.length ≤ 3518437208884) (hbulk : ndBulk ns ≤ 1048576) (hm : BS w ma mb.length mc (lb mb)) (hml : mb.length ≤ 140737488355328) (hmk : mb.length ≤ 1048576) :
    Calls Try.prog 8 #[.slice ao ns.length c, .slice ma mb.length mc] w fun e w' => e = .returned (.bool true) ∧ Below w.heap.size w w' := by
  have HC := hideP (fun (W : World) (hb : Below w.heap.size w W) => lawItem_any W (h.moved hb) hok hlen)
  have hwt := treeOf_wt ns
  have HWT : Hid ((treeOf ns).wt ≤ 3145737) := hideP (by omega)
  have HF := hideP (treeOf_fits hok hlen)
  have HM := hideP hm
  have HML := hideP hml
  have HKM := hideP hmk
  clear h hok hlen hbulk hwt hm hml hmk
  generalize treeOf ns = t at *
  generalize ns.length = nn at *
  cases t with
  | node tl tb tk =>
  go_enter Try.func8, Try.ntmps8
  go_wp2_with fail
  refine (awake_any _).mono ?_
  rintro e W1 ⟨rfl, hb1⟩
  have H1 := hideP hb1
  clear hb1
  go_wp2_with fail
  refine (HC.out _ H1.out).mono ?_
  rintro e W2 ⟨⟨v2, rfl, hi2⟩, hb2⟩
  have hi2 := hi2.uncut
  obtain ⟨xa, xc, ka, kc, rfl, _, _, _⟩ := hi2.form
  have hb3 : Below W2.heap.size W2 (W2.alloc (.cells #[.int .i64 tl, .slice xa tb.length xc, .slice ka tk.length kc] 26)) := (Below.refl _ W2).alloc (Nat.le_refl _) _
  have hi3 := hi2.moved hb3
  have h02 := H1.out.trans (hb2.mono H1.out.size)
  have H3 := hideP (h02.trans (hb3.mono h02.size))
  have hx3 := heap_new W2 (.cells #[.int .i64 tl, .slice xa tb.length xc, .slice ka tk.length kc] 26)
  have HTW := hideP (twin_all _ _ _ _ (Nat.le_refl _) hi3 HF.out)
  have HI3 := hideP (And.intro hi3 hx3)
  obtain ⟨k0, k1, k2⟩ := cells3 hx3
  clear hi2 hb2 hb3 hi3 h02 hx3 HC H1
  generalize htb : tb.length = tbn at *
  generalize htk : tk.length = tkn at *
  have HTB := hideP (And.intro htb htk)
  clear htb htk
  go_wp2_with fail
  refine HTW.out.mono ?_
  rintro e W4 ⟨⟨v4, rfl, hi4⟩, hb4⟩
  have hi4 := hi4.uncut
  have HBYT := hideP hi4.by
  have HE := hideP (encode_any W4 hi4 (by have := HWT.out; omega) (by have := HWT.out; have := Tree.num_le (.node tl tb tk); omega))
  have H4 := hideP hb4
  clear hi4 hb4 HTW
  go_wp2_with fail
  refine HE.out.mono ?_
  rintro e W5 ⟨⟨r5, rfl, hr5⟩, hb5⟩
  have H35 := hideP (H4.out.trans (hb5.mono H4.out.size))
  generalize hme : ((Tree.node tl tb tk).meas 0).2 = me at *
  clear HE H4 hb5
  by_cases h0 : me = 0
  · subst h0
    obtain ⟨G, rfl, _, hg⟩ := hr5.ok hme
    have hwt := HWT.out
    have hel := Tree.enc_le (.node tl tb tk) (by omega)
    have hlt := lb_lt (Tree.enc_by _ HBYT.out (by omega))
    have hBe : BS W5 (some ⟨G, 0, none⟩) (Tree.node tl tb tk).enc.length (Tree.node tl tb tk).enc.length (lb (Tree.node tl tb tk).enc) := BS.cbs hlt (by unfold maxLen; omega) hg
    have hD := decode_any W5 hBe (by omega)
    rw [dec_form hme (by omega) (At.lb _) (Nat.le_refl _), if_neg (Nat.lt_irrefl _)] at hD
    have HD := hideP hD
    clear hr5 hg hwt hel hlt hBe hD
    generalize (Tree.node tl tb tk).enc.length = en at *
    go_wp2_with fail
    refine HD.out.mono ?_
    rintro e W6 ⟨⟨v6, rfl, hi6⟩, hb6⟩
    have hi6 := hi6.uncut
    obtain ⟨ua, uc, uka, ukc, rfl, _, _, _⟩ := hi6.form
    rw [HTB.out.1, HTB.out.2] at hi6 ⊢
    have hb36 := H35.out.trans (hb6.mono H35.out.size)
    have hb7 : Below W6.heap.size W6 (W6.alloc (.cells #[.int .i64 tl, .slice ua tbn uc, .slice uka tkn ukc] 26)) := (Below.refl _ W6).alloc (Nat.le_refl _) _
    have hb37 := hb36.trans (hb7.mono hb36.size)
    have hx7 := (hb37.block _ (lt_of_block HI3.out.2)).trans HI3.out.2
    have hy7 := heap_new W6 (.cells #[.int .i64 tl, .slice ua tbn uc, .slice uka tkn ukc] 26)
    obtain ⟨j0, j1, j2⟩ := cells3 hx7
    obtain ⟨m0, m1, m2⟩ := cells3 hy7
    have HS := hideP (refSame_all _ _ _ _ _ _ (Nat.le_refl _) (HI3.out.1.moved hb37) (hi6.moved hb7))
    have H7 := hideP (H3.out.trans (hb37.mono H3.out.size))
    clear hi6 hb6 hb36 hb7 hb37 hx7 hy7 HD H35
    go_wp2_with fail
    refine HS.out.mono ?_
    rintro e W8 ⟨⟨r, rfl, hr⟩, hb8⟩
    have hrt := hr.2 (by first | rfl | trivial)
    subst hrt
    have H9 := hideP (H7.out.trans (hb8.mono H7.out.size))
    clear hr hb8 HS H7 j0 j1 j2 m0 m1 m2 k0 k1 k2 hme
    go_wp2_with fail
    have hBb := HM.out.moved H9.out
    have HBY := hideP (lawBytes_any HML.out _ hBb)
    clear hBb
    go_wp2_with fail
    refine HBY.out.mono ?_
    rintro e W10 ⟨⟨v10, rfl, hO10⟩, hb10⟩
    obtain ⟨a10, c10, rfl, hB10, _⟩ := hO10.ex
    have hlt := hB10.lt
    have hD := decode_any W10 hB10 HML.out
    have hback := dec_back (n := mb.length) hlt
    have hnone := dec_none (bs := lb mb) (n := mb.length)
    have H10 := hideP (H9.out.trans (hb10.mono H9.out.size))
    generalize dec (lb mb) mb.length = dd at *
    obtain ⟨dt, de⟩ := dd
    dsimp only at hD hback hnone
    have HD := hideP hD
    have HBK := hideP (And.intro hback (And.intro hnone hlt))
    clear hO10 hB10 hD hback hnone hlt hb10 HBY H9
    generalize hml : mb.length = ml at *
    have HMB := hideP hml
    clear hml
    go_wp2_with fail
    refine HD.out.mono ?_
    rintro e W11 ⟨⟨v11, rfl, hi11⟩, hb11⟩
    have hi11 := hi11.uncut
    cases dt with
    | node yl yb yk =>
    have HI11 := hideP hi11
    obtain ⟨ya, yc, yka, ykc, rfl, _, _, _⟩ := hi11.form
    have hb12 : Below W11.heap.size W11 (W11.alloc (.cells #[.int .i64 yl, .slice ya yb.length yc, .slice yka yk.length ykc] 26)) := (Below.refl _ W11).alloc (Nat.le_refl _) _
    have h011 := H10.out.trans (hb11.mono H10.out.size)
    have H12 := hideP (h011.trans (hb12.mono h011.size))
    have hi12 := hi11.moved hb12
    have hx12 := heap_new W11 (.cells #[.int .i64 yl, .slice ya yb.length yc, .slice yka yk.length ykc] 26)
    obtain ⟨k0, k1, k2⟩ := cells3 hx12
    by_cases hde : de = 0
    · subst hde
      obtain ⟨q1, q2, q3⟩ := HBK.out.1 (by first | rfl | trivial)
      have hE := encode_any _ hi12 (by have := HKM.out; have := HMB.out; omega) (by have := HKM.out; have := HMB.out; have := Tree.num_le (.node yl yb yk); omega)
      rw [q2] at hE
      have HE := hideP hE
      have HQ := hideP (And.intro q1 q2)
      clear hi11 hb11 hb12 h011 hi12 hx12 hE q1 q2 q3 HD H10 HI11
      generalize hyb : yb.length = ybn at *
      generalize hyk : yk.length = ykn at *
      clear hyb hyk
      go_wp2_with fail
      refine HE.out.mono ?_
      rintro e W13 ⟨⟨r13, rfl, hr13⟩, hb13⟩
      obtain ⟨G, rfl, _, hg⟩ := hr13.ok HQ.out.2
      have hlen : (Tree.node yl yb yk).enc.length = ml := by rw [HQ.out.1, pay_length]
      have hlbe : ∀ j, j < ml → lb (Tree.node yl yb yk).enc j = lb mb j := fun j hj => by rw [HQ.out.1, lb_pay hj]
      rw [hlen] at hg ⊢
      have hBG : BS W13 (some ⟨G, 0, none⟩) ml ml (lb mb) := BS.cbs HBK.out.2.2 (by unfold maxLen; have := HKM.out; have := HMB.out; omega) (by rw [hg]; exact congrArg (fun x => some (Obj.cells x 5 (0, 0))) (cbs_congr hlbe))
      have h013 := H12.out.trans (hb13.mono H12.out.size)
      have hs1 := conv_BS hBG
      have hs2 := conv_BS (HM.out.moved h013)
      have H13 := hideP h013
      clear hr13 hb13 hg hlen hlbe hBG h013 HE HQ H12
      go_wp2_with fail
      go_ret
      exact ⟨rfl, H13.out⟩
    · have hde' : ¬ (de : Int) = 0 := by omega
      have hz := HBK.out.2.1 hde
      have HS := hideP (refSame_all _ _ _ _ _ _ (Nat.le_refl _) hi12 (isItem_zero _))
      clear hi11 hb11 hb12 h011 hi12 hx12 HD H10 HI11
      generalize hyb : yb.length = ybn at *
      generalize hyk : yk.length = ykn at *
      clear hyb hyk
      have HZ := hideP hz
      clear hz
      go_wp2_with fail
      refine HS.out.mono ?_
      rintro e W13 ⟨⟨r, rfl, hr⟩, hb13⟩
      have H13 := hideP (H12.out.trans (hb13.mono H12.out.size))
      have hrt := hr.2 HZ.out
      subst hrt
      clear hr hb13 HS
      go_wp2_with fail
      go_ret
      exact ⟨rfl, H13.out⟩
  · have h0' : ¬ (me : Int) = 0 := by omega
    have H9 := hideP (H3.out.trans (H35.out.mono H3.out.size))
    clear hr5 H35 hme k0 k1 k2
    go_wp2_with fail
    have hBb := HM.out.moved H9.out
    have HBY := hideP (lawBytes_any HML.out _ hBb)
    clear hBb
    go_wp2_with fail
    refine HBY.out.mono ?_
    rintro e W10 ⟨⟨v10, rfl, hO10⟩, hb10⟩
    obtain ⟨a10, c10, rfl, hB10, _⟩ := hO10.ex
    have hlt := hB10.lt
    have hD := decode_any W10 hB10 HML.out
    have hback := dec_back (n := mb.length) hlt
    have hnone := dec_none (bs := lb mb) (n := mb.length)
    have H10 := hideP (H9.out.trans (hb10.mono H9.out.size))
    generalize dec (lb mb) mb.length = dd at *
    obtain ⟨dt, de⟩ := dd
    dsimp only at hD hback hnone
    have HD := hideP hD
    have HBK := hideP (And.intro hback (And.intro hnone hlt))
    clear hO10 hB10 hD hback hnone hlt hb10 HBY H9
    generalize hml : mb.length = ml at *
    have HMB := hideP hml
    clear hml
    go_wp2_with fail
    refine HD.out.mono ?_
    rintro e W11 ⟨⟨v11, rfl, hi11⟩, hb11⟩
    have hi11 := hi11.uncut
    cases dt with
    | node yl yb yk =>
    have HI11 := hideP hi11
    obtain ⟨ya, yc, yka, ykc, rfl, _, _, _⟩ := hi11.form
    have hb12 : Below W11.heap.size W11 (W11.alloc (.cells #[.int .i64 yl, .slice ya yb.length yc, .slice yka yk.length ykc] 26)) := (Below.refl _ W11).alloc (Nat.le_refl _) _
    have h011 := H10.out.trans (hb11.mono H10.out.size)
    have H12 := hideP (h011.trans (hb12.mono h011.size))
    have hi12 := hi11.moved hb12
    have hx12 := heap_new W11 (.cells #[.int .i64 yl, .slice ya yb.length yc, .slice yka yk.length ykc] 26)
    obtain ⟨k0, k1, k2⟩ := cells3 hx12
    by_cases hde : de = 0
    · subst hde
      obtain ⟨q1, q2, q3⟩ := HBK.out.1 (by first | rfl | trivial)
      have hE := encode_any _ hi12 (by have := HKM.out; have := HMB.out; omega) (by have := HKM.out; have := HMB.out; have := Tree.num_le (.node yl yb yk); omega)
      rw [q2] at hE
      have HE := hideP hE
      have HQ := hideP (And.intro q1 q2)
      clear hi11 hb11 hb12 h011 hi12 hx12 hE q1 q2 q3 HD H10 HI11
      generalize hyb : yb.length = ybn at *
      generalize hyk : yk.length = ykn at *
      clear hyb hyk
      go_wp2_with fail
      refine HE.out.mono ?_
      rintro e W13 ⟨⟨r13, rfl, hr13⟩, hb13⟩
      obtain ⟨G, rfl, _, hg⟩ := hr13.ok HQ.out.2
      have hlen : (Tree.node yl yb yk).enc.length = ml := by rw [HQ.out.1, pay_length]
      have hlbe : ∀ j, j < ml → lb (Tree.node yl yb yk).enc j = lb mb j := fun j hj => by rw [HQ.out.1, lb_pay hj]
      rw [hlen] at hg ⊢
      have hBG : BS W13 (some ⟨G, 0, none⟩) ml ml (lb mb) := BS.cbs HBK.out.2.2 (by unfold maxLen; have := HKM.out; have := HMB.out; omega) (by rw [hg]; exact congrArg (fun x => some (Obj.cells x 5 (0, 0))) (cbs_congr hlbe))
      have h013 := H12.out.trans (hb13.mono H12.out.size)
      have hs1 := conv_BS hBG
      have hs2 := conv_BS (HM.out.moved h013)
      have H13 := hideP h013
      clear hr13 hb13 hg hlen hlbe hBG h013 HE HQ H12
      go_wp2_with fail
      go_ret
      exact ⟨rfl, H13.out⟩
    · have hde' : ¬ (de : Int) = 0 := by omega
      have hz := HBK.out.2.1 hde
      have HS := hideP (refSame_all _ _ _ _ _ _ (Nat.le_refl _) hi12 (isItem_zero _))
      clear hi11 hb11 hb12 h011 hi12 hx12 HD H10 HI11
      generalize hyb : yb.length = ybn at *
      generalize hyk : yk.length = ykn at *
      clear hyb hyk
      have HZ := hideP hz
      clear hz
      go_wp2_with fail
      refine HS.out.mono ?_
      rintro e W13 ⟨⟨r, rfl, hr⟩, hb13⟩
      have H13 := hideP (H12.out.trans (hb13.mono H12.out.size))
      have hrt := hr.2 HZ.out
      subst hrt
      clear hr hb13 HS
      go_wp2_with fail
      go_ret
      exact ⟨rfl, H13.out⟩

end Go.Proofs.Ytigebmidfddbcaa
