/-
  Envelopes, and items that are alike: the walk of RlpOpens.
-/
import Derived.Test.YtigebmidfddbcaaOpn
namespace Go.Proofs.Ytigebmidfddbcaa
open Go.RowKit Go.Shelf

/-- A step that appends, its run known, where its guard lets it. -/
theorem step_appendG {ops : Array Oper} {o : Oper} {a : Act} {w : World} {K : Act → World → Prop} {Q : Exit → Act → World → Prop} {E : Prop} (hw : Region.wanted o (yielded ops a.tmps) = true) (s x : Operand) (t : TypeId)
    (ho : o.op = .call { callee := .builtin .append, args := #[s, x], argTypes := #[t, t] }) {ty : TypeId} (hty : o.type = ty) {dd : Nat} (hdd : o.dst = some dd) {vs vx v' : Value} {w' : World} (hs : a.eval s = vs) (hx : a.eval x = vx)
    (hrun : (Builtin.append_ #[t, t] ty #[vs, vx]).run Try.prog w = .ok v' w') (h : K (a.put (some dd) v') w') :
    if Region.wanted o (yielded ops a.tmps) = true then Oper.wp Try.prog o a w K Q else E := by
  rw [if_pos hw]
  unfold Oper.wp
  rw [← hdd] at h
  subst hty
  simp [execOp, ho, resolve, invoke, builtin, hs, hx, hrun]
  exact h

set_option maxHeartbeats 16000000 in
set_option maxRecDepth 100000 in
theorem rlpOpens_walk (k : Nat) (hk : k < 256) {b : List Nat} {ba : Option Addr} {bc : Nat} {ns1 : List Nd} {ao1 : Option Addr} {c1 : Nat} {ns2 : List Nd} {ao2 : Option Addr} {c2 : Nat} (w : World)
    (hb : BS w ba b.length bc (lb b)) (hbl : b.length ≤ 140737488355328)
    (h1 : NS w ns1 ao1 c1) (hok1 : NdOk ns1) (hlen1 : ns1.length ≤ 3518437208884) (h2 : NS w ns2 ao2 c2) (hok2 : NdOk ns2) (hlen2 : ns2.length ≤ 3518437208884) :
    Calls Try.prog 7 #[.int .u8 k, .slice ba b.length bc, .slice ao1 ns1.length c1, .slice ao2 ns2.length c2] w fun e w' => e = .returned (.bool true) ∧ Below w.heap.size w w' := by
  have HC1 := hideP (fun (W : World) (hb : Below w.heap.size w W) => lawItem_any W (h1.moved hb) hok1 hlen1)
  have HC2 := hideP (fun (W : World) (hb : Below w.heap.size w W) => lawItem_any W (h2.moved hb) hok2 hlen2)
  have HB := hideP hb
  have HBL := hideP hbl
  have HKK := hideP hk
  have HOPF := hideP (fun (W : World) (ao : Option Addr) (c : Nat) (h : BS W ao b.length c (lb b)) => open_any hbl W h)
  have HROF := hideP (fun (W : World) (ao : Option Addr) (c : Nat) (h : BS W ao b.length c (lb b)) => refOpen_any hbl W h)
  clear h1 h2 hok1 hok2 hlen1 hlen2 hb hbl hk
  generalize treeOf ns1 = t1 at *
  generalize treeOf ns2 = t2 at *
  generalize ns1.length = nn1 at *
  generalize ns2.length = nn2 at *
  generalize hbn : b.length = bn at *
  go_enter Try.func7, Try.ntmps7
  go_wp2_with fail
  refine (lawBytes_any HBL.out _ HB.out).mono ?_
  rintro e W1 ⟨⟨v1, rfl, hO1⟩, hb1⟩
  obtain ⟨a1, c1', rfl, hB1, _⟩ := hO1.ex
  have HEV := hideP (envelope_any HKK.out (b := b) (by rw [hbn]; exact HBL.out) W1 (by rw [hbn]; exact hB1))
  rw [hbn] at HEV
  have H1 := hideP hb1
  clear hO1 hB1 hb1
  go_wp2_with fail
  refine HEV.out.mono ?_
  rintro e W2 ⟨hev, hb2⟩
  have H2 := hideP (H1.out.trans (hb2.mono H1.out.size))
  clear hb2 H1 HEV
  rcases hev with ⟨hk128, rfl⟩ | ⟨hk128, a2, c2', rfl, hB2⟩
  · have g1 : (k : Int) > 127 := by omega
    have g1' : (127 : Int) < (k : Int) := by omega
    have g2 : ¬ (k : Int) < 128 := by omega
    go_wp2_with fail
    rename_i Q1 K1 hK1
    have HK1 := hideP hK1
    clear hK1
    refine region_lateK [] (fun V => Below W2.heap.size W2 V) (by kernel_rfl) (Below.refl _ W2).drew (fun hS => ?_)
    refine anyZ_take (i := 0) (g := 5) (v := ?_) rfl (by kernel_rfl) (by kernel_rfl) (by kernel_rfl) (by kernel_rfl) (by kernel_rfl) (fun _ _ _ h => h) (Or.inl ⟨by kernel_rfl, ?_⟩) hS ?_
    rotate_left
    · intro V0 hV
      go_simp
      (try with_reducible rfl)
    simp only [put_list, List.set_cons_succ, List.set_cons_zero]
    refine anyZ_take (i := 1) (g := 5) (v := .bool true) rfl (by kernel_rfl) (by kernel_rfl) (by kernel_rfl) (by kernel_rfl) (by kernel_rfl) (fun _ _ _ h => h) (Or.inl ⟨by kernel_rfl, ?_⟩) hS ?_
    · intro V0 hV
      go_simp
      (try simp)
      (try omega)
    simp only [put_list, List.set_cons_succ, List.set_cons_zero]
    refine anyZ_take (i := 2) (g := 5) (v := ?_) rfl (by kernel_rfl) (by kernel_rfl) (by kernel_rfl) (by kernel_rfl) (by kernel_rfl) (fun _ _ _ h => h) (Or.inl ⟨by kernel_rfl, ?_⟩) hS ?_
    rotate_left
    · intro V0 hV
      go_simp
      (try with_reducible rfl)
    simp only [put_list, List.set_cons_succ, List.set_cons_zero]
    refine anyZ_take (i := 3) (g := 5) (v := ?_) rfl (by kernel_rfl) (by kernel_rfl) (by kernel_rfl) (by kernel_rfl) (by kernel_rfl) (fun _ _ _ h => h) (Or.inl ⟨by kernel_rfl, ?_⟩) hS ?_
    rotate_left
    · intro V0 hV
      go_simp
      (try with_reducible rfl)
    simp only [put_list, List.set_cons_succ, List.set_cons_zero]
    refine anyZ_take (i := 4) (g := 5) (v := ?_) rfl (by kernel_rfl) (by kernel_rfl) (by kernel_rfl) (by kernel_rfl) (by kernel_rfl) (fun _ _ _ h => h) (Or.inl ⟨by kernel_rfl, ?_⟩) hS ?_
    rotate_left
    · intro V0 hV
      go_simp
      (try with_reducible rfl)
    simp only [put_list, List.set_cons_succ, List.set_cons_zero]
    refine anyZ_take (i := 5) (g := 5) (v := ?_) rfl (by kernel_rfl) (by kernel_rfl) (by kernel_rfl) (by kernel_rfl) (by kernel_rfl) (fun _ _ _ h => h) (Or.inl ⟨by kernel_rfl, ?_⟩) hS ?_
    rotate_left
    · intro V0 hV
      go_simp
      (try with_reducible rfl)
    simp only [put_list, List.set_cons_succ, List.set_cons_zero]
    refine anyZ_take (i := 6) (g := 5) (v := ?_) rfl (by kernel_rfl) (by kernel_rfl) (by kernel_rfl) (by kernel_rfl) (by kernel_rfl) (fun _ _ _ h => h) (Or.inl ⟨by kernel_rfl, ?_⟩) hS ?_
    rotate_left
    · intro V0 hV
      go_simp
      (try with_reducible rfl)
    simp only [put_list, List.set_cons_succ, List.set_cons_zero]
    refine anyZ_take (i := 7) (g := 5) (v := ?_) rfl (by kernel_rfl) (by kernel_rfl) (by kernel_rfl) (by kernel_rfl) (by kernel_rfl) (fun _ _ _ h => h) (Or.inl ⟨by kernel_rfl, ?_⟩) hS ?_
    rotate_left
    · intro V0 hV
      go_simp
      (try with_reducible rfl)
    simp only [put_list, List.set_cons_succ, List.set_cons_zero]
    refine anyZ_take (i := 8) (g := 5) (v := ?_) rfl (by kernel_rfl) (by kernel_rfl) (by kernel_rfl) (by kernel_rfl) (by kernel_rfl) (fun _ _ _ h => h) (Or.inl ⟨by kernel_rfl, ?_⟩) hS ?_
    rotate_left
    · intro V0 hV
      go_simp
      (try with_reducible rfl)
    simp only [put_list, List.set_cons_succ, List.set_cons_zero]
    refine anyZ_take (i := 9) (g := 5) (v := ?_) rfl (by kernel_rfl) (by kernel_rfl) (by kernel_rfl) (by kernel_rfl) (by kernel_rfl) (fun _ _ _ h => h) (Or.inl ⟨by kernel_rfl, ?_⟩) hS ?_
    rotate_left
    · intro V0 hV
      go_simp
      (try with_reducible rfl)
    simp only [put_list, List.set_cons_succ, List.set_cons_zero]
    refine anyZ_take (i := 10) (g := 5) (v := ?_) rfl (by kernel_rfl) (by kernel_rfl) (by kernel_rfl) (by kernel_rfl) (by kernel_rfl) (fun _ _ _ h => h) (Or.inl ⟨by kernel_rfl, ?_⟩) hS ?_
    rotate_left
    · intro V0 hV
      go_simp
      (try with_reducible rfl)
    simp only [put_list, List.set_cons_succ, List.set_cons_zero]
    refine anyZ_take (i := 11) (g := 5) (v := ?_) rfl (by kernel_rfl) (by kernel_rfl) (by kernel_rfl) (by kernel_rfl) (by kernel_rfl) (fun _ _ _ h => h) (Or.inl ⟨by kernel_rfl, ?_⟩) hS ?_
    rotate_left
    · intro V0 hV
      go_simp
      (try with_reducible rfl)
    simp only [put_list, List.set_cons_succ, List.set_cons_zero]
    refine anyZ_take (i := 12) (g := 5) (v := ?_) rfl (by kernel_rfl) (by kernel_rfl) (by kernel_rfl) (by kernel_rfl) (by kernel_rfl) (fun _ _ _ h => h) (Or.inl ⟨by kernel_rfl, ?_⟩) hS ?_
    rotate_left
    · intro V0 hV
      go_simp
      (try with_reducible rfl)
    simp only [put_list, List.set_cons_succ, List.set_cons_zero]
    refine anyZ_take (i := 13) (g := 5) (v := .bool false) rfl (by kernel_rfl) (by kernel_rfl) (by kernel_rfl) (by kernel_rfl) (by kernel_rfl) (fun _ _ _ h => h) (Or.inl ⟨by kernel_rfl, ?_⟩) hS ?_
    · intro V0 hV
      go_simp
      (try simp)
      (try omega)
    simp only [put_list, List.set_cons_succ, List.set_cons_zero]
    refine anyZ_take (i := 14) (g := 5) (v := ?_) rfl (by kernel_rfl) (by kernel_rfl) (by kernel_rfl) (by kernel_rfl) (by kernel_rfl) (fun _ _ _ h => h) (Or.inl ⟨by kernel_rfl, ?_⟩) hS ?_
    rotate_left
    · intro V0 hV
      go_simp
      (try with_reducible rfl)
    simp only [put_list, List.set_cons_succ, List.set_cons_zero]
    refine anyZ_take (i := 15) (g := 5) (v := undef) rfl (by kernel_rfl) (by kernel_rfl) (by kernel_rfl) (by kernel_rfl) (by kernel_rfl) (fun _ _ _ h => h) (Or.inr ⟨by kernel_rfl, rfl⟩) hS ?_
    simp only [put_list, List.set_cons_succ, List.set_cons_zero]
    refine anyZ_take (i := 16) (g := 5) (v := undef) rfl (by kernel_rfl) (by kernel_rfl) (by kernel_rfl) (by kernel_rfl) (by kernel_rfl) (fun _ _ _ h => h) (Or.inr ⟨by kernel_rfl, rfl⟩) hS ?_
    simp only [put_list, List.set_cons_succ, List.set_cons_zero]
    refine anyZ_take (i := 17) (g := 5) (v := undef) rfl (by kernel_rfl) (by kernel_rfl) (by kernel_rfl) (by kernel_rfl) (by kernel_rfl) (fun _ _ _ h => h) (Or.inr ⟨by kernel_rfl, rfl⟩) hS ?_
    simp only [put_list, List.set_cons_succ, List.set_cons_zero]
    refine anyZ_take (i := 18) (g := 5) (v := undef) rfl (by kernel_rfl) (by kernel_rfl) (by kernel_rfl) (by kernel_rfl) (by kernel_rfl) (fun _ _ _ h => h) (Or.inr ⟨by kernel_rfl, rfl⟩) hS ?_
    simp only [put_list, List.set_cons_succ, List.set_cons_zero]
    refine anyZ_take (i := 19) (g := 5) (v := undef) rfl (by kernel_rfl) (by kernel_rfl) (by kernel_rfl) (by kernel_rfl) (by kernel_rfl) (fun _ _ _ h => h) (Or.inr ⟨by kernel_rfl, rfl⟩) hS ?_
    simp only [put_list, List.set_cons_succ, List.set_cons_zero]
    refine anyZ_take (i := 20) (g := 5) (v := undef) rfl (by kernel_rfl) (by kernel_rfl) (by kernel_rfl) (by kernel_rfl) (by kernel_rfl) (fun _ _ _ h => h) (Or.inr ⟨by kernel_rfl, rfl⟩) hS ?_
    simp only [put_list, List.set_cons_succ, List.set_cons_zero]
    refine anyZ_take (i := 21) (g := 5) (v := undef) rfl (by kernel_rfl) (by kernel_rfl) (by kernel_rfl) (by kernel_rfl) (by kernel_rfl) (fun _ _ _ h => h) (Or.inr ⟨by kernel_rfl, rfl⟩) hS ?_
    simp only [put_list, List.set_cons_succ, List.set_cons_zero]
    refine anyZ_take (i := 22) (g := 5) (v := undef) rfl (by kernel_rfl) (by kernel_rfl) (by kernel_rfl) (by kernel_rfl) (by kernel_rfl) (fun _ _ _ h => h) (Or.inr ⟨by kernel_rfl, rfl⟩) hS ?_
    simp only [put_list, List.set_cons_succ, List.set_cons_zero]
    refine anyZ_take (i := 23) (g := 5) (v := undef) rfl (by kernel_rfl) (by kernel_rfl) (by kernel_rfl) (by kernel_rfl) (by kernel_rfl) (fun _ _ _ h => h) (Or.inr ⟨by kernel_rfl, rfl⟩) hS ?_
    simp only [put_list, List.set_cons_succ, List.set_cons_zero]
    refine anyZ_take (i := 24) (g := 5) (v := undef) rfl (by kernel_rfl) (by kernel_rfl) (by kernel_rfl) (by kernel_rfl) (by kernel_rfl) (fun _ _ _ h => h) (Or.inr ⟨by kernel_rfl, rfl⟩) hS ?_
    simp only [put_list, List.set_cons_succ, List.set_cons_zero]
    refine anyZ_take (i := 25) (g := 5) (v := undef) rfl (by kernel_rfl) (by kernel_rfl) (by kernel_rfl) (by kernel_rfl) (by kernel_rfl) (fun _ _ _ h => h) (Or.inr ⟨by kernel_rfl, rfl⟩) hS ?_
    simp only [put_list, List.set_cons_succ, List.set_cons_zero]
    refine anyZ_take (i := 26) (g := 5) (v := undef) rfl (by kernel_rfl) (by kernel_rfl) (by kernel_rfl) (by kernel_rfl) (by kernel_rfl) (fun _ _ _ h => h) (Or.inr ⟨by kernel_rfl, rfl⟩) hS ?_
    simp only [put_list, List.set_cons_succ, List.set_cons_zero]
    refine anyZ_take (i := 27) (g := 5) (v := ?_) rfl (by kernel_rfl) (by kernel_rfl) (by kernel_rfl) (by kernel_rfl) (by kernel_rfl) (fun _ _ _ h => h) (Or.inl ⟨by kernel_rfl, ?_⟩) hS ?_
    rotate_left
    · intro V0 hV
      go_simp
      (try with_reducible rfl)
    simp only [put_list, List.set_cons_succ, List.set_cons_zero]
    refine anyZ_take (i := 28) (g := 5) (v := ?_) rfl (by kernel_rfl) (by kernel_rfl) (by kernel_rfl) (by kernel_rfl) (by kernel_rfl) (fun _ _ _ h => h) (Or.inl ⟨by kernel_rfl, ?_⟩) hS ?_
    rotate_left
    · intro V0 hV
      go_simp
      (try with_reducible rfl)
    simp only [put_list, List.set_cons_succ, List.set_cons_zero]
    refine anyZ_done (by kernel_rfl) ?_ _
    change K1 _ _
    refine HK1.out _ _ ?_
    have H3 := hideP (H2.out.trans (hS.mono H2.out.size))
    clear hS HK1 H2
    generalize W2.drew = W3 at *
    go_wp2_with fail
    have HBY2 := hideP (lawBytes_any HBL.out _ (HB.out.moved H3.out))
    go_wp2_with fail
    refine HBY2.out.mono ?_
    rintro e W4 ⟨⟨v4, rfl, hO4⟩, hb4⟩
    obtain ⟨a4, c4, rfl, hB4, _⟩ := hO4.ex
    have HOP := hideP (HOPF.out W4 _ _ hB4)
    have H4 := hideP (H3.out.trans (hb4.mono H3.out.size))
    clear hO4 hB4 hb4 HBY2 H3
    go_wp2_with fail
    refine HOP.out.mono ?_
    rintro e W5 ⟨⟨a5, c5, rfl, hB5⟩, hb5⟩
    have H5 := hideP (H4.out.trans (hb5.mono H4.out.size))
    have HRO := hideP (HROF.out W5 _ _ (HB.out.moved H5.out))
    have HB5 := hideP hB5
    clear hB5 hb5 HOP H4
    go_wp2_with fail
    refine HRO.out.mono ?_
    rintro e W6 ⟨⟨a6, c6, rfl, hB6⟩, hb6⟩
    have H6 := hideP (H5.out.trans (hb6.mono H5.out.size))
    have hs1 := conv_BS (HB5.out.moved hb6)
    have hs2 := conv_BS hB6
    clear hB6 hb6 HRO HB5 H5
    generalize strB (lb (opn b).2.1) (opn b).2.1.length = so at *
    generalize (opn b).1 = o1 at *
    generalize (opn b).2.2 = o3 at *
    generalize (opn b).2.1.length = o2 at *
    go_wp2_with fail
    refine (HC1.out _ H6.out).mono ?_
    rintro e W7 ⟨⟨v7, rfl, hi7⟩, hb7⟩
    have hi7 := hi7.uncut
    have H7 := hideP (H6.out.trans (hb7.mono H6.out.size))
    have HI7 := hideP hi7
    clear hi7 hb7 H6 hs1 hs2
    go_wp2_with fail
    refine (HC2.out _ H7.out).mono ?_
    rintro e W8 ⟨⟨v8, rfl, hi8⟩, hb8⟩
    have hi8 := hi8.uncut
    have H8 := hideP (H7.out.trans (hb8.mono H7.out.size))
    have HS := hideP (rlpSame_all _ _ _ _ _ _ (Nat.le_refl _) (HI7.out.moved hb8) hi8)
    clear hi8 hb8 H7 HI7
    go_wp2_with fail
    refine HS.out.mono ?_
    rintro e W9 ⟨⟨r, rfl, hr⟩, hb9⟩
    have H9 := hideP (H8.out.trans (hb9.mono H8.out.size))
    have HR := hideP hr
    clear hr hb9 H8 HS
    go_wp2_with fail
    refine (HC1.out _ H9.out).mono ?_
    rintro e W10 ⟨⟨v10, rfl, hi10⟩, hb10⟩
    have hi10 := hi10.uncut
    have H10 := hideP (H9.out.trans (hb10.mono H9.out.size))
    have HI10 := hideP hi10
    clear hi10 hb10 H9
    go_wp2_with fail
    refine (HC2.out _ H10.out).mono ?_
    rintro e W11 ⟨⟨v11, rfl, hi11⟩, hb11⟩
    have hi11 := hi11.uncut
    have H11 := hideP (H10.out.trans (hb11.mono H10.out.size))
    have HS := hideP (refSame_all _ _ _ _ _ _ (Nat.le_refl _) (HI10.out.moved hb11) hi11)
    clear hi11 hb11 H10 HI10
    go_wp2_with fail
    refine HS.out.mono ?_
    rintro e W12 ⟨⟨r', rfl, hr'⟩, hb12⟩
    have hrr : r = r' := by rw [Bool.eq_iff_iff]; exact HR.out.trans hr'.symm
    subst hrr
    have H12 := hideP (H11.out.trans (hb12.mono H11.out.size))
    clear hr' hb12 H11 HS HR
    go_wp2_with fail
    refine (awake_any _).mono ?_
    rintro e W13 ⟨rfl, hb13⟩
    have H13 := hideP (H12.out.trans (hb13.mono H12.out.size))
    clear hb13 H12
    go_wp2_with fail
    go_ret
    exact ⟨rfl, H13.out⟩
  · have g1 : ¬ (k : Int) > 127 := by omega
    have g1' : ¬ (127 : Int) < (k : Int) := by omega
    have g2 : (k : Int) < 128 := by omega
    have HB2 := hideP hB2
    clear hB2
    go_wp2_with fail
    rename_i Q1 K1 hK1
    have HK1 := hideP hK1
    clear hK1
    generalize hstr : strB (lb (k :: b)) (1 + bn) = sk at *
    have HST := hideP hstr
    clear hstr
    refine region_lateK [] (fun V => Below W2.heap.size W2 V) (by kernel_rfl) (Below.refl _ W2).drew (fun hS => ?_)
    refine anyZ_take (i := 0) (g := 5) (v := ?_) rfl (by kernel_rfl) (by kernel_rfl) (by kernel_rfl) (by kernel_rfl) (by kernel_rfl) (fun _ _ _ h => h) (Or.inl ⟨by kernel_rfl, ?_⟩) hS ?_
    rotate_left
    · intro V0 hV
      go_simp
      (try with_reducible rfl)
    simp only [put_list, List.set_cons_succ, List.set_cons_zero]
    refine anyZ_take (i := 1) (g := 5) (v := .bool false) rfl (by kernel_rfl) (by kernel_rfl) (by kernel_rfl) (by kernel_rfl) (by kernel_rfl) (fun _ _ _ h => h) (Or.inl ⟨by kernel_rfl, ?_⟩) hS ?_
    · intro V0 hV
      go_simp
      (try simp)
      (try omega)
    simp only [put_list, List.set_cons_succ, List.set_cons_zero]
    refine anyZ_take (i := 2) (g := 5) (v := ?_) rfl (by kernel_rfl) (by kernel_rfl) (by kernel_rfl) (by kernel_rfl) (by kernel_rfl) (fun _ _ _ h => h) (Or.inl ⟨by kernel_rfl, ?_⟩) hS ?_
    rotate_left
    · intro V0 hV
      go_simp
      (try with_reducible rfl)
    simp only [put_list, List.set_cons_succ, List.set_cons_zero]
    refine anyZ_take (i := 3) (g := 5) (v := undef) rfl (by kernel_rfl) (by kernel_rfl) (by kernel_rfl) (by kernel_rfl) (by kernel_rfl) (fun _ _ _ h => h) (Or.inr ⟨by kernel_rfl, rfl⟩) hS ?_
    simp only [put_list, List.set_cons_succ, List.set_cons_zero]
    refine anyZ_take (i := 4) (g := 5) (v := undef) rfl (by kernel_rfl) (by kernel_rfl) (by kernel_rfl) (by kernel_rfl) (by kernel_rfl) (fun _ _ _ h => h) (Or.inr ⟨by kernel_rfl, rfl⟩) hS ?_
    simp only [put_list, List.set_cons_succ, List.set_cons_zero]
    refine anyZ_take (i := 5) (g := 5) (v := undef) rfl (by kernel_rfl) (by kernel_rfl) (by kernel_rfl) (by kernel_rfl) (by kernel_rfl) (fun _ _ _ h => h) (Or.inr ⟨by kernel_rfl, rfl⟩) hS ?_
    simp only [put_list, List.set_cons_succ, List.set_cons_zero]
    refine anyZ_take (i := 6) (g := 5) (v := undef) rfl (by kernel_rfl) (by kernel_rfl) (by kernel_rfl) (by kernel_rfl) (by kernel_rfl) (fun _ _ _ h => h) (Or.inr ⟨by kernel_rfl, rfl⟩) hS ?_
    simp only [put_list, List.set_cons_succ, List.set_cons_zero]
    refine anyZ_take (i := 7) (g := 5) (v := undef) rfl (by kernel_rfl) (by kernel_rfl) (by kernel_rfl) (by kernel_rfl) (by kernel_rfl) (fun _ _ _ h => h) (Or.inr ⟨by kernel_rfl, rfl⟩) hS ?_
    simp only [put_list, List.set_cons_succ, List.set_cons_zero]
    refine anyZ_take (i := 8) (g := 5) (v := undef) rfl (by kernel_rfl) (by kernel_rfl) (by kernel_rfl) (by kernel_rfl) (by kernel_rfl) (fun _ _ _ h => h) (Or.inr ⟨by kernel_rfl, rfl⟩) hS ?_
    simp only [put_list, List.set_cons_succ, List.set_cons_zero]
    refine anyZ_take (i := 9) (g := 5) (v := undef) rfl (by kernel_rfl) (by kernel_rfl) (by kernel_rfl) (by kernel_rfl) (by kernel_rfl) (fun _ _ _ h => h) (Or.inr ⟨by kernel_rfl, rfl⟩) hS ?_
    simp only [put_list, List.set_cons_succ, List.set_cons_zero]
    refine anyZ_take (i := 10) (g := 5) (v := ?_) rfl (by kernel_rfl) (by kernel_rfl) (by kernel_rfl) (by kernel_rfl) (by kernel_rfl) (fun _ _ _ h => h) (Or.inl ⟨by kernel_rfl, ?_⟩) hS ?_
    rotate_left
    · intro V0 hV
      go_simp
      (try with_reducible rfl)
    simp only [put_list, List.set_cons_succ, List.set_cons_zero]
    refine anyZ_take (i := 11) (g := 5) (v := ?_) rfl (by kernel_rfl) (by kernel_rfl) (by kernel_rfl) (by kernel_rfl) (by kernel_rfl) (fun _ _ _ h => h) (Or.inl ⟨by kernel_rfl, ?_⟩) hS ?_
    rotate_left
    · intro V0 hV
      go_simp
      (try with_reducible rfl)
    simp only [put_list, List.set_cons_succ, List.set_cons_zero]
    refine anyZ_take (i := 12) (g := 5) (v := ?_) rfl (by kernel_rfl) (by kernel_rfl) (by kernel_rfl) (by kernel_rfl) (by kernel_rfl) (fun _ _ _ h => h) (Or.inl ⟨by kernel_rfl, ?_⟩) hS ?_
    rotate_left
    · intro V0 hV
      go_simp
      (try with_reducible rfl)
    simp only [put_list, List.set_cons_succ, List.set_cons_zero]
    refine anyZ_take (i := 13) (g := 5) (v := .bool true) rfl (by kernel_rfl) (by kernel_rfl) (by kernel_rfl) (by kernel_rfl) (by kernel_rfl) (fun _ _ _ h => h) (Or.inl ⟨by kernel_rfl, ?_⟩) hS ?_
    · intro V0 hV
      go_simp
      (try simp)
      (try omega)
    simp only [put_list, List.set_cons_succ, List.set_cons_zero]
    refine anyZ_take (i := 14) (g := 5) (v := ?_) rfl (by kernel_rfl) (by kernel_rfl) (by kernel_rfl) (by kernel_rfl) (by kernel_rfl) (fun _ _ _ h => h) (Or.inl ⟨by kernel_rfl, ?_⟩) hS ?_
    rotate_left
    · intro V0 hV
      go_simp
      (try with_reducible rfl)
    simp only [put_list, List.set_cons_succ, List.set_cons_zero]
    refine anyZ_take (i := 15) (g := 5) (v := ?_) rfl (by kernel_rfl) (by kernel_rfl) (by kernel_rfl) (by kernel_rfl) (by kernel_rfl) (fun _ _ _ h => h) (Or.inl ⟨by kernel_rfl, ?_⟩) hS ?_
    rotate_left
    · intro V0 hV
      go_simp
      (try with_reducible rfl)
    simp only [put_list, List.set_cons_succ, List.set_cons_zero]
    refine anyZ_take (i := 16) (g := 5) (v := ?_) rfl (by kernel_rfl) (by kernel_rfl) (by kernel_rfl) (by kernel_rfl) (by kernel_rfl) (fun _ _ _ h => h) (Or.inl ⟨by kernel_rfl, ?_⟩) hS ?_
    rotate_left
    · intro V0 hV
      go_simp
      (try with_reducible rfl)
    simp only [put_list, List.set_cons_succ, List.set_cons_zero]
    refine anyZ_take (i := 17) (g := 5) (v := ?_) rfl (by kernel_rfl) (by kernel_rfl) (by kernel_rfl) (by kernel_rfl) (by kernel_rfl) (fun _ _ _ h => h) (Or.inl ⟨by kernel_rfl, ?_⟩) hS ?_
    rotate_left
    · intro V0 hV
      go_simp
      (try with_reducible rfl)
    simp only [put_list, List.set_cons_succ, List.set_cons_zero]
    refine anyZ_take (i := 18) (g := 5) (v := ?_) rfl (by kernel_rfl) (by kernel_rfl) (by kernel_rfl) (by kernel_rfl) (by kernel_rfl) (fun _ _ _ h => h) (Or.inl ⟨by kernel_rfl, ?_⟩) hS ?_
    rotate_left
    · intro V0 hV
      go_simp
      (try with_reducible rfl)
    simp only [put_list, List.set_cons_succ, List.set_cons_zero]
    refine anyZ_take (i := 19) (g := 5) (v := ?_) rfl (by kernel_rfl) (by kernel_rfl) (by kernel_rfl) (by kernel_rfl) (by kernel_rfl) (fun _ _ _ h => h) (Or.inl ⟨by kernel_rfl, ?_⟩) hS ?_
    rotate_left
    · intro V0 hV
      have hcv := conv_BS (HB2.out.moved hV)
      rw [HST.out] at hcv
      go_simp
      (try with_reducible rfl)
    simp only [put_list, List.set_cons_succ, List.set_cons_zero]
    refine anyZ_take (i := 20) (g := 5) (v := ?_) rfl (by kernel_rfl) (by kernel_rfl) (by kernel_rfl) (by kernel_rfl) (by kernel_rfl) (fun _ _ _ h => h) (Or.inl ⟨by kernel_rfl, ?_⟩) hS ?_
    rotate_left
    · intro V0 hV
      go_simp
      (try with_reducible rfl)
    simp only [put_list, List.set_cons_succ, List.set_cons_zero]
    refine anyZ_take (i := 22) (g := 5) (v := ?_) rfl (by kernel_rfl) (by kernel_rfl) (by kernel_rfl) (by kernel_rfl) (by kernel_rfl) (fun _ _ _ h => h) (Or.inl ⟨by kernel_rfl, ?_⟩) hS ?_
    rotate_left
    · intro V0 hV
      go_simp
      (try with_reducible rfl)
    simp only [put_list, List.set_cons_succ, List.set_cons_zero]
    refine anyZ_one (i := 21) (by kernel_rfl) rfl (fun Kc hKc => ?_)
    go_simp
    have hS1 : Below W2.heap.size W2 ((W2.alloc (.cells #[.int .u8 k] 5)).drew) := ((Below.refl _ W2).alloc (Nat.le_refl _) _).drew
    have hkb : ((W2.alloc (.cells #[.int .u8 k] 5)).drew).heap[W2.heap.size]? = some (.cells #[.int .u8 k] 5 (0, 0)) := heap_new W2 _
    refine hKc.out _ _ (fun _ => hS1) ?_
    clear hKc Kc
    generalize ((W2.alloc (.cells #[.int .u8 k] 5)).drew) = W3 at *
    obtain ⟨a5, c5, W4, hr4, hB4, hb4⟩ := append_kind (b := b) HKK.out (Nat.le_refl W2.heap.size) hkb (by rw [hbn]; exact HB.out.moved (H2.out.trans (hS1.mono H2.out.size))) (by rw [hbn]; exact HBL.out)
    rw [hbn] at hr4 hB4
    have hS := hS1.trans hb4
    refine anyZ_one (i := 23) (by kernel_rfl) rfl (fun Kc hKc => ?_)
    refine step_appendG (ty := 23) (vs := .slice (some ⟨W2.heap.size, 0, none⟩) 1 1) (vx := .slice ba bn bc) (v' := .slice a5 (1 + bn) c5) (w' := W4) (dd := 46) (by rfl) (.tmp 44) (.tmp 45) 23 rfl rfl rfl rfl rfl hr4 ?_
    refine hKc.out _ _ (fun _ => hS) ?_
    clear hKc Kc
    simp only [put_list, List.set_cons_succ, List.set_cons_zero]
    have hcv := conv_BS hB4
    rw [HST.out] at hcv
    clear hr4 hB4 hb4 hkb hS1
    refine anyZ_one (i := 24) (by kernel_rfl) rfl (fun Kc hKc => ?_)
    go_simp
    refine hKc.out _ _ (fun _ => hS) ?_
    clear hKc Kc
    refine anyZ_one (i := 25) (by kernel_rfl) rfl (fun Kc hKc => ?_)
    go_simp
    refine hKc.out _ _ (fun _ => hS) ?_
    clear hKc Kc
    refine anyZ_one (i := 26) (by kernel_rfl) rfl (fun Kc hKc => ?_)
    go_simp
    refine hKc.out _ _ (fun _ => hS) ?_
    clear hKc Kc
    refine anyZ_one (i := 27) (by kernel_rfl) rfl (fun Kc hKc => ?_)
    go_simp
    refine hKc.out _ _ (fun _ => hS) ?_
    clear hKc Kc
    refine anyZ_one (i := 28) (by kernel_rfl) rfl (fun Kc hKc => ?_)
    go_simp
    refine hKc.out _ _ (fun _ => hS) ?_
    clear hKc Kc
    refine anyZ_done (by kernel_rfl) ?_ _
    change K1 _ _
    refine HK1.out _ _ ?_
    have H3 := hideP (H2.out.trans (hS.mono H2.out.size))
    clear hS HK1 H2 hcv HB2
    go_wp2_with fail
    have HBY2 := hideP (lawBytes_any HBL.out _ (HB.out.moved H3.out))
    go_wp2_with fail
    refine HBY2.out.mono ?_
    rintro e W4 ⟨⟨v4, rfl, hO4⟩, hb4⟩
    obtain ⟨a4, c4, rfl, hB4, _⟩ := hO4.ex
    have HOP := hideP (HOPF.out W4 _ _ hB4)
    have H4 := hideP (H3.out.trans (hb4.mono H3.out.size))
    clear hO4 hB4 hb4 HBY2 H3
    go_wp2_with fail
    refine HOP.out.mono ?_
    rintro e W5 ⟨⟨a5, c5, rfl, hB5⟩, hb5⟩
    have H5 := hideP (H4.out.trans (hb5.mono H4.out.size))
    have HRO := hideP (HROF.out W5 _ _ (HB.out.moved H5.out))
    have HB5 := hideP hB5
    clear hB5 hb5 HOP H4
    go_wp2_with fail
    refine HRO.out.mono ?_
    rintro e W6 ⟨⟨a6, c6, rfl, hB6⟩, hb6⟩
    have H6 := hideP (H5.out.trans (hb6.mono H5.out.size))
    have hs1 := conv_BS (HB5.out.moved hb6)
    have hs2 := conv_BS hB6
    clear hB6 hb6 HRO HB5 H5
    generalize strB (lb (opn b).2.1) (opn b).2.1.length = so at *
    generalize (opn b).1 = o1 at *
    generalize (opn b).2.2 = o3 at *
    generalize (opn b).2.1.length = o2 at *
    go_wp2_with fail
    refine (HC1.out _ H6.out).mono ?_
    rintro e W7 ⟨⟨v7, rfl, hi7⟩, hb7⟩
    have hi7 := hi7.uncut
    have H7 := hideP (H6.out.trans (hb7.mono H6.out.size))
    have HI7 := hideP hi7
    clear hi7 hb7 H6 hs1 hs2
    go_wp2_with fail
    refine (HC2.out _ H7.out).mono ?_
    rintro e W8 ⟨⟨v8, rfl, hi8⟩, hb8⟩
    have hi8 := hi8.uncut
    have H8 := hideP (H7.out.trans (hb8.mono H7.out.size))
    have HS := hideP (rlpSame_all _ _ _ _ _ _ (Nat.le_refl _) (HI7.out.moved hb8) hi8)
    clear hi8 hb8 H7 HI7
    go_wp2_with fail
    refine HS.out.mono ?_
    rintro e W9 ⟨⟨r, rfl, hr⟩, hb9⟩
    have H9 := hideP (H8.out.trans (hb9.mono H8.out.size))
    have HR := hideP hr
    clear hr hb9 H8 HS
    go_wp2_with fail
    refine (HC1.out _ H9.out).mono ?_
    rintro e W10 ⟨⟨v10, rfl, hi10⟩, hb10⟩
    have hi10 := hi10.uncut
    have H10 := hideP (H9.out.trans (hb10.mono H9.out.size))
    have HI10 := hideP hi10
    clear hi10 hb10 H9
    go_wp2_with fail
    refine (HC2.out _ H10.out).mono ?_
    rintro e W11 ⟨⟨v11, rfl, hi11⟩, hb11⟩
    have hi11 := hi11.uncut
    have H11 := hideP (H10.out.trans (hb11.mono H10.out.size))
    have HS := hideP (refSame_all _ _ _ _ _ _ (Nat.le_refl _) (HI10.out.moved hb11) hi11)
    clear hi11 hb11 H10 HI10
    go_wp2_with fail
    refine HS.out.mono ?_
    rintro e W12 ⟨⟨r', rfl, hr'⟩, hb12⟩
    have hrr : r = r' := by rw [Bool.eq_iff_iff]; exact HR.out.trans hr'.symm
    subst hrr
    have H12 := hideP (H11.out.trans (hb12.mono H11.out.size))
    clear hr' hb12 H11 HS HR
    go_wp2_with fail
    refine (awake_any _).mono ?_
    rintro e W13 ⟨rfl, hb13⟩
    have H13 := hideP (H12.out.trans (hb13.mono H12.out.size))
    clear hb13 H12
    go_wp2_with fail
    go_ret
    exact ⟨rfl, H13.out⟩

end Go.Proofs.Ytigebmidfddbcaa
