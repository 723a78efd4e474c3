/-
  The payload of a list is the forms of its items: the walk of RlpKids.
-/
import Derived.Test.YtigebmidfddbcaaKidsN
import Derived.Test.YtigebmidfddbcaaRBack
namespace Go.Proofs.Ytigebmidfddbcaa
open Go.RowKit Go.Shelf

attribute [local go_sem] Oper.semAt_some

/-- What a text is held against. -/
def TxtS (B5 B7 B2 G en f1 f2 : Nat) (tl : Int) (xa : Option Addr) (xc tbn : Nat) (ka : Option Addr) (tkn kc : Nat) (ap : Option Addr) (pn : Nat) (bs cs : Nat → Nat) (V : World) : Prop :=
  V.heap[B5]? = some (.cells #[.slice (some ⟨G, 0, none⟩) en en] 23 (0, 0)) ∧ V.heap[B7]? = some (.cells #[.int .i64 f1, .int .i64 f2, .int .i64 en] 40 (0, 0)) ∧ V.heap[B2]? = some (.cells #[.int .i64 tl, .slice xa tbn xc, .slice ka tkn kc] 26 (0, 0)) ∧ BS V ap pn pn bs ∧ BS V xa tbn xc cs

/-- What a kid's form is held against. -/
def KidS (B5 B7 AB KB G en f1 f2 ks kl kf kt G2 te : Nat) (cs : Nat → Nat) (ap : Option Addr) (pn pc : Nat) (bs : Nat → Nat) (V : World) : Prop :=
  V.heap[B5]? = some (.cells #[.slice (some ⟨G, 0, none⟩) en en] 23 (0, 0)) ∧ V.heap[B7]? = some (.cells #[.int .i64 f1, .int .i64 f2, .int .i64 en] 40 (0, 0)) ∧ V.heap[AB]? = some (.cells #[.int .i64 ks] 3 (0, 0)) ∧ V.heap[KB]? = some (.cells #[.int .i64 kl, .int .i64 kf, .int .i64 kt] 40 (0, 0)) ∧ BS V (some ⟨G2, 0, none⟩) te te cs ∧ BS V ap pn pc bs

/-- How the rounds over the kids stand. -/
structure KI (w W8 W11 : World) (AB : Nat) (tk : List Tree) (k : Nat) (V : World) : Prop where
  at_ : V.heap[AB]? = some (.cells #[.int .i64 ((koff tk k : Nat) : Int)] 3 (0, 0))
  i : V.heap[AB + 1]? = some (.cells #[.int .i64 (k : Int)] 3 (0, 0))
  b8 : Below W8.heap.size W8 V
  bw : Below w.heap.size w V
  sz : W11.heap.size ≤ V.heap.size

theorem KI.moved {w W8 W11 : World} {AB : Nat} {tk : List Tree} {k : Nat} {V V' : World} (h : KI w W8 W11 AB tk k V) (h1 : w.heap.size ≤ W11.heap.size) (h2 : W8.heap.size ≤ W11.heap.size) (h3 : AB + 2 ≤ W11.heap.size) (hb : Below W11.heap.size V V') : KI w W8 W11 AB tk k V' :=
  ⟨(hb.block _ (by omega)).trans h.at_, (hb.block _ (by omega)).trans h.i, h.b8.trans (hb.mono h2), h.bw.trans (hb.mono h1), Nat.le_trans h.sz hb.size⟩

set_option maxHeartbeats 16000000 in
set_option maxRecDepth 100000 in
theorem rlpKids_walk {ns : List Nd} {ao : Option Addr} {c : Nat} (w : World)
    (h : NS w ns ao c) (hok : NdOk ns) (hlen : ns.length ≤ 3518437208884) (hbulk : ndBulk ns ≤ 1048576) :
    Calls Try.prog 11 #[.slice ao ns.length c] w fun e w' => e = .returned (.bool true) ∧ Below w.heap.size w w' := by
  have HC := hideP (fun (W : World) (hb : Below w.heap.size w W) => lawItem_any W (h.moved hb) hok hlen)
  have hwt := treeOf_wt ns
  have HWT : Hid ((treeOf ns).wt ≤ 3145737) := hideP (by omega)
  have HF := hideP (treeOf_fits hok hlen)
  clear h hok hlen hbulk hwt
  generalize treeOf ns = t at *
  generalize ns.length = nn at *
  cases t with
  | node tl tb tk =>
  refine (callsIn_wide (n := 6)).1 ?_
  refine callsIn_of_wp_marks Try.func11 rfl trivial ?_ rfl
  simp only [Try.ntmps11, List.size_toArray, List.length_cons, List.length_nil, Nat.reduceAdd, Nat.reduceSub, Array.replicate_succ, Array.replicate_zero, List.push_toArray, List.append_toArray, List.nil_append, List.cons_append]
  gi_wp2
  refine ⟨trivial, (callsIn_wide.2 (awake_any _)).mono ?_⟩
  rintro e W1 ⟨rfl, hb1⟩
  have hbA : Below w.heap.size w (w.alloc (.cells #[.bool false] 4)) := (Below.refl _ w).alloc (Nat.le_refl _) _
  have H1 := hideP (hbA.trans (hb1.mono hbA.size))
  have R1 := hideP ((hb1.block _ (lt_of_block (heap_new w (.cells #[.bool false] 4)))).trans (heap_new w (.cells #[.bool false] 4)))
  clear hb1 hbA
  gi_wp2
  refine ⟨trivial, (callsIn_wide.2 (HC.out _ H1.out)).mono ?_⟩
  rintro e W2 ⟨⟨v2, rfl, hi2⟩, hb2⟩
  have hi2 := hi2.uncut
  obtain ⟨xa, xc, ka, kc, rfl, _, _, _⟩ := hi2.form
  have hb3 : Below W2.heap.size W2 (W2.alloc (.cells #[.int .i64 tl, .slice xa tb.length xc, .slice ka tk.length kc] 26)) := (Below.refl _ W2).alloc (Nat.le_refl _) _
  have hi3 := hi2.moved hb3
  have h02 := H1.out.trans (hb2.mono H1.out.size)
  have H3 := hideP (h02.trans (hb3.mono h02.size))
  have r2 := (hb2.block _ (lt_of_block R1.out)).trans R1.out
  have R3 := hideP ((hb3.block _ (lt_of_block r2)).trans r2)
  have hx3 := heap_new W2 (.cells #[.int .i64 tl, .slice xa tb.length xc, .slice ka tk.length kc] 26)
  have HTW := hideP (twin_all _ _ _ _ (Nat.le_refl _) hi3 HF.out)
  have HI3 := hideP (And.intro hi3 hx3)
  obtain ⟨k0, k1, k2⟩ := cells3 hx3
  have HXN := hideP (lt_of_block r2)
  clear hi2 hb2 hb3 hi3 h02 hx3 r2 HC H1 R1
  generalize htb : tb.length = tbn at *
  generalize htk : tk.length = tkn at *
  have HTB := hideP (And.intro htb htk)
  clear htb htk
  gi_wp2
  refine ⟨trivial, (callsIn_wide.2 HTW.out).mono ?_⟩
  rintro e W4 ⟨⟨v4, rfl, hi4⟩, hb4⟩
  have hi4 := hi4.uncut
  have HBYT := hideP hi4.by
  have HE := hideP (encode_any W4 hi4 (by have := HWT.out; omega) (by have := HWT.out; have := Tree.num_le (.node tl tb tk); omega))
  have H4 := hideP hb4
  clear hi4 hb4 HTW k0 k1 k2
  gi_wp2
  refine ⟨trivial, (callsIn_wide.2 HE.out).mono ?_⟩
  rintro e W5 ⟨⟨r5, rfl, hr5⟩, hb5⟩
  have h35 := H4.out.trans (hb5.mono H4.out.size)
  have r5' := (h35.block _ (lt_of_block R3.out)).trans R3.out
  have H35 := hideP h35
  have H05 := hideP (H3.out.trans (h35.mono H3.out.size))
  generalize hme : ((Tree.node tl tb tk).meas 0).2 = me at *
  by_cases h0 : me = 0
  · subst h0
    obtain ⟨G, rfl, _, hg⟩ := hr5.ok hme
    have hwt := HWT.out
    have hel := Tree.enc_le (.node tl tb tk) (by omega)
    have hlt := lb_lt (Tree.enc_by _ HBYT.out (by omega))
    have hat := At.lb (Tree.node tl tb tk).enc
    have hhd := hd_form hme (by omega) hat (Nat.le_refl _)
    have hBe : BS W5 (some ⟨G, 0, none⟩) (Tree.node tl tb tk).enc.length (Tree.node tl tb tk).enc.length (lb (Tree.node tl tb tk).enc) := BS.cbs hlt (by unfold maxLen; omega) hg
    have hb6 : Below W5.heap.size W5 (W5.alloc (.cells #[.slice (some ⟨G, 0, none⟩) (Tree.node tl tb tk).enc.length (Tree.node tl tb tk).enc.length] 23)) := (Below.refl _ W5).alloc (Nat.le_refl _) _
    have hBe6 := hBe.moved hb6
    have hh := head_any _ hBe6
    rw [hhd] at hh
    unfold pc at hh
    have hx6 := heap_new W5 (.cells #[.slice (some ⟨G, 0, none⟩) (Tree.node tl tb tk).enc.length (Tree.node tl tb tk).enc.length] 23)
    have r6 := (hb6.block _ (lt_of_block r5')).trans r5'
    have HH := hideP hh
    have h36 := h35.trans (hb6.mono h35.size)
    have hc6 := blk_cell hx6 (o := 0) rfl
    have HQ := hideP (And.intro hBe6 (And.intro hx6 (And.intro r6 (And.intro h36 (And.intro hat (And.intro hel hlt))))))
    have hchk := Tree.ok_chk hme
    have HM := hideP hme
    have hhp : (Tree.node tl tb tk).hdF.2 ≤ (Tree.node tl tb tk).enc.length := by
      have h' := hd_ok (bs := lb (Tree.node tl tb tk).enc) (n := (Tree.node tl tb tk).enc.length)
      rw [hhd] at h'
      exact (h' rfl).2.2.1
    clear hr5 hg hwt hel hlt hat hhd hBe hb6 hBe6 hh hx6 r6 h35 h36 r5' hme HE H4 hb5 H35 R3
    have hhl : ((Tree.node tl tb tk).hdF.1 : Int) = tl := by
      rcases hchk with ⟨rfl, rfl⟩ | ⟨rfl, rfl, _⟩ <;> simp [Tree.hdF]
    have HHL := hideP hhl
    clear hhl
    generalize hf1 : (Tree.node tl tb tk).hdF.1 = f1 at *
    generalize hf2 : (Tree.node tl tb tk).hdF.2 = f2 at *
    have HF2 := hideP hf2
    clear hf1 hf2
    generalize hen : (Tree.node tl tb tk).enc.length = en at *
    have HEN := hideP hen
    clear hen
    gi_wp2
    refine ⟨trivial, (callsIn_wide.2 HH.out).mono ?_⟩
    rintro e W7 ⟨rfl, hb7⟩
    obtain ⟨hBe6, hx6, r6, h36, hat, hel, hlt⟩ := HQ.out
    have hb8 : Below W7.heap.size W7 (W7.alloc (.cells #[.int .i64 f1, .int .i64 f2, .int .i64 en] 40)) := (Below.refl _ W7).alloc (Nat.le_refl _) _
    have h68 := hb7.trans (hb8.mono hb7.size)
    have hx8 := (h68.block _ (lt_of_block hx6)).trans hx6
    have r8 := (h68.block _ (lt_of_block r6)).trans r6
    have h38 := h36.trans (h68.mono h36.size)
    have hi8 := HI3.out.1.moved h38
    have hX8 := (h38.block _ (lt_of_block HI3.out.2)).trans HI3.out.2
    have hP8 := heap_new W7 (.cells #[.int .i64 f1, .int .i64 f2, .int .i64 en] 40)
    have hBe8 := hBe6.moved h68
    have h08 := H3.out.trans (h38.mono H3.out.size)
    have hsz8 : (W7.alloc (.cells #[.int .i64 f1, .int .i64 f2, .int .i64 en] 40)).heap.size = W7.heap.size + 1 := by simp
    have hsz57 := hb7.size
    have hsz6 : (W5.alloc (.cells #[.slice (some ⟨G, 0, none⟩) en en] 23)).heap.size = W5.heap.size + 1 := by simp
    have HS8 := hideP (And.intro hsz8 (show W5.heap.size < W7.heap.size by omega))
    generalize hW8 : W7.alloc (.cells #[.int .i64 f1, .int .i64 f2, .int .i64 en] 40) = W8 at *
    clear hsz8 hsz57 hsz6
    obtain ⟨k0, k1, k2⟩ := cells3 hX8
    obtain ⟨q0, q1, q2⟩ := cells3 hP8
    have c8 := blk_cell hx8 (o := 0) rfl
    have HW8 := hideP (And.intro hx8 (And.intro r8 (And.intro hi8 (And.intro hX8 (And.intro hP8 (And.intro hBe8 (And.intro h08 (And.intro hat (And.intro hel (And.intro hlt hhp))))))))))
    have g1 : ¬ ((f2 : Int)) < 0 := by omega
    have g2 : ¬ ((en : Int)) < (f2 : Int) := by omega
    have g2' : ¬ ((f2 : Int)) > (en : Int) := by omega
    clear hBe6 hx6 r6 h36 hat hel hlt hb8 h68 hx8 r8 h38 hi8 hX8 hP8 hBe8 h08 HQ HH hb7 hc6 HI3 hhp
    subst hW8
    have e0 : ((f1 : Int) != tl) = false := by rw [HHL.out]; simp
    rcases hchk with ⟨h9, h8⟩ | ⟨h9, h8, _⟩
    · have e9 : (tl == 0) = true := by rw [h9]; rfl
      have HK := hideP (And.intro h9 h8)
      clear h8 h9
      gi_wp2
      refine wpIn_wide.2 ?_
      obtain ⟨hx8, r8, hi8, hX8, hP8, hBe8, h08, hat, hel, hlt, hhp⟩ := HW8.out
      have hen0 : 0 < en := by
        have := enc_pos _ HM.out
        rw [HEN.out] at this
        omega
      obtain ⟨ap, hBp, hap, hsl⟩ := hBe8.part_at (l := f2) (k := en) hhp (Nat.le_refl _) hen0
      clear hap
      have hxb : BS (W7.alloc (.cells #[.int .i64 f1, .int .i64 f2, .int .i64 en] 40)) xa tbn xc (lb tb) := by
        obtain ⟨xa', xc', ka', kc', e, hB, h1, h2⟩ := hi8.form
        cases e
        rw [HTB.out.1] at hB
        exact hB
      have hstr : strB (fun j => lb (Tree.node tl tb tk).enc (f2 + j)) (en - f2) = strB (lb tb) tbn := by
        obtain ⟨h9, h8⟩ := HK.out
        subst h9 h8
        have he := enc_eq 0 tb []
        have hF2 := HF2.out
        have hE := HEN.out
        simp only [Tree.hdF, Tree.encs, List.append_nil] at he hF2
        by_cases hsa : tb.length = 1 ∧ lb tb 0 < 128
        · rw [if_pos hsa] at he hF2
          rw [he] at hE ⊢
          have h1 := HTB.out.1
          rw [show en - f2 = tbn by omega]
          exact strB_congr fun j _ => by rw [← hF2, Nat.zero_add]
        · rw [if_neg hsa] at he hF2
          rw [he] at hE ⊢
          have h1 := HTB.out.1
          simp only [if_true] at hE ⊢
          have h2 : (hdB 128 tb.length).length = f2 := by rw [hdB_length]; exact hF2
          rw [List.length_append, h2] at hE
          rw [show en - f2 = tbn by omega]
          exact strB_congr fun j _ => by rw [← h2, lb_right]
      generalize hs2 : strB (lb tb) tbn = s2 at *
      have hrl := lt_of_block r8
      have hS0 : TxtS W5.heap.size W7.heap.size W2.heap.size G en f1 f2 tl xa xc tbn ka tkn kc ap (en - f2) (fun j => lb (Tree.node tl tb tk).enc (f2 + j)) (lb tb) (W7.alloc (.cells #[.int .i64 f1, .int .i64 f2, .int .i64 en] 40)).drew := ⟨hx8, hP8, hX8, hBp.drew, hxb.drew⟩
      have HQ := hideP (And.intro r8 h08)
      clear hx8 r8 hi8 hX8 hP8 hBe8 h08 hat hel hlt hhp hBp hxb k0 k1 k2 q0 q1 q2 c8
      rename_i Q2 K2 hK2
      have HK2 := hideP hK2
      clear hK2
      generalize en - f2 = pn at *
      refine region_lateK [11] (TxtS W5.heap.size W7.heap.size W2.heap.size G en f1 f2 tl xa xc tbn ka tkn kc ap pn (fun j => lb (Tree.node tl tb tk).enc (f2 + j)) (lb tb)) (by kernel_rfl) hS0 (fun hS => ?_)
      refine anyZ_take (i := 0) (g := 8) (v := ?_) rfl (by kernel_rfl) (by kernel_rfl) (by kernel_rfl) (by kernel_rfl) (by kernel_rfl) (fun _ _ _ h => h) (Or.inl ⟨by kernel_rfl, ?_⟩) hS ?_
      rotate_left
      · intro V0 hV
        have k0 := blk_cell hV.1 (o := 0) rfl
        go_simp
        (try with_reducible rfl)
      simp only [put_list, List.set_cons_succ, List.set_cons_zero]
      refine anyZ_take (i := 1) (g := 8) (v := ?_) rfl (by kernel_rfl) (by kernel_rfl) (by kernel_rfl) (by kernel_rfl) (by kernel_rfl) (fun _ _ _ h => h) (Or.inl ⟨by kernel_rfl, ?_⟩) hS ?_
      rotate_left
      · intro V0 hV
        go_simp
        (try with_reducible rfl)
      simp only [put_list, List.set_cons_succ, List.set_cons_zero]
      refine anyZ_take (i := 2) (g := 8) (v := ?_) rfl (by kernel_rfl) (by kernel_rfl) (by kernel_rfl) (by kernel_rfl) (by kernel_rfl) (fun _ _ _ h => h) (Or.inl ⟨by kernel_rfl, ?_⟩) hS ?_
      rotate_left
      · intro V0 hV
        obtain ⟨q0, q1, q2⟩ := cells3 hV.2.1
        go_simp
        (try with_reducible rfl)
      simp only [put_list, List.set_cons_succ, List.set_cons_zero]
      refine anyZ_take (i := 3) (g := 8) (v := ?_) rfl (by kernel_rfl) (by kernel_rfl) (by kernel_rfl) (by kernel_rfl) (by kernel_rfl) (fun _ _ _ h => h) (Or.inl ⟨by kernel_rfl, ?_⟩) hS ?_
      rotate_left
      · intro V0 hV
        go_simp
        (try with_reducible rfl)
      simp only [put_list, List.set_cons_succ, List.set_cons_zero]
      refine anyZ_take (i := 4) (g := 8) (v := ?_) rfl (by kernel_rfl) (by kernel_rfl) (by kernel_rfl) (by kernel_rfl) (by kernel_rfl) (fun _ _ _ h => h) (Or.inl ⟨by kernel_rfl, ?_⟩) hS ?_
      rotate_left
      · intro V0 hV
        obtain ⟨q0, q1, q2⟩ := cells3 hV.2.1
        go_simp
        (try with_reducible rfl)
      simp only [put_list, List.set_cons_succ, List.set_cons_zero]
      refine anyZ_take (i := 5) (g := 8) (v := ?_) rfl (by kernel_rfl) (by kernel_rfl) (by kernel_rfl) (by kernel_rfl) (by kernel_rfl) (fun _ _ _ h => h) (Or.inl ⟨by kernel_rfl, ?_⟩) hS ?_
      rotate_left
      · intro V0 hV
        go_simp
        (try with_reducible rfl)
      simp only [put_list, List.set_cons_succ, List.set_cons_zero]
      refine anyZ_take (i := 6) (g := 8) (v := ?_) rfl (by kernel_rfl) (by kernel_rfl) (by kernel_rfl) (by kernel_rfl) (by kernel_rfl) (fun _ _ _ h => h) (Or.inl ⟨by kernel_rfl, ?_⟩) hS ?_
      rotate_left
      · intro V0 hV
        have hcv := conv_BS hV.2.2.2.1
        rw [hstr] at hcv
        go_simp
        (try with_reducible rfl)
      simp only [put_list, List.set_cons_succ, List.set_cons_zero]
      refine anyZ_take (i := 7) (g := 8) (v := ?_) rfl (by kernel_rfl) (by kernel_rfl) (by kernel_rfl) (by kernel_rfl) (by kernel_rfl) (fun _ _ _ h => h) (Or.inl ⟨by kernel_rfl, ?_⟩) hS ?_
      rotate_left
      · intro V0 hV
        go_simp
        (try with_reducible rfl)
      simp only [put_list, List.set_cons_succ, List.set_cons_zero]
      refine anyZ_take (i := 8) (g := 8) (v := ?_) rfl (by kernel_rfl) (by kernel_rfl) (by kernel_rfl) (by kernel_rfl) (by kernel_rfl) (fun _ _ _ h => h) (Or.inl ⟨by kernel_rfl, ?_⟩) hS ?_
      rotate_left
      · intro V0 hV
        obtain ⟨q0, q1, q2⟩ := cells3 hV.2.2.1
        go_simp
        (try with_reducible rfl)
      simp only [put_list, List.set_cons_succ, List.set_cons_zero]
      refine anyZ_take (i := 9) (g := 8) (v := ?_) rfl (by kernel_rfl) (by kernel_rfl) (by kernel_rfl) (by kernel_rfl) (by kernel_rfl) (fun _ _ _ h => h) (Or.inl ⟨by kernel_rfl, ?_⟩) hS ?_
      rotate_left
      · intro V0 hV
        have hcv := conv_BS hV.2.2.2.2
        rw [hs2] at hcv
        go_simp
        (try with_reducible rfl)
      simp only [put_list, List.set_cons_succ, List.set_cons_zero]
      refine anyZ_take (i := 10) (g := 8) (v := .bool true) rfl (by kernel_rfl) (by kernel_rfl) (by kernel_rfl) (by kernel_rfl) (by kernel_rfl) (fun _ _ _ h => h) (Or.inl ⟨by kernel_rfl, ?_⟩) hS ?_
      · intro V0 hV
        go_simp
      simp only [put_list, List.set_cons_succ, List.set_cons_zero]
      refine anyZ_one (i := 11) (by kernel_rfl) rfl (fun Kc hKc => ?_)
      have y := blk_cell (show (W7.alloc (.cells #[.int .i64 f1, .int .i64 f2, .int .i64 en] 40)).drew.heap[w.heap.size]? = _ from HQ.out.1) (o := 0) rfl
      have yf : ∀ o, (W7.alloc (.cells #[.int .i64 f1, .int .i64 f2, .int .i64 en] 40)).drew.frozen? ⟨w.heap.size, o, none⟩ = false := fun o => blk_free (show (W7.alloc (.cells #[.int .i64 f1, .int .i64 f2, .int .i64 en] 40)).drew.heap[w.heap.size]? = _ from HQ.out.1)
      go_simp
      refine hKc.out _ _ (fun h => absurd (by decide) h) ?_
      refine anyZ_done (by kernel_rfl) ?_ _
      refine HK2.out _ _ ?_
      gi_wp2
      obtain ⟨r8, h08⟩ := HQ.out
      have hr9 : ((W7.alloc (.cells #[.int .i64 f1, .int .i64 f2, .int .i64 en] 40)).setCell ⟨w.heap.size, 0, none⟩ (.bool true)).drew.heap[w.heap.size]? = some (.cells #[.bool true] 4 (0, 0)) := blk_set r8 _
      have y9 := blk_cell hr9 (o := 0) rfl
      refine ⟨.bool true, by simp [results, Try.results11, go_sem, y9], rfl, ?_⟩
      exact (Below.setCell h08 (Nat.le_refl _) _).drew
    · have e9 : (tl == 0) = false := by rw [h9]; rfl
      have HK := hideP (And.intro h9 h8)
      clear h8 h9
      have hA8 : Below (W7.alloc (.cells #[.int .i64 f1, .int .i64 f2, .int .i64 en] 40)).heap.size (W7.alloc (.cells #[.int .i64 f1, .int .i64 f2, .int .i64 en] 40)) (((W7.alloc (.cells #[.int .i64 f1, .int .i64 f2, .int .i64 en] 40)).alloc (.cells #[.int .i64 0] 3)).alloc (.cells #[.int .i64 0] 3)) := ((Below.refl _ _).alloc (Nat.le_refl _) _).alloc (by simp) _
      obtain ⟨hx8, r8, hi8, hX8, hP8, hBe8, h08, hat, hel, hlt, hhp⟩ := HW8.out
      have hen0 : 0 < en := by
        have := enc_pos _ HM.out
        rw [HEN.out] at this
        omega
      have hBe10 := hBe8.moved hA8
      obtain ⟨ap, hBp, hap, hsl⟩ := hBe10.part_at (l := f2) (k := en) hhp (Nat.le_refl _) hen0
      have hx10 := (hA8.block _ (lt_of_block hx8)).trans hx8
      have hP10 := (hA8.block _ (lt_of_block hP8)).trans hP8
      obtain ⟨z0, z1, z2⟩ := cells3 hP10
      have c10 := blk_cell hx10 (o := 0) rfl
      have HEA := hideP (each_any (by have := HWT.out; omega) _ hBp)
      have HA8 := hideP hA8
      clear hx8 r8 hi8 hX8 hP8 hBe8 h08 hat hel hlt hhp hBe10 hBp hap hx10 hP10 hA8
      generalize hpn : en - f2 = pn at *
      have HPN := hideP hpn
      clear hpn
      gi_wp2
      refine ⟨trivial, (callsIn_wide.2 HEA.out).mono ?_⟩
      rintro e W11 ⟨⟨ea, ec, rfl, hcE, hBE, hEat⟩, hb11⟩
      obtain ⟨hx8, r8, hi8, hX8, hP8, hBe8, h08, hat, hel, hlt, hhp⟩ := HW8.out
      have hA8 := HA8.out
      have hwt := HWT.out
      have hsz8 : (W7.alloc (.cells #[.int .i64 f1, .int .i64 f2, .int .i64 en] 40)).heap.size = W7.heap.size + 1 := by simp
      have hsz10 : (((W7.alloc (.cells #[.int .i64 f1, .int .i64 f2, .int .i64 en] 40)).alloc (.cells #[.int .i64 0] 3)).alloc (.cells #[.int .i64 0] 3)).heap.size = W7.heap.size + 3 := by simp
      have hA10 : (((W7.alloc (.cells #[.int .i64 f1, .int .i64 f2, .int .i64 en] 40)).alloc (.cells #[.int .i64 0] 3)).alloc (.cells #[.int .i64 0] 3)).heap[W7.heap.size + 1]? = some (.cells #[.int .i64 0] 3 (0, 0)) := by
        repeat first | (refine box_at ?_; simp; done) | refine box_old (by simp <;> omega) ?_
      have hI10 : (((W7.alloc (.cells #[.int .i64 f1, .int .i64 f2, .int .i64 en] 40)).alloc (.cells #[.int .i64 0] 3)).alloc (.cells #[.int .i64 0] 3)).heap[W7.heap.size + 1 + 1]? = some (.cells #[.int .i64 0] 3 (0, 0)) := by
        repeat first | (refine box_at ?_; simp; done) | refine box_old (by simp <;> omega) ?_
      have hA11 := (hb11.block _ (lt_of_block hA10)).trans hA10
      have hI11 := (hb11.block _ (lt_of_block hI10)).trans hI10
      have hb811 := hA8.trans (hb11.mono hA8.size)
      have hbw11 := h08.trans (hb811.mono h08.size)
      have hsz11 := hb11.size
      obtain ⟨e1, e8⟩ := HK.out
      have hmk : (Tree.measK tk 1 0).2 = 0 := Tree.ok_kids HM.out e1
      have hE := HEN.out
      have hF2 := HF2.out
      have hpn := HPN.out
      have hat' : At (lb (Tree.node tl tb tk).enc) f2 (Tree.encs tk) ∧ pn = (Tree.encs tk).length := by
        have he := enc_eq tl tb tk
        rw [e8] at he hF2 hE ⊢
        rw [e1] at he hF2 hE ⊢
        simp only [Tree.hdF, List.nil_append, List.length_nil, show ¬ ((0 : Nat) = 1 ∧ lb [] 0 < 128) by simp, if_false, show ¬ (1 : Int) = 0 by decide] at he hF2
        have h9 := At.lb (Tree.node 1 [] tk).enc
        rw [he] at h9 hE ⊢
        have h8 := h9.right
        rw [hdB_length, Nat.zero_add, hF2] at h8
        rw [List.length_append, hdB_length, hF2] at hE
        exact ⟨h8, by omega⟩
      have hatK : At (fun j => lb (Tree.node tl tb tk).enc (f2 + j)) 0 (Tree.encs tk) := At.shift (by rw [Nat.add_zero]; exact hat'.1)
      have hL := pcs_encs tk 1 0 hmk (by omega) (fun j => lb (Tree.node tl tb tk).enc (f2 + j)) pn 0 (pn + 1) hatK (by omega) (by omega)
      have hgive := each1_gives (6 - 1) (by omega) (((W7.alloc (.cells #[.int .i64 f1, .int .i64 f2, .int .i64 en] 40)).alloc (.cells #[.int .i64 0] 3)).alloc (.cells #[.int .i64 0] 3)).heap.size (fun b => b = W7.heap.size + 1 ∨ b = W7.heap.size + 1 + 1) W11 hBE hcE (by omega)
        (fun ad e => by have := hEat ad e; omega) (fun b hb => by omega)
      rw [hL, good_kidsP, show (((W7.alloc (.cells #[.int .i64 f1, .int .i64 f2, .int .i64 en] 40)).alloc (.cells #[.int .i64 0] 3)).alloc (.cells #[.int .i64 0] 3)).heap.size = W7.heap.size + 1 + 1 + 1 by simp] at hgive
      have HG := hideP (And.intro hgive (And.intro hA11 (And.intro hI11 (And.intro hb811 (And.intro hbw11 (And.intro hsz11 (And.intro hsz10 (And.intro hsz8 (And.intro hmk (And.intro hat' hel))))))))))
      clear hx8 r8 hi8 hX8 hP8 hBe8 h08 hat hel hlt hhp hA8 hwt hsz8 hsz10 hA10 hI10 hA11 hI11 hb811 hbw11 hsz11 e1 e8 hmk hE hF2 hpn hat' hatK hL hgive hcE hBE hEat hb11 HEA z0 z1 z2 c10 k0 k1 k2 q0 q1 q2 c8
      gi_wp2
      obtain ⟨hgive, hA11, hI11, hb811, hbw11, hsz11, hsz10, hsz8, hmk, hat', hel⟩ := HG.out
      have hszw : w.heap.size < W7.heap.size := by
        have h1 := HXN.out
        have h2 := lt_of_block HW8.out.2.2.2.1
        have h3 := lt_of_block HW8.out.2.1
        have h4 := HS8.out.2
        omega
      refine range_seqE (n := 6) (by omega) rfl (enters_of Try.func59 (by kernel_rfl) rfl) (eav (kidsP tk 0)) tk.length (fun _ => rfl) _ hgive
        (KI w (W7.alloc (.cells #[.int .i64 f1, .int .i64 f2, .int .i64 en] 40)) W11 (W7.heap.size + 1) tk) (fun _ _ => False)
        (fun q V V' h hb => h.moved (by omega) (by omega) (by omega) hb) (fun _ _ _ h _ => h.elim)
        (fun V V' o o' h h1 h2 => ⟨by simpa using h.1, fun b x h3 h4 h5 => (World.putObj_heap_other (by omega)).trans (h.2 b x h3 h4 h5)⟩)
        ⟨by rw [koff_zero]; exact hA11, hI11, hb811, hbw11, Nat.le_refl _⟩ ?round ?done ?stop
      case stop =>
        intro cd V hf
        exact hf.elim
      case done =>
        intro V hI hdef
        have hk := hI.b8
        obtain ⟨hx8, r8, hi8, hX8, hP8, hBe8, h08, hat, hel', hlt, hhp⟩ := HW8.out
        have hXV := (hk.block _ (lt_of_block hX8)).trans hX8
        have hPV := (hk.block _ (lt_of_block hP8)).trans hP8
        have rV := (hk.block _ (lt_of_block r8)).trans r8
        obtain ⟨k0, k1, k2⟩ := cells3 hXV
        obtain ⟨q0, q1, q2⟩ := cells3 hPV
        have a0 := blk_cell hI.at_ (o := 0) rfl
        have i0 := blk_cell hI.i (o := 0) rfl
        have y := blk_cell rV (o := 0) rfl
        have yf : ∀ o, V.frozen? ⟨w.heap.size, o, none⟩ = false := fun o => blk_free rV
        have hpn := HPN.out
        have e3 : IntKind.i64.wrap ((en : Int) - (f2 : Int)) = ((koff tk tk.length : Nat) : Int) := by
          rw [koff_all, ← hat'.2, IntKind.wrap_i64]
          have := HWT.out
          omega
        have htk := HTB.out.2
        rw [htk] at i0 a0 e3
        have HD := hideP (And.intro hdef (And.intro rV (And.intro hI.bw (show w.heap.size < W11.heap.size by omega))))
        clear hdef rV hI hk hx8 r8 hi8 hX8 hP8 hBe8 h08 hat hel' hlt hhp hXV hPV hgive hA11 hI11 hb811 hbw11 hsz11 hsz10 hsz8 hmk hat' hel hszw hpn htk
        generalize koff tk tkn = kn at *
        gi_wp2
        obtain ⟨hdef, rV, hbw, hszw⟩ := HD.out
        have hdV : (V.setCell ⟨w.heap.size, 0, none⟩ (.bool true)).heap[W11.heap.size]? = some (.deferred (some [])) := (Below.heap_setCell _ _ _ _ (by dsimp only; omega)).trans hdef
        refine ⟨by simp, .inl ⟨_, _, rfl, run_takeDeferred hdV, ?_⟩⟩
        have hr9 : ((V.setCell ⟨w.heap.size, 0, none⟩ (.bool true)).putObj W11.heap.size (.deferred none)).heap[w.heap.size]? = some (.cells #[.bool true] 4 (0, 0)) := (World.putObj_heap_other (by omega)).trans (blk_set rV _)
        have y9 := blk_cell hr9 (o := 0) rfl
        exact ⟨.bool true, by simp [results, Try.results11, go_sem, y9], rfl, (Below.setCell hbw (Nat.le_refl _) _).trans (below_putObj _ (by omega))⟩
      case round =>
        rintro q V hq hI ⟨rr, hlr⟩
        obtain ⟨t, ht⟩ : ∃ t, tk[q]? = some t := ⟨_, List.getElem?_eq_getElem hq⟩
        have hcase : (kidsP tk 0).getD q (0, 0, 0, 0) = (t.hdF.1, koff tk q + t.hdF.2, koff tk (q + 1), 0) := by
          have := kidsP_get (p := 0) ht
          rwa [Nat.zero_add, Nat.zero_add] at this
        have hmt := measK_get hmk ht
        have hmt0 : (t.meas 0).2 = 0 := by rw [Tree.meas_up t 0 hmt]; exact hmt
        obtain ⟨hk1, hk2⟩ := koff_next ht
        have hatk := hat'.1.kid ht
        unfold eav pc
        rw [hcase]
        dsimp only
        have hkq := hat'.2
        have hkb : koff tk (q + 1) ≤ pn := by omega
        have hkb0 : koff tk q ≤ koff tk (q + 1) := by omega
        have HR := hideP (And.intro hI (And.intro hlr (And.intro ht (And.intro hmt0 (And.intro hk1 (And.intro hatk (And.intro hkb (And.intro hkb0 (And.intro hq (And.intro hsz11 (And.intro hsz10 (And.intro hsz8 (And.intro hszw hel)))))))))))))
        clear hgive hA11 hI11 hb811 hbw11 hsz11 hsz10 hsz8 hmk hat' hel hszw hI hlr ht hmt hmt0 hk1 hk2 hatk hcase hkq hkb hkb0 hq
        generalize t.hdF.1 = kl at *
        generalize koff tk q + t.hdF.2 = kf at *
        gi_wp2
        obtain ⟨hI, hlr, ht, hmt0, hk1, hatk, hkb, hkb0, hq, hsz11, hsz10, hsz8, hszw, hel⟩ := HR.out
        refine ⟨(KeepsOthers.alloc V _).from _, fun r => ?_⟩
        have hlV := lt_of_block hlr
        have hlr1 : (V.alloc (.cells #[.int .i64 kl, .int .i64 kf, .int .i64 ((koff tk (q + 1) : Nat) : Int)] 40)).heap[W11.heap.size + 1]? = some (.loop rr) := (heap_old _ _ hlV).trans hlr
        have hI1 : KI w (W7.alloc (.cells #[.int .i64 f1, .int .i64 f2, .int .i64 en] 40)) W11 (W7.heap.size + 1) tk q ((V.alloc (.cells #[.int .i64 kl, .int .i64 kf, .int .i64 ((koff tk (q + 1) : Nat) : Int)] 40)).putObj (W11.heap.size + 1) (.loop r)) :=
          (hI.moved (by omega) (by omega) (by omega) ((Below.refl _ V).alloc hI.sz _)).moved (by omega) (by omega) (by omega) (below_putObj _ (by omega))
        have hpb : ((V.alloc (.cells #[.int .i64 kl, .int .i64 kf, .int .i64 ((koff tk (q + 1) : Nat) : Int)] 40)).putObj (W11.heap.size + 1) (.loop r)).heap[V.heap.size]? = some (.cells #[.int .i64 kl, .int .i64 kf, .int .i64 ((koff tk (q + 1) : Nat) : Int)] 40 (0, 0)) := putObj_cells hlr1 rfl (heap_new _ _) rfl
        have hkp1 : KpE (fun _ => False) (W11.heap.size + 1) V ((V.alloc (.cells #[.int .i64 kl, .int .i64 kf, .int .i64 ((koff tk (q + 1) : Nat) : Int)] 40)).putObj (W11.heap.size + 1) (.loop r)) :=
          ⟨by simp, fun b o h1 _ h3 => (World.putObj_heap_other (by omega)).trans ((heap_old _ _ (lt_of_block h1)).trans h1)⟩
        generalize (V.alloc (.cells #[.int .i64 kl, .int .i64 kf, .int .i64 ((koff tk (q + 1) : Nat) : Int)] 40)).putObj (W11.heap.size + 1) (.loop r) = V1 at *
        obtain ⟨hx8, r8, hi8, hX8, hP8, hBe8, h08, hat, hel', hlt, hhp⟩ := HW8.out
        have hk := hI1.b8
        have hX1 := (hk.block _ (lt_of_block hX8)).trans hX8
        have hP1 := (hk.block _ (lt_of_block hP8)).trans hP8
        have hB1 := (hk.block _ (lt_of_block hx8)).trans hx8
        obtain ⟨x0, x1, x2⟩ := cells3 hX1
        obtain ⟨p0, p1, p2⟩ := cells3 hP1
        obtain ⟨s0, s1, s2⟩ := cells3 hpb
        have a0 := blk_cell hI1.at_ (o := 0) rfl
        have i0 := blk_cell hI1.i (o := 0) rfl
        have hform := hi8.form
        rw [HTB.out.1, HTB.out.2] at hform
        obtain ⟨ca, cc, cka, ckc, ek, hbb, hKS, hKids⟩ := hform
        cases ek
        clear hbb
        obtain ⟨g, v0, v1, v2, ekg, hv0, hv1, hv2, hIt⟩ := (hKids.moved hk).get ht
        rw [Nat.zero_add] at hv0 hv1 hv2
        subst ekg
        have hfitk : t.fits := by
          have := HF.out
          unfold Tree.fits at this
          exact Tree.fitsK_get this.2.2 ht
        have hTW := twin_all _ _ _ _ (Nat.le_refl _) hIt hfitk
        cases t with
        | node ul ub uk =>
        obtain ⟨ua, uc, uka, ukc, ev, hbb, hbk, hbl⟩ := hIt.form
        cases ev
        clear hbb hbk hbl
        have hkc := hKS.le
        have htkn := HTB.out.2
        have hwtk : (Tree.node ul ub uk).wt ≤ 3145737 := by
          have h1 := HWT.out
          have h2 := Tree.wts_mem (List.mem_of_getElem? ht)
          rw [Tree.wt] at h1
          omega
        have g1 : ¬ ((q : Int) ≥ (tkn : Int)) := by omega
        have g1' : ¬ ((tkn : Int) ≤ (q : Int)) := by omega
        have g1'' : (q : Int) < (tkn : Int) := by omega
        have g2 : ¬ (((koff tk (q + 1) : Nat) : Int) < ((koff tk q : Nat) : Int)) := by omega
        have e3 : IntKind.i64.wrap ((en : Int) - (f2 : Int)) = ((pn : Nat) : Int) := by
          have h1 := HPN.out
          have h2 := HWT.out
          rw [IntKind.wrap_i64]
          omega
        have g3 : ¬ (((koff tk (q + 1) : Nat) : Int) > (pn : Int)) := by omega
        have g3' : ¬ ((pn : Int) < ((koff tk (q + 1) : Nat) : Int)) := by omega
        have HV1 := hideP (And.intro hI1 (And.intro hkp1 (And.intro hpb (And.intro hX1 (And.intro hP1 (And.intro hB1 (And.intro hwtk (And.intro hmt0 (And.intro hk1 (And.intro hatk (And.intro hkb (And.intro hkb0 (And.intro hq (And.intro hsz11 (And.intro hsz10 (And.intro hsz8 (And.intro hszw (And.intro hel (And.intro hBe8 (And.intro hlt (And.intro hhp hk)))))))))))))))))))))
        have HTW := hideP hTW
        clear hTW hI hlr ht hmt0 hk1 hatk hkb hkb0 hq hsz11 hsz10 hsz8 hszw hel hlr1 hI1 hpb hkp1 hx8 r8 hi8 hX8 hP8 hBe8 h08 hat hel' hlt hhp hk hX1 hP1 hB1 hKS hKids hIt hfitk hkc htkn hwtk hlV HR
        generalize ub.length = ubn at *
        generalize uk.length = ukn at *
        generalize hkt : koff tk (q + 1) = kt at *
        generalize hks : koff tk q = ks at *
        have HKT := hideP (And.intro hkt hks)
        clear hkt hks
        gi_wp2
        refine ⟨trivial, (CallsIn.inRound (W11.heap.size + 1) (callsIn_wide.2 HTW.out)).mono ?_⟩
        rintro e V2 ⟨⟨v2, rfl, hi2⟩, hb2⟩
        have hi2 := hi2.uncut
        have HBY2 := hideP hi2.by
        have HE2 := hideP (encode_any V2 hi2 (by have := HV1.out.2.2.2.2.2.2.1; omega) (by have := HV1.out.2.2.2.2.2.2.1; have := Tree.num_le (.node ul ub uk); omega))
        have HB2 := hideP hb2
        clear hi2 hb2 HTW x0 x1 x2 p0 p1 p2 s0 s1 s2 a0 i0 hv0 hv1 hv2
        gi_wp2
        refine ⟨trivial, (CallsIn.inRound (W11.heap.size + 1) (callsIn_wide.2 HE2.out)).mono ?_⟩
        rintro e V3 ⟨⟨r3, rfl, hr3⟩, hb3⟩
        obtain ⟨hI1, hkp1, hpb, hX1, hP1, hB1, hwtk, hmt0, hk1, hatk, hkb, hkb0, hq, hsz11, hsz10, hsz8, hszw, hel, hBe8, hlt, hhp, hk⟩ := HV1.out
        obtain ⟨G2, rfl, hG2, hg2⟩ := hr3.ok hmt0
        rw [hmt0]
        have hel2 := Tree.enc_le (.node ul ub uk) (by omega)
        have hlt2 := lb_lt (Tree.enc_by _ HBY2.out (by omega))
        have hBk : BS V3 (some ⟨G2, 0, none⟩) (Tree.node ul ub uk).enc.length (Tree.node ul ub uk).enc.length (lb (Tree.node ul ub uk).enc) := BS.cbs hlt2 (by unfold maxLen; omega) hg2
        have h13 := HB2.out.trans (hb3.mono HB2.out.size)
        have hP3 := (h13.block _ (lt_of_block hP1)).trans hP1
        have hB3 := (h13.block _ (lt_of_block hB1)).trans hB1
        have hA3 := (h13.block _ (lt_of_block hI1.at_)).trans hI1.at_
        rw [HKT.out.2] at hA3
        have hi3 := (h13.block _ (lt_of_block hI1.i)).trans hI1.i
        have hK3 := (h13.block _ (lt_of_block hpb)).trans hpb
        have hBe3 := (hBe8.moved hk).moved h13
        have hsp := HPN.out
        obtain ⟨ap, hBp, hap, hsl⟩ := hBe3.part_at (l := f2 + ks) (k := f2 + kt) (by omega) (by omega) (by omega)
        have hstr : strB (fun j => lb (Tree.node tl tb tk).enc (f2 + ks + j)) (f2 + kt - (f2 + ks)) = strB (lb (Tree.node ul ub uk).enc) (Tree.node ul ub uk).enc.length := by
          rw [show f2 + kt - (f2 + ks) = (Tree.node ul ub uk).enc.length by omega]
          exact strB_congr fun j hj => hatk j hj
        generalize (Tree.node ul ub uk).enc.length = te at *
        generalize hs2 : strB (lb (Tree.node ul ub uk).enc) te = so at *
        have hwtT := HWT.out
        have ea : IntKind.i64.wrap ((f2 : Int) + (ks : Int)) = ((f2 + ks : Nat) : Int) := by rw [IntKind.wrap_i64]; omega
        have eb : IntKind.i64.wrap ((f2 : Int) + (kt : Int)) = ((f2 + kt : Nat) : Int) := by rw [IntKind.wrap_i64]; omega
        have hS0 : KidS W5.heap.size W7.heap.size (W7.heap.size + 1) V.heap.size G en f1 f2 ks kl kf kt G2 te (lb (Tree.node ul ub uk).enc) ap (f2 + kt - (f2 + ks)) (en - (f2 + ks)) (fun j => lb (Tree.node tl tb tk).enc (f2 + ks + j)) V3.drew := ⟨hB3, hP3, hA3, hK3, hBk.drew, hBp.drew⟩
        have HV3 := hideP (And.intro h13 (And.intro hA3 (And.intro hi3 hK3)))
        clear h13 hP3 hB3 hA3 hi3 hK3 hBe3 hsp hBp hap hBk hlt2 hel2 hg2 hG2 hr3 hb3 hI1 hkp1 hpb hX1 hP1 hB1 hwtk hmt0 hk1 hatk hkb hkb0 hq hsz11 hsz10 hsz8 hszw hel hBe8 hlt hhp hk HE2 hwtT
        generalize f2 + kt - (f2 + ks) = pl at *
        generalize en - (f2 + ks) = pcap at *
        generalize hfs : f2 + ks = fs at *
        generalize hft : f2 + kt = ft at *
        clear hfs hft
        gi_wp2
        rename_i Q2 K2 hK2
        have HK2 := hideP hK2
        clear hK2
        refine regionIn_late [] (KidS W5.heap.size W7.heap.size (W7.heap.size + 1) V.heap.size G en f1 f2 ks kl kf kt G2 te (lb (Tree.node ul ub uk).enc) ap pl pcap (fun j => lb (Tree.node tl tb tk).enc (fs + j))) (by kernel_rfl) (by kernel_rfl) hS0 (fun hS => ?_)
        refine anyZ_take (i := 0) (g := 8) (v := ?_) rfl (by kernel_rfl) (by kernel_rfl) (by kernel_rfl) (by kernel_rfl) (by kernel_rfl) (fun _ _ _ h => h) (Or.inl ⟨by kernel_rfl, ?_⟩) hS ?_
        rotate_left
        · intro V0 hV
          go_simp
          (try with_reducible rfl)
        simp only [put_list, List.set_cons_succ, List.set_cons_zero]
        refine anyZ_take (i := 1) (g := 8) (v := .bool false) rfl (by kernel_rfl) (by kernel_rfl) (by kernel_rfl) (by kernel_rfl) (by kernel_rfl) (fun _ _ _ h => h) (Or.inl ⟨by kernel_rfl, ?_⟩) hS ?_
        · intro V0 hV
          go_simp
        simp only [put_list, List.set_cons_succ, List.set_cons_zero]
        refine anyZ_take (i := 2) (g := 8) (v := ?_) rfl (by kernel_rfl) (by kernel_rfl) (by kernel_rfl) (by kernel_rfl) (by kernel_rfl) (fun _ _ _ h => h) (Or.inl ⟨by kernel_rfl, ?_⟩) hS ?_
        rotate_left
        · intro V0 hV
          go_simp
          (try with_reducible rfl)
        simp only [put_list, List.set_cons_succ, List.set_cons_zero]
        refine anyZ_take (i := 3) (g := 8) (v := ?_) rfl (by kernel_rfl) (by kernel_rfl) (by kernel_rfl) (by kernel_rfl) (by kernel_rfl) (fun _ _ _ h => h) (Or.inl ⟨by kernel_rfl, ?_⟩) hS ?_
        rotate_left
        · intro V0 hV
          go_simp
          (try with_reducible rfl)
        simp only [put_list, List.set_cons_succ, List.set_cons_zero]
        refine anyZ_take (i := 4) (g := 8) (v := ?_) rfl (by kernel_rfl) (by kernel_rfl) (by kernel_rfl) (by kernel_rfl) (by kernel_rfl) (fun _ _ _ h => h) (Or.inl ⟨by kernel_rfl, ?_⟩) hS ?_
        rotate_left
        · intro V0 hV
          have hcv := conv_BS hV.2.2.2.2.1
          rw [hs2] at hcv
          go_simp
          (try with_reducible rfl)
        simp only [put_list, List.set_cons_succ, List.set_cons_zero]
        refine anyZ_take (i := 5) (g := 8) (v := ?_) rfl (by kernel_rfl) (by kernel_rfl) (by kernel_rfl) (by kernel_rfl) (by kernel_rfl) (fun _ _ _ h => h) (Or.inl ⟨by kernel_rfl, ?_⟩) hS ?_
        rotate_left
        · intro V0 hV
          have k0 := blk_cell hV.1 (o := 0) rfl
          go_simp
          (try with_reducible rfl)
        simp only [put_list, List.set_cons_succ, List.set_cons_zero]
        refine anyZ_take (i := 6) (g := 8) (v := ?_) rfl (by kernel_rfl) (by kernel_rfl) (by kernel_rfl) (by kernel_rfl) (by kernel_rfl) (fun _ _ _ h => h) (Or.inl ⟨by kernel_rfl, ?_⟩) hS ?_
        rotate_left
        · intro V0 hV
          go_simp
          (try with_reducible rfl)
        simp only [put_list, List.set_cons_succ, List.set_cons_zero]
        refine anyZ_take (i := 7) (g := 8) (v := ?_) rfl (by kernel_rfl) (by kernel_rfl) (by kernel_rfl) (by kernel_rfl) (by kernel_rfl) (fun _ _ _ h => h) (Or.inl ⟨by kernel_rfl, ?_⟩) hS ?_
        rotate_left
        · intro V0 hV
          obtain ⟨q0, q1, q2⟩ := cells3 hV.2.1
          go_simp
          (try with_reducible rfl)
        simp only [put_list, List.set_cons_succ, List.set_cons_zero]
        refine anyZ_take (i := 8) (g := 8) (v := ?_) rfl (by kernel_rfl) (by kernel_rfl) (by kernel_rfl) (by kernel_rfl) (by kernel_rfl) (fun _ _ _ h => h) (Or.inl ⟨by kernel_rfl, ?_⟩) hS ?_
        rotate_left
        · intro V0 hV
          have k0 := blk_cell hV.2.2.1 (o := 0) rfl
          go_simp
          (try with_reducible rfl)
        simp only [put_list, List.set_cons_succ, List.set_cons_zero]
        refine anyZ_take (i := 9) (g := 8) (v := ?_) rfl (by kernel_rfl) (by kernel_rfl) (by kernel_rfl) (by kernel_rfl) (by kernel_rfl) (fun _ _ _ h => h) (Or.inl ⟨by kernel_rfl, ?_⟩) hS ?_
        rotate_left
        · intro V0 hV
          go_simp
          (try with_reducible rfl)
        simp only [put_list, List.set_cons_succ, List.set_cons_zero]
        refine anyZ_take (i := 10) (g := 8) (v := ?_) rfl (by kernel_rfl) (by kernel_rfl) (by kernel_rfl) (by kernel_rfl) (by kernel_rfl) (fun _ _ _ h => h) (Or.inl ⟨by kernel_rfl, ?_⟩) hS ?_
        rotate_left
        · intro V0 hV
          go_simp
          (try with_reducible rfl)
        simp only [put_list, List.set_cons_succ, List.set_cons_zero]
        refine anyZ_take (i := 11) (g := 8) (v := ?_) rfl (by kernel_rfl) (by kernel_rfl) (by kernel_rfl) (by kernel_rfl) (by kernel_rfl) (fun _ _ _ h => h) (Or.inl ⟨by kernel_rfl, ?_⟩) hS ?_
        rotate_left
        · intro V0 hV
          obtain ⟨q0, q1, q2⟩ := cells3 hV.2.1
          go_simp
          (try with_reducible rfl)
        simp only [put_list, List.set_cons_succ, List.set_cons_zero]
        refine anyZ_take (i := 12) (g := 8) (v := ?_) rfl (by kernel_rfl) (by kernel_rfl) (by kernel_rfl) (by kernel_rfl) (by kernel_rfl) (fun _ _ _ h => h) (Or.inl ⟨by kernel_rfl, ?_⟩) hS ?_
        rotate_left
        · intro V0 hV
          go_simp
          (try with_reducible rfl)
        simp only [put_list, List.set_cons_succ, List.set_cons_zero]
        refine anyZ_take (i := 13) (g := 8) (v := ?_) rfl (by kernel_rfl) (by kernel_rfl) (by kernel_rfl) (by kernel_rfl) (by kernel_rfl) (fun _ _ _ h => h) (Or.inl ⟨by kernel_rfl, ?_⟩) hS ?_
        rotate_left
        · intro V0 hV
          obtain ⟨q0, q1, q2⟩ := cells3 hV.2.2.2.1
          go_simp
          (try with_reducible rfl)
        simp only [put_list, List.set_cons_succ, List.set_cons_zero]
        refine anyZ_take (i := 14) (g := 8) (v := ?_) rfl (by kernel_rfl) (by kernel_rfl) (by kernel_rfl) (by kernel_rfl) (by kernel_rfl) (fun _ _ _ h => h) (Or.inl ⟨by kernel_rfl, ?_⟩) hS ?_
        rotate_left
        · intro V0 hV
          go_simp
          (try with_reducible rfl)
        simp only [put_list, List.set_cons_succ, List.set_cons_zero]
        refine anyZ_take (i := 15) (g := 8) (v := ?_) rfl (by kernel_rfl) (by kernel_rfl) (by kernel_rfl) (by kernel_rfl) (by kernel_rfl) (fun _ _ _ h => h) (Or.inl ⟨by kernel_rfl, ?_⟩) hS ?_
        rotate_left
        · intro V0 hV
          go_simp
          (try with_reducible rfl)
        simp only [put_list, List.set_cons_succ, List.set_cons_zero]
        refine anyZ_take (i := 16) (g := 8) (v := ?_) rfl (by kernel_rfl) (by kernel_rfl) (by kernel_rfl) (by kernel_rfl) (by kernel_rfl) (fun _ _ _ h => h) (Or.inl ⟨by kernel_rfl, ?_⟩) hS ?_
        rotate_left
        · intro V0 hV
          have hcv := conv_BS hV.2.2.2.2.2
          rw [hstr] at hcv
          go_simp
          (try with_reducible rfl)
        simp only [put_list, List.set_cons_succ, List.set_cons_zero]
        refine anyZ_take (i := 17) (g := 8) (v := .bool false) rfl (by kernel_rfl) (by kernel_rfl) (by kernel_rfl) (by kernel_rfl) (by kernel_rfl) (fun _ _ _ h => h) (Or.inl ⟨by kernel_rfl, ?_⟩) hS ?_
        · intro V0 hV
          go_simp
        simp only [put_list, List.set_cons_succ, List.set_cons_zero]
        refine anyZ_take (i := 18) (g := 8) (v := ?_) rfl (by kernel_rfl) (by kernel_rfl) (by kernel_rfl) (by kernel_rfl) (by kernel_rfl) (fun _ _ _ h => h) (Or.inl ⟨by kernel_rfl, ?_⟩) hS ?_
        rotate_left
        · intro V0 hV
          go_simp
          (try with_reducible rfl)
        simp only [put_list, List.set_cons_succ, List.set_cons_zero]
        refine anyZ_done (by kernel_rfl) ?_ _
        refine HK2.out _ _ ?_
        have HV3d := hideP (show V3.drew.heap = V3.heap from rfl)
        have hA3 : V3.drew.heap[W7.heap.size + 1]? = _ := HV3.out.2.1
        have hi3 : V3.drew.heap[W7.heap.size + 1 + 1]? = _ := HV3.out.2.2.1
        have hK3 : V3.drew.heap[V.heap.size]? = _ := HV3.out.2.2.2
        have a0 := blk_cell hA3 (o := 0) rfl
        have i0 := blk_cell hi3 (o := 0) rfl
        have af : ∀ o, V3.drew.frozen? ⟨W7.heap.size + 1, o, none⟩ = false := fun o => blk_free hA3
        have if_ : ∀ o, V3.drew.frozen? ⟨W7.heap.size + 1 + 1, o, none⟩ = false := fun o => blk_free hi3
        obtain ⟨s0, s1, s2⟩ := cells3 hK3
        have h13 : Below V1.heap.size V1 V3.drew := HV3.out.1.drew
        have HF3 := hideP (And.intro hA3 (And.intro hi3 h13))
        clear hA3 hi3 hK3 h13 HV3 HV3d hS0 hS hsl hs2 hstr
        have eq1 : IntKind.i64.wrap ((q : Int) + 1) = ((q + 1 : Nat) : Int) := by
          have h1 := HV1.out.2.2.2.2.2.2.2.2.2.2.2.2.1
          have h2 := HTB.out.2
          have h3 := HF.out
          unfold Tree.fits at h3
          rw [IntKind.wrap_i64]
          omega
        generalize V3.drew = V4 at *
        gi_wp2
        obtain ⟨hA3, hi3, h13⟩ := HF3.out
        obtain ⟨hI1, hkp1, hpb, hX1, hP1, hB1, hwtk, hmt0, hk1, hatk, hkb, hkb0, hq, hsz11, hsz10, hsz8, hszw, hel, hBe8, hlt, hhp, hk⟩ := HV1.out
        have hs1 := h13.size
        have hs2 := hI1.sz
        have hA4 := blk_set hA3 (o := 0) (.int .i64 (kt : Int))
        have hI4 : (V4.setCell ⟨W7.heap.size + 1, 0, none⟩ (.int .i64 (kt : Int))).heap[W7.heap.size + 1 + 1]? = _ := (Below.heap_setCell _ _ _ _ (by dsimp only; omega)).trans hi3
        have hI5 := blk_set hI4 (o := 0) (.int .i64 ((q : Int) + 1))
        have hA5 : ((V4.setCell ⟨W7.heap.size + 1, 0, none⟩ (.int .i64 (kt : Int))).setCell ⟨W7.heap.size + 1 + 1, 0, none⟩ (.int .i64 ((q : Int) + 1))).heap[W7.heap.size + 1]? = _ := (Below.heap_setCell _ _ _ _ (by dsimp only; omega)).trans hA4
        have hoth : ∀ b, b ≠ W7.heap.size + 1 → b ≠ W7.heap.size + 1 + 1 → ((V4.setCell ⟨W7.heap.size + 1, 0, none⟩ (.int .i64 (kt : Int))).setCell ⟨W7.heap.size + 1 + 1, 0, none⟩ (.int .i64 ((q : Int) + 1))).heap[b]? = V4.heap[b]? := fun b h1 h2 => (Below.heap_setCell _ _ _ _ (by dsimp only; exact h2)).trans (Below.heap_setCell _ _ _ _ (by dsimp only; exact h1))
        refine ⟨⟨by simpa using hs1, fun b o hb h0 hc => (hoth b (by omega) (by omega)).trans ((h13.block b (lt_of_block h0)).trans h0)⟩, ⟨by have := hkp1.1; simp only [World.size_setCell]; omega, fun b o h0 h1 h2 => ?_⟩, ⟨?_, ?_, ?_, ?_, ?_⟩⟩
        · have h3 := hkp1.2 b o h0 (fun h => h) h2
          exact (hoth b (fun h => h1 (.inl h)) (fun h => h1 (.inr h))).trans ((h13.block b (lt_of_block h3)).trans h3)
        · rw [HKT.out.1]
          exact hA5
        · exact hI5
        · exact ((hI1.b8.trans (h13.mono (by omega))).setCell (by dsimp only; omega) _).setCell (by dsimp only; omega) _
        · exact ((hI1.bw.trans (h13.mono (by omega))).setCell (by dsimp only; omega) _).setCell (by dsimp only; omega) _
        · simp only [World.size_setCell]
          omega
  · have h0' : ¬ (me : Int) = 0 := by omega
    obtain rfl : r5 = .slice none 0 0 := by
      rcases hr5 with ⟨_, h⟩ | ⟨h, _⟩
      · exact h
      · omega
    have HQ := hideP (And.intro r5' H05.out)
    have y := blk_cell r5' (o := 0) rfl
    have yf : ∀ o, W5.frozen? ⟨w.heap.size, o, none⟩ = false := fun o => blk_free r5'
    have hlt := lt_of_block r5'
    clear r5' hr5 h35 hb5 HE H35 H05 R3
    gi_wp2
    obtain ⟨r5', h05⟩ := HQ.out
    have hr9 : ((W5.setCell ⟨w.heap.size, 0, none⟩ (.bool true)).alloc (.cells #[.slice none 0 0] 23)).heap[w.heap.size]? = some (.cells #[.bool true] 4 (0, 0)) := (heap_old _ _ (by simpa using hlt)).trans (blk_set r5' _)
    have y9 := blk_cell hr9 (o := 0) rfl
    refine ⟨.bool true, by simp [results, Try.results11, go_sem, y9], rfl, ?_⟩
    exact (Below.setCell h05 (Nat.le_refl _) _).alloc (by simpa using h05.size) _

end Go.Proofs.Ytigebmidfddbcaa
