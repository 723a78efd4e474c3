/-
  A form that is cut off, or has anything behind it: the walk of RlpCut.
-/
import Derived.Test.YtigebmidfddbcaaBig
namespace Go.Proofs.Ytigebmidfddbcaa
open Go.RowKit Go.Shelf

theorem EncOut.ok {N : Nat} {w' : World} {t : Tree} {r : Value} (h : EncOut N w' t r) (h0 : (t.meas 0).2 = 0) : ∃ G, r = .slice (some ⟨G, 0, none⟩) t.enc.length t.enc.length ∧ N ≤ G ∧ w'.heap[G]? = some (.cells (cbs t.enc.length (lb t.enc)) 5 (0, 0)) := by
  rcases h with ⟨h1, _⟩ | ⟨_, h⟩
  · exact absurd h0 h1
  · exact h

theorem hdB_by {m k : Nat} (hm : m ≤ 192) (hk : k ≤ 1099511627776) : ∀ x ∈ hdB m k, x < 256 := by
  intro x hx
  unfold hdB at hx
  by_cases h : k ≤ 55
  · rw [if_pos h] at hx
    simp only [List.mem_cons, List.not_mem_nil, or_false] at hx
    omega
  · rw [if_neg h] at hx
    have := NB_small hk
    rcases List.mem_cons.1 hx with rfl | hx
    · omega
    · have hl : ∀ n, ∀ y ∈ lowd k n, y < 256 := fun n => by
        induction n with
        | zero => intro y hy; cases hy
        | succ n ih =>
          intro y hy
          unfold lowd at hy
          rcases List.mem_cons.1 hy with rfl | hy
          · exact Nat.mod_lt _ (by decide)
          · exact ih y hy
      exact hl _ x hx

mutual
theorem Tree.enc_by : ∀ (t : Tree), t.by → t.wt ≤ 1099511627776 → ∀ x ∈ t.enc, x < 256
  | .node l b k, h, hw, x, hx => by
    unfold Tree.by at h
    have hle := Tree.enc_le (.node l b k) (by omega)
    unfold Tree.wt at hw
    have hk := Tree.encs_by k h.2 (by omega)
    have hkl := Tree.encs_le k (by omega)
    have hP : ∀ y ∈ b ++ Tree.encs k, y < 256 := fun y hy => by
      rcases List.mem_append.1 hy with hy | hy
      · exact h.1 y hy
      · exact hk y hy
    rw [enc_eq] at hx
    split at hx
    · exact hP x hx
    · rcases List.mem_append.1 hx with hx | hx
      · exact hdB_by (by split <;> omega) (by rw [List.length_append]; omega) x hx
      · exact hP x hx
theorem Tree.encs_by : ∀ (k : List Tree), Tree.byK k → Tree.wts k ≤ 1099511627776 → ∀ x ∈ Tree.encs k, x < 256
  | [], _, _, x, hx => by simp [Tree.encs] at hx
  | t :: ts, h, hw, x, hx => by
    unfold Tree.byK at h
    unfold Tree.wts at hw
    rw [Tree.encs_cons] at hx
    rcases List.mem_append.1 hx with hx | hx
    · exact Tree.enc_by t h.1 (by omega) x hx
    · exact Tree.encs_by ts h.2 (by omega) x hx
end

theorem lb_lt {L : List Nat} (h : ∀ x ∈ L, x < 256) (j : Nat) : lb L j < 256 := by
  unfold lb
  rw [List.getD_eq_getElem?_getD]
  cases e : L[j]? with
  | none => simp
  | some x => exact h x (List.mem_of_getElem? e)

/-- A part of a slice from its beginning on. -/
theorem BS.upto {w : World} {ao : Option Addr} {n cap : Nat} {bs : Nat → Nat} (h : BS w ao n cap bs) {k : Nat} (hk : k ≤ n) :
    BS w ao k cap bs ∧ ∀ W : World, (Instr.sliceAt 23 (.slice ao n cap) none (some (.int .i64 (k : Int))) none).run Try.prog W = .ok (.slice ao k cap) W := by
  have hle := h.le
  refine ⟨⟨h.lt, by omega, h.room, fun j hj => h.cell j (by omega), h.nil⟩, fun W => ?_⟩
  rw [run_sliceAt_slice (P := Try.prog) (w := W) 23 _ _ _ _ sliceT, run_slice_h (P := Try.prog) (w := W) 23 ao n cap sliceT .i64 (k : Int) (by omega) (by omega), elemB]
  simp [Result.andThen, sliced]
  cases ao <;> simp [Addr.add]

theorem cut_rem (X : Int) (n : Nat) (h0 : 0 < n) (hn : n ≤ 1099511627776) (hX : -9223372036854775808 ≤ X ∧ X ≤ 9223372036854775807) :
    ∃ k : Nat, k < n ∧ -(n : Int) < X.tmod n ∧ X.tmod n < n ∧ (X.tmod n + n).tmod n = (k : Int) := by
  have h1 : (X.tmod n) < n := by
    rcases Int.lt_or_le X 0 with h | h
    · have h4 := Int.tmod_nonneg (n : Int) (show 0 ≤ -X by omega)
      rw [Int.neg_tmod] at h4
      omega
    · exact Int.tmod_lt_of_pos X (by omega)
  have h2 : -(n : Int) < X.tmod n := by
    rcases Int.lt_or_le X 0 with h | h
    · have h4 := Int.tmod_lt_of_pos (-X) (show (0 : Int) < n by omega)
      rw [Int.neg_tmod] at h4
      omega
    · have := Int.tmod_nonneg (n : Int) h
      omega
  refine ⟨((X.tmod n + n).tmod n).toNat, ?_, h2, h1, ?_⟩
  · have h5 := Int.tmod_nonneg (n : Int) (show 0 ≤ X.tmod n + n by omega)
    have h6 := Int.tmod_lt_of_pos (X.tmod n + n) (show (0 : Int) < n by omega)
    omega
  · have h5 := Int.tmod_nonneg (n : Int) (show 0 ≤ X.tmod n + n by omega)
    omega

set_option maxHeartbeats 8000000 in
set_option maxRecDepth 100000 in
theorem rlpCut_walk (X : Int) (hX : -9223372036854775808 ≤ X ∧ X ≤ 9223372036854775807) {ns : List Nd} {ao : Option Addr} {c : Nat} {mb : List Nat} {ma : Option Addr} {mc : Nat} (w : World)
    (h : NS w ns ao c) (hok : NdOk ns) (hlen : ns.length ≤ 3518437208884) (hbulk : ndBulk ns ≤ 1048576) (hm : BS w ma mb.length mc (lb mb)) (_hml : mb.length ≤ 140737488355328) (hmk : mb.length ≤ 1048576) :
    Calls Try.prog 10 #[.slice ao ns.length c, .int .i64 X, .slice ma mb.length mc] w fun e w' => e = .returned (.bool true) ∧ Below w.heap.size w w' := by
  have HC := hideP (fun (W : World) (hb : Below w.heap.size w W) => lawItem_any W (h.moved hb) hok hlen)
  have hwt := treeOf_wt ns
  have hwt2 : (treeOf ns).wt ≤ 3145737 := by omega
  have HWT := hideP hwt2
  have HM := hideP hm
  clear h hok hlen hbulk hwt hwt2 hm
  generalize treeOf ns = t at *
  generalize ns.length = nn at *
  go_enter Try.func10, Try.ntmps10
  go_wp2_with fail
  refine (awake_any _).mono ?_
  rintro e W1 ⟨rfl, hb1⟩
  have H1 := hideP hb1
  clear hb1
  go_wp2_with fail
  refine (HC.out _ H1.out).mono ?_
  rintro e W2 ⟨⟨v2, rfl, hi2⟩, hb2⟩
  have hi2 := hi2.uncut
  have HBY := hideP hi2.by
  have HE := hideP (encode_any W2 hi2 (by have := HWT.out; omega) (by have := HWT.out; have := Tree.num_le t; omega))
  have H2 := hideP (H1.out.trans (hb2.mono H1.out.size))
  clear hi2 hb2 HC H1
  go_wp2_with fail
  refine HE.out.mono ?_
  rintro e W3 ⟨⟨r3, rfl, hr3⟩, hb3⟩
  have hb03 := H2.out.trans (hb3.mono H2.out.size)
  clear HE
  generalize hme : (t.meas 0).2 = me at *
  by_cases h0 : me = 0
  · subst h0
    obtain ⟨G, rfl, hG, hg⟩ := hr3.ok hme
    have hwt := HWT.out
    have hel := Tree.enc_le t (by omega)
    have hep := enc_pos t hme
    have hlt := lb_lt (Tree.enc_by t HBY.out (by omega))
    have hBe : BS W3 (some ⟨G, 0, none⟩) t.enc.length t.enc.length (lb t.enc) := BS.cbs hlt (by unfold maxLen; omega) hg
    have hdc := fun (bs : Nat → Nat) (n : Nat) => dec_cut (t := t) hme (by omega) (bs := bs) (n := n)
    have hdf := fun (bs : Nat → Nat) (n : Nat) => dec_form (t := t) hme (by omega) (bs := bs) (n := n)
    generalize hn : t.enc.length = n at *
    obtain ⟨k, hkn, hk1, hk2, hk3⟩ := cut_rem X n hep (by omega) hX
    have gz : ¬ (n : Int) = 0 := by omega
    have gz' : ((n : Int) == 0) = false := beq_eq_false_iff_ne.2 gz
    have e1 : IntKind.i64.wrap (X.tmod n) = X.tmod n := by rw [IntKind.wrap_i64]; omega
    have e2 : IntKind.i64.wrap (X.tmod n + n) = X.tmod n + n := by rw [IntKind.wrap_i64]; omega
    have e3 : IntKind.i64.wrap (k : Int) = (k : Int) := by rw [IntKind.wrap_i64]; omega
    obtain ⟨hBk, hsl⟩ := hBe.upto (k := k) (by omega)
    have HBK := hideP (lawBytes_any (by omega) W3 hBk)
    have HALL := hideP (And.intro hb03 (And.intro hBe (And.intro hdc (And.intro hdf (And.intro hel (And.intro hkn (And.intro hn (And.intro hwt hep))))))))
    clear hr3 hb3 hb03 hBe hdc hdf hel hkn hn hwt hep hBk hg hG hlt hk1 hk2
    go_wp2_with fail
    refine HBK.out.mono ?_
    rintro e W4 ⟨⟨v4, rfl, hO4⟩, hb4⟩
    obtain ⟨a4, c4, rfl, hB4, _⟩ := hO4.ex
    obtain ⟨hb03, hBe, hdc, hdf, hel, hkn, hn, hwt, hep⟩ := HALL.out
    have hD4 := decode_any W4 hB4 (by omega)
    rw [hdc (lb t.enc) k (fun j _ => rfl) (by omega)] at hD4
    have HD4 := hideP hD4
    have HB4 := hideP hb4
    clear hb03 hBe hdc hdf hel hkn hn hwt hep hO4 hB4 hD4 hb4 HBK
    go_wp2_with fail
    refine HD4.out.mono ?_
    rintro e W5 ⟨⟨v5, rfl, hi5⟩, hb5⟩
    obtain ⟨xa, xc, ka, kc, rfl, _, _, _⟩ := hi5.form
    have hb35 := HB4.out.trans (hb5.mono HB4.out.size)
    have hb36 := hb35.alloc hb35.size (.cells #[.int .i64 0, .slice xa 0 xc, .slice ka 0 kc] 26)
    obtain ⟨hb03, hBe, hdc, hdf, hel, hkn, hn, hwt, hep⟩ := HALL.out
    have hb06 := hb03.trans (hb36.mono hb03.size)
    have H6 := hideP hb06
    have hBe6 := hBe.moved hb36
    have hM6 := HM.out.moved hb06
    have HR := hideP (lawBytes_row (by omega) _ hBe6)
    have HM6 := hideP hM6
    have hl256 := hBe.lt
    clear hb03 hBe hdc hdf hel hkn hn hwt hep hi5 hb5 hb35 hb36 hb06 hBe6 hM6 HB4 HD4 HM
    simp only [List.length_nil]
    by_cases hm0 : mb.length = 0
    · have gm : ((mb.length : Int) == 0) = true := by rw [hm0]; rfl
      have gm' : (mb.length : Int) = 0 := by omega
      generalize mb.length = ml at *
      clear hm0
      go_wp2_with fail
      go_ret
      exact ⟨rfl, H6.out⟩
    · have gm : ((mb.length : Int) == 0) = false := beq_eq_false_iff_ne.2 (by omega)
      have gm' : ¬ (mb.length : Int) = 0 := by omega
      generalize hml : mb.length = ml at *
      have HML := hideP hml
      clear hml
      go_wp2_with fail
      refine HR.out.mono ?_
      rintro e W7 ⟨⟨v7, rfl, hO7⟩, hb7⟩
      have hM7 := HM6.out.moved hb7
      obtain ⟨hb03, hBe, hdc, hdf, hel, hkn, hn, hwt, hep⟩ := HALL.out
      obtain ⟨i0, hi, hz0, hz1, hz2⟩ := info_parts Try.bytes5
      have hT : Try.prog.underlying 23 = some (.slice 5) := by kernel_rfl
      obtain ⟨ad, rfl, _⟩ := hM7.cell 0 (by omega)
      obtain ⟨v8, W8, hr8, hO8, hg8, _⟩ := run_append_own_wide (P := Try.prog) W7 _ 23 23 5 i0 (.int .u8 0) 1 1 hT hi hz0 hz1 hz2 rfl (by omega) v7 n _ hO7 ad ml mc (byR ml (lb mb)) (by rw [byR_len, Nat.mul_one]) (byR_cells hM7) byR_one (by unfold maxLen; omega) (by omega) hb7.size
      have hjoin : byR n (lb t.enc) ++ byR ml (lb mb) = byR (n + ml) (lb (t.enc ++ mb)) := by
        apply List.ext_getElem?
        intro j
        by_cases h1 : j < n
        · rw [List.getElem?_append_left (by rw [byR_len]; exact h1), byR_get h1, byR_get (by omega), lb_left (by omega)]
        · by_cases h2 : j < n + ml
          · rw [List.getElem?_append_right (by rw [byR_len]; omega), byR_len, byR_get (by omega), byR_get h2]
            have e : j = t.enc.length + (j - n) := by omega
            conv => rhs; rw [e, lb_right]
          · rw [List.getElem?_eq_none (by rw [List.length_append, byR_len, byR_len]; omega), List.getElem?_eq_none (by rw [byR_len]; omega)]
      rw [hjoin] at hO8
      have hlj : ∀ j, lb (t.enc ++ mb) j < 256 := fun j => by
        by_cases h1 : j < n
        · rw [lb_left (by omega)]; exact hl256 j
        · have e : j = t.enc.length + (j - n) := by omega
          rw [e, lb_right]; exact hM7.lt _
      obtain ⟨a8, c8, rfl, hB8⟩ := row_BS hlj hO8
      have hD8 := decode_any W8 hB8 (by omega)
      rw [hdf (lb (t.enc ++ mb)) (n + ml) (by have := At.lb (t.enc ++ mb); exact this.left) (by omega), if_pos (by omega)] at hD8
      have hs6 := H6.out.size
      have hs7 := hb7.size
      have hb08 : Below w.heap.size w W8 := (H6.out.trans (hb7.mono hs6)).grown hg8 (by omega) (fun k hk => by have := (hO7.lt k hk).1; omega)
      have HD8 := hideP hD8
      have HR8 := hideP hr8
      have H8 := hideP hb08
      clear hM7 hb03 hBe hdc hdf hel hkn hn hwt hep hi hz0 hz1 hz2 hT hr8 hO8 hg8 hjoin hlj hB8 hD8 hO7 hb7 hs6 hs7 hb08 HR HM6 H6 HALL
      go_wp2_with (at_builtin; refine wpList_append_run rfl _ _ 23 rfl rfl rfl rfl HR8.out ?_)
      refine HD8.out.mono ?_
      rintro e W9 ⟨⟨v9, rfl, hi9⟩, hb9⟩
      have H9 := hideP (H8.out.trans (hb9.mono H8.out.size))
      clear hi9 hb9 H8 HD8 HR8
      go_wp2_with fail
      go_ret
      exact ⟨rfl, H9.out⟩
  · have h0' : ¬ (me : Int) = 0 := by omega
    have HB := hideP hb03
    obtain ⟨r, rfl⟩ : ∃ r : Value, r3 = r := ⟨_, rfl⟩
    clear hr3 hb3 hb03
    go_wp2_with fail
    go_ret
    exact ⟨rfl, HB.out⟩

end Go.Proofs.Ytigebmidfddbcaa
