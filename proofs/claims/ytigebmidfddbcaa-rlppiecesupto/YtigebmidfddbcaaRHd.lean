/-
  The document's head of a form.
-/
import Derived.Test.YtigebmidfddbcaaRLst
import Derived.Test.YtigebmidfddbcaaEnvl
import Derived.Test.YtigebmidfddbcaaCut
import Derived.Test.YtigebmidfddbcaaBackN
namespace Go.Proofs.Ytigebmidfddbcaa
open Go.RowKit Go.Shelf

/-- Bytes in a row of their own. -/
def OwnL (N : Nat) (w : World) (v : Value) (b : List Nat) : Prop := w.ownsRow N 5 1 v b.length (byR b.length (lb b))

theorem OwnL.nil (N : Nat) (w : World) : OwnL N w (.slice none 0 0) [] := ⟨rfl, Or.inl ⟨rfl, rfl⟩⟩

theorem byR_join (b b2 : List Nat) : byR b.length (lb b) ++ byR b2.length (lb b2) = byR (b.length + b2.length) (lb (b ++ b2)) := by
  apply List.ext_getElem?
  intro j
  by_cases h1 : j < b.length
  · rw [List.getElem?_append_left (by rw [byR_len]; exact h1), byR_get h1, byR_get (by omega), lb_left (by omega)]
  · by_cases h2 : j < b.length + b2.length
    · rw [List.getElem?_append_right (by rw [byR_len]; omega), byR_len, byR_get (by omega), byR_get h2]
      have e : j = b.length + (j - b.length) := by omega
      conv => rhs; rw [e, lb_right]
    · rw [List.getElem?_eq_none (by rw [List.length_append, byR_len, byR_len]; omega), List.getElem?_eq_none (by rw [byR_len]; omega)]

/-- More bytes behind them. -/
theorem OwnL.append {w : World} {N : Nat} {v : Value} {b b2 : List Nat} (h : OwnL N w v b) (hN : N ≤ w.heap.size) {ao : Option Addr} {c : Nat} (hB : BS w ao b2.length c (lb b2)) (hn : b.length + b2.length ≤ 4398046511104) :
    ∃ v' w', (Builtin.append_ #[23, 23] 23 #[v, .slice ao b2.length c]).run Try.prog w = .ok v' w' ∧ OwnL N w' v' (b ++ b2) ∧ Below N w w' ∧ w.grownBy w' v.ownBlock := by
  obtain ⟨i0, hi, hz0, hz1, hz2⟩ := info_parts Try.bytes5
  have hT : Try.prog.underlying 23 = some (.slice 5) := by kernel_rfl
  by_cases h0 : b2.length = 0
  · have hb := List.eq_nil_of_length_eq_zero h0
    subst hb
    refine ⟨v, w, ?_, by rw [List.append_nil]; exact h, Below.refl _ _, World.grownBy.refl _ _⟩
    have hsrc : ∃ n c', v = .slice (match v with | .slice a _ _ => a | _ => none) n c' ∧ n ≤ c' := by
      rcases h.2 with ⟨rfl, h0⟩ | ⟨g, cap, cur, rfl, _, _, hle, _⟩
      · exact ⟨0, 0, rfl, Nat.le_refl _⟩
      · exact ⟨_, _, rfl, hle⟩
    obtain ⟨n, c', e, hle⟩ := hsrc
    rw [e]
    cases ao with
    | none => exact run_append_nothing (P := Try.prog) w 23 23 23 5 i0 hT hi _ n c' hle _ (Src.ofNil w hT c)
    | some a => exact run_append_nothing (P := Try.prog) w 23 23 23 5 i0 hT hi _ n c' hle _ (Src.ofSlice w hT a 0 c [] (by simp) (fun j u h => by simp at h) (fun u h => by cases h))
  · obtain ⟨ad, rfl, _⟩ := hB.cell 0 (by omega)
    obtain ⟨v', w', hr, hO, hgr, _⟩ := run_append_own_wide (P := Try.prog) w N 23 23 5 i0 (.int .u8 0) 1 1 hT hi hz0 hz1 hz2 rfl (by omega) _ b.length _ h ad b2.length c (byR b2.length (lb b2)) (by rw [byR_len, Nat.mul_one]) (byR_cells hB) byR_one (by unfold maxLen; omega) (by omega) hN
    rw [byR_join] at hO
    refine ⟨v', w', hr, ?_, (Below.refl _ w).grown hgr hN (fun x hx => (h.lt x hx).1), hgr⟩
    unfold OwnL
    rw [List.length_append]
    exact hO

theorem LB_NB {k n : Nat} (hk : k < 18446744073709551616) (h0 : 0 < k) (h : LB k n) : n = NB k := by
  have hm : k % M256 = k := Nat.mod_eq_of_lt (Nat.lt_trans hk (by decide))
  have h1 := h.lt
  have h2 := h.ge
  rw [hm] at h1 h2
  cases n with
  | zero => rw [Nat.mul_zero, Nat.pow_zero] at h1; omega
  | succ n =>
    rw [Nat.pow_mul] at h1
    have h2 := h2 (by omega)
    rw [Nat.pow_mul] at h2
    exact (NB_of hk h2 h1).symm

theorem low_lowd {k n : Nat} : ∀ j, j < n → lowB k n j = lb (lowd k n) j := fun j hj => by
  rw [lowd_get k n j hj]
  unfold lowB byt
  rw [Nat.pow_mul]

set_option maxHeartbeats 4000000 in
set_option maxRecDepth 100000 in
theorem refhd_any (m k : Nat) (hm : m = 128 ∨ m = 192) (hk : k ≤ 1099511627776) (w : World) :
    Calls Try.prog 74 #[.int .u8 m, .int .i64 k] w fun e w' => (∃ v, e = .returned v ∧ OwnL w.heap.size w' v (hdB m k)) ∧ Below w.heap.size w w' := by
  by_cases h55 : k ≤ 55
  · have hh : hdB m k = [m + k] := by unfold hdB; rw [if_pos h55]
    rw [hh]
    have g : (k : Int) ≤ 55 := by omega
    have e1 : IntKind.u8.wrap (k : Int) = (k : Int) := by rw [IntKind.wrap_u8]; omega
    have e2 : IntKind.u8.wrap ((m : Int) + (k : Int)) = ((m + k : Nat) : Int) := by rw [IntKind.wrap_u8]; omega
    have hO : OwnL w.heap.size (w.alloc (.cells #[.int .u8 ((m + k : Nat) : Int)] 5)) (.slice (some ⟨w.heap.size, 0, none⟩) 1 1) [m + k] := ⟨rfl, Or.inr ⟨w.heap.size, 1, #[.int .u8 ((m + k : Nat) : Int)], rfl, Nat.le_refl _, heap_new _ _, Nat.le_refl _, by decide, rfl, rfl⟩⟩
    have HO := hideP (And.intro hO ((Below.refl _ w).alloc (Nat.le_refl _) (.cells #[.int .u8 ((m + k : Nat) : Int)] 5)))
    clear hh h55 hm hk hO
    generalize [m + k] = L at *
    generalize m + k = mk at *
    go_enter Try.func74, Try.ntmps74
    go_wp2_with fail
    go_ret
    exact ⟨⟨_, rfl, HO.out.1⟩, HO.out.2⟩
  · have hh : hdB m k = [m + 55 + NB k] ++ lowd k (NB k) := by unfold hdB; rw [if_neg h55]; rfl
    have HH := hideP hh
    have g : ¬ (k : Int) ≤ 55 := by omega
    have hN := NB_small hk
    have e0 : IntKind.u64.wrap (k : Int) = (k : Int) := by rw [IntKind.wrap_u64]; omega
    have e1 : IntKind.u8.wrap ((m : Int) + 55) = ((m + 55 : Nat) : Int) := by rw [IntKind.wrap_u8]; omega
    have e2 : IntKind.u8.wrap (NB k : Int) = (NB k : Int) := by rw [IntKind.wrap_u8]; omega
    have e3 : IntKind.u8.wrap (((m + 55 : Nat) : Int) + (NB k : Int)) = ((m + 55 + NB k : Nat) : Int) := by rw [IntKind.wrap_u8]; omega
    have HOF := hideP (fun W => refOf_any k (by omega) W)
    have HLS := hideP (fun W => refLeast_any k W)
    have HK := hideP (And.intro (show k < 18446744073709551616 by omega) (And.intro (show 0 < k by omega) hN))
    obtain ⟨x0, x1, x2, x3, hx⟩ := wv_form k
    simp only [hx] at HOF HLS
    clear hh hm hk h55 hN hx
    go_enter Try.func74, Try.ntmps74
    go_wp2_with fail
    refine (HOF.out _).mono ?_
    rintro e W1 ⟨rfl, hb1⟩
    have H1 := hideP hb1
    clear hb1 HOF
    go_wp2_with fail
    refine (HLS.out _).mono ?_
    rintro e W2 ⟨⟨v, n, rfl, hlb, hO⟩, hb2⟩
    obtain rfl := LB_NB HK.out.1 HK.out.2.1 hlb
    obtain ⟨ao, c, rfl, hB, _⟩ := hO.ex
    have hbw : Below w.heap.size w W2 := H1.out.trans (hb2.mono H1.out.size)
    have hlen := lowd_length k (NB k)
    have hB2 : BS W2 ao (lowd k (NB k)).length c (lb (lowd k (NB k))) := by
      rw [hlen]
      refine hB.congr (fun j => ?_) (fun j hj => (low_lowd j hj).symm)
      by_cases hj : j < NB k
      · rw [← low_lowd j hj]; exact byt_lt _ _
      · unfold lb
        rw [List.getD_eq_getElem?_getD, List.getElem?_eq_none (by omega)]
        decide
    have hb3 : Below W2.heap.size W2 (W2.alloc (.cells #[.int .u8 ((m + 55 + NB k : Nat) : Int)] 5)) := (Below.refl _ W2).alloc (Nat.le_refl _) _
    have hrow : OwnL w.heap.size (W2.alloc (.cells #[.int .u8 ((m + 55 + NB k : Nat) : Int)] 5)) (.slice (some ⟨W2.heap.size, 0, none⟩) 1 1) [m + 55 + NB k] := ⟨rfl, Or.inr ⟨W2.heap.size, 1, #[.int .u8 ((m + 55 + NB k : Nat) : Int)], rfl, hbw.size, heap_new _ _, Nat.le_refl _, by decide, rfl, rfl⟩⟩
    obtain ⟨v', W4, hrun, hO4, hb4, _⟩ := hrow.append (by have := hbw.size; simp; omega) (hB2.moved hb3) (by have := HK.out.2.2; rw [hlen]; simp; omega)
    rw [hlen] at hrun
    have HRUN := hideP hrun
    rw [← HH.out] at hO4
    have HE := hideP (And.intro hO4 ((hbw.alloc hbw.size _).trans hb4))
    clear hlb hO hB hb2 hbw hlen hB2 hb3 hrow hrun hO4 hb4 H1 HLS
    clear HH
    generalize hq1 : m + 55 + NB k = q1 at *
    generalize hq2 : m + 55 = q2 at *
    generalize hq3 : NB k = q3 at *
    clear hq1 hq2 hq3
    go_wp2_with (at_builtin; refine wpList_append_run rfl _ _ 23 rfl rfl rfl rfl HRUN.out ?_)
    go_ret
    exact ⟨⟨_, rfl, HE.out.1⟩, HE.out.2⟩

end Go.Proofs.Ytigebmidfddbcaa
