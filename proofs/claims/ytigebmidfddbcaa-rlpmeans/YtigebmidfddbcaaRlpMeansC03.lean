/-
  The head of a form, as the program reads it.
-/
import Derived.Test.YtigebmidfddbcaaRlpMeansC02
namespace Go.Proofs.Ytigebmidfddbcaa
open Go.RowKit

/-- What stands at the front of bytes: a list or not, where the payload begins and ends, the error. -/
def hd (bs : Nat → Nat) (n : Nat) : Nat × Nat × Nat × Nat :=
  if n = 0 then (0, 0, 0, 41)
  else if bs 0 < 128 then (0, 0, 1, 0)
  else if bs 0 < 192 then
    if (rl bs n 128).2.2 ≠ 0 then (0, 0, 0, (rl bs n 128).2.2)
    else if n - (rl bs n 128).1 < (rl bs n 128).2.1 then (0, 0, 0, 41)
    else if (rl bs n 128).2.1 = 1 ∧ bs (rl bs n 128).1 < 128 then (0, 0, 0, 42)
    else (0, (rl bs n 128).1, (rl bs n 128).1 + (rl bs n 128).2.1, 0)
  else
    if (rl bs n 192).2.2 ≠ 0 then (0, 0, 0, (rl bs n 192).2.2)
    else if n - (rl bs n 192).1 < (rl bs n 192).2.1 then (0, 0, 0, 41)
    else (1, (rl bs n 192).1, (rl bs n 192).1 + (rl bs n 192).2.1, 0)

/-- A piece, as a value. -/
def pc (l f t : Nat) : Value := .agg #[.int .i64 l, .int .i64 f, .int .i64 t]

theorem rl_ok {bs : Nat → Nat} {n m : Nat} (hn : 0 < n) (h : (rl bs n m).2.2 = 0) : 1 ≤ (rl bs n m).1 ∧ (rl bs n m).1 ≤ n ∧ (rl bs n m).2.1 ≤ 1099511627776 := by
  unfold rl at h ⊢
  by_cases h1 : bs 0 - m ≤ 55
  · rw [if_pos h1] at h ⊢
    exact ⟨Nat.le_refl _, hn, by show bs 0 - m ≤ _; omega⟩
  · rw [if_neg h1] at h ⊢
    by_cases h2 : n < bs 0 - m - 54
    · rw [if_pos h2] at h; cases h
    · rw [if_neg h2] at h ⊢
      by_cases h3 : bs 1 = 0 ∨ dv bs (bs 0 - m - 55) ≤ 55 ∨ 1099511627776 < dv bs (bs 0 - m - 55)
      · rw [if_pos h3] at h; cases h
      · rw [if_neg h3] at h ⊢
        refine ⟨by show 1 ≤ bs 0 - m - 54; omega, by show bs 0 - m - 54 ≤ n; omega, by show dv bs _ ≤ _; omega⟩

set_option maxHeartbeats 4000000 in
set_option maxRecDepth 100000 in
theorem head_none {ao : Option Addr} {n cap : Nat} {bs : Nat → Nat} (w : World) (h : BS w ao n cap bs) (h0 : n = 0) :
    Calls Try.prog 20 #[.slice ao n cap] w fun e w' => e = .returned (.tuple #[pc (hd bs n).1 (hd bs n).2.1 (hd bs n).2.2.1, .int .i64 (hd bs n).2.2.2]) ∧ Below w.heap.size w w' := by
  subst h0
  have HR : Hid (hd bs 0 = (0, 0, 0, 41)) := by unfold hd; rw [if_pos rfl]; exact rfl
  clear h
  go_enter Try.func20, Try.ntmps20
  go_wp2_with fail
  refine bodyPost_ret (v := .tuple #[.agg #[.int .i64 0, .int .i64 0, .int .i64 0], .int .i64 41]) (by simp [results, Try.results20, go_sem]) rfl ⟨by rw [HR.out] <;> rfl, ?_⟩
  repeat first | exact Below.refl _ _ | (refine Below.alloc ?_ (by simp <;> omega) _) | (refine Below.setCell ?_ (by simp <;> omega) _)

set_option maxHeartbeats 4000000 in
set_option maxRecDepth 100000 in
theorem head_byte {ao : Option Addr} {n cap : Nat} {bs : Nat → Nat} (w : World) (h : BS w ao n cap bs) (h0 : 0 < n) (h1 : bs 0 < 128) :
    Calls Try.prog 20 #[.slice ao n cap] w fun e w' => e = .returned (.tuple #[pc (hd bs n).1 (hd bs n).2.1 (hd bs n).2.2.1, .int .i64 (hd bs n).2.2.2]) ∧ Below w.heap.size w w' := by
  have HR : Hid (hd bs n = (0, 0, 1, 0)) := by unfold hd; rw [if_neg (by omega), if_pos h1]; exact rfl
  obtain ⟨ad, rfl, hc0⟩ := h.cell 0 h0
  have hc : w.cell? ad = some (.int .u8 (bs 0)) := by simpa [Addr.add] using hc0
  have gn : ¬ (n : Int) = 0 := by omega
  have gn' : ((n : Int) == 0) = false := beq_eq_false_iff_ne.2 gn
  have g0 : (0 : Int) < (n : Int) := by omega
  have g1 : ((bs 0 : Nat) : Int) < 128 := by omega
  have hcl : ad.block < w.heap.size := World.block_lt_of_cell? w _ hc
  generalize bs 0 = c at *
  clear hc0 h1 h
  go_enter Try.func20, Try.ntmps20
  go_wp2_with fail
  refine bodyPost_ret (v := .tuple #[.agg #[.int .i64 0, .int .i64 0, .int .i64 1], .int .i64 0]) (by simp [results, Try.results20, go_sem]) rfl ⟨by rw [HR.out] <;> rfl, ?_⟩
  repeat first | exact Below.refl _ _ | (refine Below.alloc ?_ (by simp <;> omega) _) | (refine Below.setCell ?_ (by simp <;> omega) _)

set_option maxHeartbeats 4000000 in
set_option maxRecDepth 100000 in
theorem head_128 {ao : Option Addr} {n cap : Nat} {bs : Nat → Nat} (w : World) (h : BS w ao n cap bs) (h0 : 0 < n) (h1 : ¬ bs 0 < 128) (h2 : bs 0 < 192) :
    Calls Try.prog 20 #[.slice ao n cap] w fun e w' => e = .returned (.tuple #[pc (hd bs n).1 (hd bs n).2.1 (hd bs n).2.2.1, .int .i64 (hd bs n).2.2.2]) ∧ Below w.heap.size w w' := by
  have h256 := h.lt 0
  have crl := fun W (hW : Below w.heap.size w W) => readLength_any 128 W (h.moved hW) h0 (by omega) (by omega)
  have hok := rl_ok (bs := bs) (m := 128) h0
  have hhd : hd bs n = if (rl bs n 128).2.2 ≠ 0 then (0, 0, 0, (rl bs n 128).2.2) else if n - (rl bs n 128).1 < (rl bs n 128).2.1 then (0, 0, 0, 41) else if (rl bs n 128).2.1 = 1 ∧ bs (rl bs n 128).1 < 128 then (0, 0, 0, 42) else (0, (rl bs n 128).1, (rl bs n 128).1 + (rl bs n 128).2.1, 0) := by unfold hd; rw [if_neg (by omega), if_neg h1, if_pos h2]
  have hpart := fun l k (W : World) (hW : Below w.heap.size w W) (hl : l ≤ k) (hk : k ≤ n) => (h.moved hW).part hl hk
  obtain ⟨ad, rfl, hc0⟩ := h.cell 0 h0
  have hc : w.cell? ad = some (.int .u8 (bs 0)) := by simpa [Addr.add] using hc0
  have gn : ¬ (n : Int) = 0 := by omega
  have gn' : ((n : Int) == 0) = false := beq_eq_false_iff_ne.2 gn
  have g0 : (0 : Int) < (n : Int) := by omega
  have g1 : ¬ ((bs 0 : Nat) : Int) < 128 := by omega
  have g2 : ¬ ((bs 0 : Nat) : Int) ≥ 192 := by omega
  have g2' : ¬ (192 : Int) ≤ ((bs 0 : Nat) : Int) := by omega
  have hcl : ad.block < w.heap.size := World.block_lt_of_cell? w _ hc
  have hmx : maxLen = 9223372036854775807 := by decide
  have hnm : n ≤ 9223372036854775807 := by have := h.le; have := h.room; omega
  generalize rl bs n 128 = r at *
  obtain ⟨f, len, e⟩ := r
  simp only at crl hok hhd
  have CRL := hideP crl
  have HHD := hideP hhd
  have HPT := hideP hpart
  have HBS := hideP h
  generalize hc1 : bs 0 = c at *
  clear hc0 h1 h2 h h256 crl hhd hmx hpart hc1
  by_cases he : e = 0
  · subst he
    obtain ⟨hf1, hfn, hl40⟩ := hok rfl
    have e1 : IntKind.i64.wrap ((n : Int) - (f : Int)) = ((n - f : Nat) : Int) := by rw [IntKind.wrap_i64]; omega
    have e2 : IntKind.u64.wrap ((n - f : Nat) : Int) = ((n - f : Nat) : Int) := by rw [IntKind.wrap_u64]; omega
    have e3 : IntKind.i64.wrap ((len : Nat) : Int) = ((len : Nat) : Int) := by rw [IntKind.wrap_i64]; omega
    by_cases hsh : n - f < len
    · have HR : Hid (hd bs n = (0, 0, 0, 41)) := HHD.out.trans ((if_neg (by decide)).trans (if_pos hsh))
      have g3 : ((len : Nat) : Int) > ((n - f : Nat) : Int) := by omega
      have g3' : ((n - f : Nat) : Int) < ((len : Nat) : Int) := by omega
      clear hok hf1 hfn hl40 hsh hnm
      generalize n - f = nf at *
      go_enter Try.func20, Try.ntmps20
      go_wp2_with fail
      refine (CRL.out _ ?_).mono ?_
      · repeat first | exact Below.refl _ _ | (refine Below.alloc ?_ (by simp <;> omega) _) | (refine Below.setCell ?_ (by simp <;> omega) _)
      rintro e w' ⟨rfl, rfl⟩
      go_wp2_with fail
      refine bodyPost_ret (v := .tuple #[.agg #[.int .i64 0, .int .i64 0, .int .i64 0], .int .i64 41]) (by simp [results, Try.results20, go_sem]) rfl ⟨by rw [HR.out] <;> rfl, ?_⟩
      repeat first | exact Below.refl _ _ | (refine Below.alloc ?_ (by simp <;> omega) _) | (refine Below.setCell ?_ (by simp <;> omega) _)
    · have g3 : ¬ ((len : Nat) : Int) > ((n - f : Nat) : Int) := by omega
      have g3' : ¬ ((n - f : Nat) : Int) < ((len : Nat) : Int) := by omega
      have e4 : IntKind.i64.wrap ((f : Int) + (len : Int)) = ((f + len : Nat) : Int) := by rw [IntKind.wrap_i64]; omega
      obtain ⟨ao', hB, hsl⟩ := HPT.out f (f + len) w (Below.refl _ _) (by omega) (by omega)
      rw [show f + len - f = len by omega] at hB hsl
      have csa := fun W (hW : Below w.heap.size w W) => standsAlone_any W (hB.moved hW)
      simp only [Nat.add_zero] at csa
      have CSA := hideP csa
      by_cases hal : len = 1 ∧ bs f < 128
      · have HR : Hid (hd bs n = (0, 0, 0, 42)) := HHD.out.trans ((if_neg (by decide)).trans ((if_neg hsh).trans (if_pos hal)))
        replace CSA : Hid (∀ W, Below w.heap.size w W → Calls Try.prog 54 #[.slice ao' len (cap - f)] W fun e w' => e = .returned (.bool true) ∧ W = w') := by
          intro W hW
          have := CSA.out W hW
          rw [decide_eq_true hal] at this
          exact this
        clear hok hf1 hfn hl40 hsh hnm hB csa hal
        generalize n - f = nf at *
        generalize f + len = fl at *
        go_enter Try.func20, Try.ntmps20
        go_wp2_with fail
        refine (CRL.out _ ?_).mono ?_
        · repeat first | exact Below.refl _ _ | (refine Below.alloc ?_ (by simp <;> omega) _) | (refine Below.setCell ?_ (by simp <;> omega) _)
        rintro e w' ⟨rfl, rfl⟩
        go_wp2_with fail
        refine (CSA.out _ ?_).mono ?_
        · repeat first | exact Below.refl _ _ | (refine Below.alloc ?_ (by simp <;> omega) _) | (refine Below.setCell ?_ (by simp <;> omega) _)
        rintro e w' ⟨rfl, rfl⟩
        go_wp2_with fail
        refine bodyPost_ret (v := .tuple #[.agg #[.int .i64 0, .int .i64 0, .int .i64 0], .int .i64 42]) (by simp [results, Try.results20, go_sem]) rfl ⟨by rw [HR.out] <;> rfl, ?_⟩
        repeat first | exact Below.refl _ _ | (refine Below.alloc ?_ (by simp <;> omega) _) | (refine Below.setCell ?_ (by simp <;> omega) _)
      · have HR : Hid (hd bs n = (0, f, f + len, 0)) := HHD.out.trans ((if_neg (by decide)).trans ((if_neg hsh).trans (if_neg hal)))
        replace CSA : Hid (∀ W, Below w.heap.size w W → Calls Try.prog 54 #[.slice ao' len (cap - f)] W fun e w' => e = .returned (.bool false) ∧ W = w') := by
          intro W hW
          have := CSA.out W hW
          rw [decide_eq_false hal] at this
          exact this
        clear hok hf1 hfn hl40 hsh hnm hB csa hal
        generalize n - f = nf at *
        generalize f + len = fl at *
        go_enter Try.func20, Try.ntmps20
        go_wp2_with fail
        refine (CRL.out _ ?_).mono ?_
        · repeat first | exact Below.refl _ _ | (refine Below.alloc ?_ (by simp <;> omega) _) | (refine Below.setCell ?_ (by simp <;> omega) _)
        rintro e w' ⟨rfl, rfl⟩
        go_wp2_with fail
        refine (CSA.out _ ?_).mono ?_
        · repeat first | exact Below.refl _ _ | (refine Below.alloc ?_ (by simp <;> omega) _) | (refine Below.setCell ?_ (by simp <;> omega) _)
        rintro e w' ⟨rfl, rfl⟩
        go_wp2_with fail
        refine bodyPost_ret (v := .tuple #[.agg #[.int .i64 0, .int .i64 f, .int .i64 fl], .int .i64 0]) (by simp [results, Try.results20, go_sem]) rfl ⟨by rw [HR.out] <;> rfl, ?_⟩
        repeat first | exact Below.refl _ _ | (refine Below.alloc ?_ (by simp <;> omega) _) | (refine Below.setCell ?_ (by simp <;> omega) _)
  · have HR : Hid (hd bs n = (0, 0, 0, e)) := HHD.out.trans (if_pos he)
    have g3 : ¬ ((e : Nat) : Int) = 0 := by omega
    have g3' : (((e : Nat) : Int) == 0) = false := beq_eq_false_iff_ne.2 g3
    clear hok he hnm
    go_enter Try.func20, Try.ntmps20
    go_wp2_with fail
    refine (CRL.out _ ?_).mono ?_
    · repeat first | exact Below.refl _ _ | (refine Below.alloc ?_ (by simp <;> omega) _) | (refine Below.setCell ?_ (by simp <;> omega) _)
    rintro e' w' ⟨rfl, rfl⟩
    go_wp2_with fail
    refine bodyPost_ret (v := .tuple #[.agg #[.int .i64 0, .int .i64 0, .int .i64 0], .int .i64 e]) (by simp [results, Try.results20, go_sem]) rfl ⟨by rw [HR.out] <;> rfl, ?_⟩
    repeat first | exact Below.refl _ _ | (refine Below.alloc ?_ (by simp <;> omega) _) | (refine Below.setCell ?_ (by simp <;> omega) _)

set_option maxHeartbeats 4000000 in
set_option maxRecDepth 100000 in
theorem head_192 {ao : Option Addr} {n cap : Nat} {bs : Nat → Nat} (w : World) (h : BS w ao n cap bs) (h0 : 0 < n) (h1 : ¬ bs 0 < 128) (h2 : ¬ bs 0 < 192) :
    Calls Try.prog 20 #[.slice ao n cap] w fun e w' => e = .returned (.tuple #[pc (hd bs n).1 (hd bs n).2.1 (hd bs n).2.2.1, .int .i64 (hd bs n).2.2.2]) ∧ Below w.heap.size w w' := by
  have h256 := h.lt 0
  have crl := fun W (hW : Below w.heap.size w W) => readLength_any 192 W (h.moved hW) h0 (by omega) (by omega)
  have hok := rl_ok (bs := bs) (m := 192) h0
  have hhd : hd bs n = if (rl bs n 192).2.2 ≠ 0 then (0, 0, 0, (rl bs n 192).2.2) else if n - (rl bs n 192).1 < (rl bs n 192).2.1 then (0, 0, 0, 41) else (1, (rl bs n 192).1, (rl bs n 192).1 + (rl bs n 192).2.1, 0) := by unfold hd; rw [if_neg (by omega), if_neg h1, if_neg h2]
  have hpart := fun l k (W : World) (hW : Below w.heap.size w W) (hl : l ≤ k) (hk : k ≤ n) => (h.moved hW).part hl hk
  obtain ⟨ad, rfl, hc0⟩ := h.cell 0 h0
  have hc : w.cell? ad = some (.int .u8 (bs 0)) := by simpa [Addr.add] using hc0
  have gn : ¬ (n : Int) = 0 := by omega
  have gn' : ((n : Int) == 0) = false := beq_eq_false_iff_ne.2 gn
  have g0 : (0 : Int) < (n : Int) := by omega
  have g1 : ¬ ((bs 0 : Nat) : Int) < 128 := by omega
  have g2 : ((bs 0 : Nat) : Int) ≥ 192 := by omega
  have g2' : (192 : Int) ≤ ((bs 0 : Nat) : Int) := by omega
  have hcl : ad.block < w.heap.size := World.block_lt_of_cell? w _ hc
  have hmx : maxLen = 9223372036854775807 := by decide
  have hnm : n ≤ 9223372036854775807 := by have := h.le; have := h.room; omega
  generalize rl bs n 192 = r at *
  obtain ⟨f, len, e⟩ := r
  simp only at crl hok hhd
  have CRL := hideP crl
  have HHD := hideP hhd
  have HPT := hideP hpart
  have HBS := hideP h
  generalize hc1 : bs 0 = c at *
  clear hc0 h1 h2 h h256 crl hhd hmx hpart hc1
  by_cases he : e = 0
  · subst he
    obtain ⟨hf1, hfn, hl40⟩ := hok rfl
    have e1 : IntKind.i64.wrap ((n : Int) - (f : Int)) = ((n - f : Nat) : Int) := by rw [IntKind.wrap_i64]; omega
    have e2 : IntKind.u64.wrap ((n - f : Nat) : Int) = ((n - f : Nat) : Int) := by rw [IntKind.wrap_u64]; omega
    have e3 : IntKind.i64.wrap ((len : Nat) : Int) = ((len : Nat) : Int) := by rw [IntKind.wrap_i64]; omega
    by_cases hsh : n - f < len
    · have HR : Hid (hd bs n = (0, 0, 0, 41)) := HHD.out.trans ((if_neg (by decide)).trans (if_pos hsh))
      have g3 : ((len : Nat) : Int) > ((n - f : Nat) : Int) := by omega
      have g3' : ((n - f : Nat) : Int) < ((len : Nat) : Int) := by omega
      clear hok hf1 hfn hl40 hsh hnm
      generalize n - f = nf at *
      go_enter Try.func20, Try.ntmps20
      go_wp2_with fail
      refine (CRL.out _ ?_).mono ?_
      · repeat first | exact Below.refl _ _ | (refine Below.alloc ?_ (by simp <;> omega) _) | (refine Below.setCell ?_ (by simp <;> omega) _)
      rintro e w' ⟨rfl, rfl⟩
      go_wp2_with fail
      refine bodyPost_ret (v := .tuple #[.agg #[.int .i64 0, .int .i64 0, .int .i64 0], .int .i64 41]) (by simp [results, Try.results20, go_sem]) rfl ⟨by rw [HR.out] <;> rfl, ?_⟩
      repeat first | exact Below.refl _ _ | (refine Below.alloc ?_ (by simp <;> omega) _) | (refine Below.setCell ?_ (by simp <;> omega) _)
    · have g3 : ¬ ((len : Nat) : Int) > ((n - f : Nat) : Int) := by omega
      have g3' : ¬ ((n - f : Nat) : Int) < ((len : Nat) : Int) := by omega
      have e4 : IntKind.i64.wrap ((f : Int) + (len : Int)) = ((f + len : Nat) : Int) := by rw [IntKind.wrap_i64]; omega
      have HR : Hid (hd bs n = (1, f, f + len, 0)) := HHD.out.trans ((if_neg (by decide)).trans (if_neg hsh))
      clear hok hf1 hfn hl40 hsh hnm
      generalize n - f = nf at *
      generalize f + len = fl at *
      go_enter Try.func20, Try.ntmps20
      go_wp2_with fail
      refine (CRL.out _ ?_).mono ?_
      · repeat first | exact Below.refl _ _ | (refine Below.alloc ?_ (by simp <;> omega) _) | (refine Below.setCell ?_ (by simp <;> omega) _)
      rintro e w' ⟨rfl, rfl⟩
      go_wp2_with fail
      refine bodyPost_ret (v := .tuple #[.agg #[.int .i64 1, .int .i64 f, .int .i64 fl], .int .i64 0]) (by simp [results, Try.results20, go_sem]) rfl ⟨by rw [HR.out] <;> rfl, ?_⟩
      repeat first | exact Below.refl _ _ | (refine Below.alloc ?_ (by simp <;> omega) _) | (refine Below.setCell ?_ (by simp <;> omega) _)
  · have HR : Hid (hd bs n = (0, 0, 0, e)) := HHD.out.trans (if_pos he)
    have g3 : ¬ ((e : Nat) : Int) = 0 := by omega
    have g3' : (((e : Nat) : Int) == 0) = false := beq_eq_false_iff_ne.2 g3
    clear hok he hnm
    go_enter Try.func20, Try.ntmps20
    go_wp2_with fail
    refine (CRL.out _ ?_).mono ?_
    · repeat first | exact Below.refl _ _ | (refine Below.alloc ?_ (by simp <;> omega) _) | (refine Below.setCell ?_ (by simp <;> omega) _)
    rintro e' w' ⟨rfl, rfl⟩
    go_wp2_with fail
    refine bodyPost_ret (v := .tuple #[.agg #[.int .i64 0, .int .i64 0, .int .i64 0], .int .i64 e]) (by simp [results, Try.results20, go_sem]) rfl ⟨by rw [HR.out] <;> rfl, ?_⟩
    repeat first | exact Below.refl _ _ | (refine Below.alloc ?_ (by simp <;> omega) _) | (refine Below.setCell ?_ (by simp <;> omega) _)

theorem head_any {ao : Option Addr} {n cap : Nat} {bs : Nat → Nat} (w : World) (h : BS w ao n cap bs) :
    Calls Try.prog 20 #[.slice ao n cap] w fun e w' => e = .returned (.tuple #[pc (hd bs n).1 (hd bs n).2.1 (hd bs n).2.2.1, .int .i64 (hd bs n).2.2.2]) ∧ Below w.heap.size w w' := by
  by_cases h0 : n = 0
  · exact head_none w h h0
  · by_cases h1 : bs 0 < 128
    · exact head_byte w h (by omega) h1
    · by_cases h2 : bs 0 < 192
      · exact head_128 w h (by omega) h1 h2
      · exact head_192 w h (by omega) h1 h2

end Go.Proofs.Ytigebmidfddbcaa
