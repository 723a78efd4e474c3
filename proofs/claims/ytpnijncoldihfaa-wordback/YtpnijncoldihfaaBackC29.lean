/-
  Texts that are read as words.
-/
import Derived.Test.YtpnijncoldihfaaBackC28
namespace Go.Proofs.Ytpnijncoldihfaa
open Go.RowKit Go.Shelf

/-- A text that begins with 0x. -/
def hexS (s : ByteArray) : Bool := decide (2 ≤ s.size) && ((s.extract 0 2).toList == [48, 120])

/-- What stands behind it. -/
def restS (s : ByteArray) : ByteArray := s.extract 2 s.size

set_option maxHeartbeats 2000000 in
set_option maxRecDepth 100000 in
theorem cut_any (s : ByteArray) (w : World) : Calls Try.prog 113 #[.string s, .string ⟨#[48, 120]⟩] w fun e w' => e = .returned (.tuple #[.string (if hexS s then restS s else s), .bool (hexS s)]) ∧ Below w.heap.size w w' := by
  by_cases h : 2 ≤ s.size
  · have g : (2 : Int) ≤ (s.size : Int) := by omega
    cases he : (s.extract 0 2).toList == [48, 120] with
    | true =>
      have hh : hexS s = true := by unfold hexS; rw [decide_eq_true h, he]; rfl
      have hn : (!(s.extract 0 2).toList == [48, 120]) = false := by rw [he]; rfl
      rw [hh, if_pos rfl]
      unfold restS
      clear hh
      go_enter Try.func113, Try.ntmps113
      go_wp2_with (first | go_in)
      go_ret2
      exact ⟨rfl, Below.refl _ _⟩
    | false =>
      have hh : hexS s = false := by unfold hexS; rw [he, Bool.and_false]
      have hn : (!(s.extract 0 2).toList == [48, 120]) = true := by rw [he]; rfl
      rw [hh, if_neg (by decide)]
      clear hh
      go_enter Try.func113, Try.ntmps113
      go_wp2_with (first | go_in)
      go_ret2
      exact ⟨rfl, Below.refl _ _⟩
  · have g : ¬ (2 : Int) ≤ (s.size : Int) := by omega
    have hh : hexS s = false := by unfold hexS; rw [decide_eq_false h, Bool.false_and]
    rw [hh, if_neg (by decide)]
    clear hh
    go_enter Try.func113, Try.ntmps113
    go_wp2_with (first | go_in)
    go_ret2
    exact ⟨rfl, Below.refl _ _⟩

theorem pres_form (o : Option Nat) : ∃ (r0 r1 r2 r3 i : Int), pres o = .tuple #[.agg #[.int .u64 r0, .int .u64 r1, .int .u64 r2, .int .u64 r3], .int .i64 i] := by
  cases o with
  | none => exact ⟨0, 0, 0, 0, 20, rfl⟩
  | some v =>
    obtain ⟨r0, r1, r2, r3, hr⟩ := wv_form v
    exact ⟨r0, r1, r2, r3, 0, by show Value.tuple #[wv v, .int .i64 0] = _; rw [hr]⟩

set_option maxHeartbeats 2000000 in
set_option maxRecDepth 100000 in
theorem parseHex_any (s : ByteArray) (hs : s.size ≤ 140737488355328) (w : World) : Calls Try.prog 114 #[.string s] w fun e w' => e = .returned (pres (if 64 < s.size then none else preads 16 s)) ∧ Below w.heap.size w w' := by
  by_cases h : 64 < s.size
  · rw [if_pos h]
    have g : (s.size : Int) > 64 := by omega
    have g' : (64 : Int) < (s.size : Int) := by omega
    clear h
    go_enter Try.func114, Try.ntmps114
    go_wp2_with fail
    refine bodyPost_ret (v := .tuple #[.agg #[.int .u64 0, .int .u64 0, .int .u64 0, .int .u64 0], .int .i64 20]) (by simp [results, Try.results114, go_sem]) rfl ⟨rfl, ?_⟩
    repeat first | exact Below.refl _ _ | (refine Below.alloc ?_ (by simp <;> omega) _) | (refine Below.setCell ?_ (by simp <;> omega) _)
  · rw [if_neg h]
    have g : ¬ (s.size : Int) > 64 := by omega
    have g' : ¬ (64 : Int) < (s.size : Int) := by omega
    have c1 := fun W => parseDigits_any s 16 (Or.inr rfl) hs W
    obtain ⟨r0, r1, r2, r3, i, hr⟩ := pres_form (preads 16 s)
    simp only [hr] at c1 ⊢
    have C1 := hideP c1
    clear c1 hr h hs
    go_enter Try.func114, Try.ntmps114
    go_wp2_with fail
    refine (C1.out _).mono ?_
    rintro e W1 ⟨rfl, hb⟩
    have hr1 := (kept4 hb (heap_new _ _)).1
    have HB1 : Hid (Below w.heap.size w W1) := ((Below.refl _ w).alloc (Nat.le_refl _) _).trans (hb.mono (by simp))
    obtain ⟨j0, j1, j2, j3⟩ := cells4 hr1
    have jf : ∀ o, W1.frozen? ⟨w.heap.size, o, none⟩ = false := fun o => blk_free hr1
    clear hb hr1 C1
    go_wp2_with fail
    refine bodyPost_ret (v := .tuple #[.agg #[.int .u64 r0, .int .u64 r1, .int .u64 r2, .int .u64 r3], .int .i64 i]) (by simp [results, Try.results114, go_sem, j0, j1, j2, j3, World.cell?_setCell_same]) rfl ⟨rfl, ?_⟩
    exact below_stored4 HB1.out (by omega)

set_option maxHeartbeats 2000000 in
set_option maxRecDepth 100000 in
theorem parseDec_any (s : ByteArray) (hs : s.size ≤ 140737488355328) (w : World) : Calls Try.prog 115 #[.string s] w fun e w' => e = .returned (pres (if 1 < s.size ∧ sb s 0 = 48 then none else preads 10 s)) ∧ Below w.heap.size w w' := by
  by_cases h : 1 < s.size ∧ sb s 0 = 48
  · rw [if_pos h]
    have g : (s.size : Int) > 1 := by omega
    have g' : (1 : Int) < (s.size : Int) := by omega
    have hix0 := fun W => index_sb s 0 (by omega) W
    rw [h.2] at hix0
    have hix : ∀ W : World, (Instr.index 9 (.string s) (.int .i64 0)).run Try.prog W = .ok (.int .u8 48) W := hix0
    clear hix0
    clear h
    go_enter Try.func115, Try.ntmps115
    go_wp2_with fail
    refine bodyPost_ret (v := .tuple #[.agg #[.int .u64 0, .int .u64 0, .int .u64 0, .int .u64 0], .int .i64 20]) (by simp [results, Try.results115, go_sem]) rfl ⟨rfl, ?_⟩
    repeat first | exact Below.refl _ _ | (refine Below.alloc ?_ (by simp <;> omega) _) | (refine Below.setCell ?_ (by simp <;> omega) _)
  · rw [if_neg h]
    have hor : (¬ 1 < s.size) ∨ (1 < s.size ∧ sb s 0 ≠ 48) := by omega
    rcases hor with h' | h'
    · have g : ¬ (s.size : Int) > 1 := by omega
      have g' : ¬ (1 : Int) < (s.size : Int) := by omega
      have c1 := fun W => parseDigits_any s 10 (Or.inl rfl) hs W
      obtain ⟨r0, r1, r2, r3, i, hr⟩ := pres_form (preads 10 s)
      simp only [hr] at c1 ⊢
      have C1 := hideP c1
      clear c1 hr h hs
      go_enter Try.func115, Try.ntmps115
      go_wp2_with fail
      refine (C1.out _).mono ?_
      rintro e W1 ⟨rfl, hb⟩
      have hr1 := (kept4 hb (heap_new _ _)).1
      have HB1 : Hid (Below w.heap.size w W1) := ((Below.refl _ w).alloc (Nat.le_refl _) _).trans (hb.mono (by simp))
      obtain ⟨j0, j1, j2, j3⟩ := cells4 hr1
      have jf : ∀ o, W1.frozen? ⟨w.heap.size, o, none⟩ = false := fun o => blk_free hr1
      clear hb hr1 C1
      go_wp2_with fail
      refine bodyPost_ret (v := .tuple #[.agg #[.int .u64 r0, .int .u64 r1, .int .u64 r2, .int .u64 r3], .int .i64 i]) (by simp [results, Try.results115, go_sem, j0, j1, j2, j3, World.cell?_setCell_same]) rfl ⟨rfl, ?_⟩
      exact below_stored4 HB1.out (by omega)
    · have g : (s.size : Int) > 1 := by omega
      have g' : (1 : Int) < (s.size : Int) := by omega
      have hix : ∀ W : World, (Instr.index 9 (.string s) (.int .i64 0)).run Try.prog W = .ok (.int .u8 (sb s 0)) W := fun W => index_sb s 0 (by omega) W
      have g2 : ¬ ((sb s 0 : Nat) : Int) = 48 := by omega
      have g3 : (((sb s 0 : Nat) : Int) == 48) = false := by simp; omega
      have c1 := fun W => parseDigits_any s 10 (Or.inl rfl) hs W
      obtain ⟨r0, r1, r2, r3, i, hr⟩ := pres_form (preads 10 s)
      simp only [hr] at c1 ⊢
      have C1 := hideP c1
      clear c1 hr h h' hs
      generalize sb s 0 = c0 at *
      go_enter Try.func115, Try.ntmps115
      go_wp2_with fail
      refine (C1.out _).mono ?_
      rintro e W1 ⟨rfl, hb⟩
      have hr1 := (kept4 hb (heap_new _ _)).1
      have HB1 : Hid (Below w.heap.size w W1) := ((Below.refl _ w).alloc (Nat.le_refl _) _).trans (hb.mono (by simp))
      obtain ⟨j0, j1, j2, j3⟩ := cells4 hr1
      have jf : ∀ o, W1.frozen? ⟨w.heap.size, o, none⟩ = false := fun o => blk_free hr1
      clear hb hr1 C1
      go_wp2_with fail
      refine bodyPost_ret (v := .tuple #[.agg #[.int .u64 r0, .int .u64 r1, .int .u64 r2, .int .u64 r3], .int .i64 i]) (by simp [results, Try.results115, go_sem, j0, j1, j2, j3, World.cell?_setCell_same]) rfl ⟨rfl, ?_⟩
      exact below_stored4 HB1.out (by omega)

/-- What a text tells. -/
def ptext (s : ByteArray) : Option Nat := if hexS s then (if 64 < (restS s).size then none else preads 16 (restS s)) else (if 1 < s.size ∧ sb s 0 = 48 then none else preads 10 s)

/-- What is answered for a text. -/
def pans (s : ByteArray) : Value := if 80 < s.size then .tuple #[wv 0, .int .i64 2] else pres (ptext s)

theorem restS_le (s : ByteArray) : (restS s).size ≤ s.size := by
  unfold restS
  rw [ByteArray.size_extract]
  omega

set_option maxHeartbeats 2000000 in
set_option maxRecDepth 100000 in
theorem parse_any (s : ByteArray) (hs : s.size ≤ 140737488355328) (w : World) : Calls Try.prog 74 #[.string s] w fun e w' => e = .returned (pans s) ∧ Below w.heap.size w w' := by
  by_cases h : 80 < s.size
  · unfold pans
    rw [if_pos h]
    have g : (s.size : Int) > 80 := by omega
    have g' : (80 : Int) < (s.size : Int) := by omega
    clear h
    go_enter Try.func74, Try.ntmps74
    go_wp2_with fail
    refine bodyPost_ret (v := .tuple #[.agg #[.int .u64 0, .int .u64 0, .int .u64 0, .int .u64 0], .int .i64 2]) (by simp [results, Try.results74, go_sem]) rfl ⟨rfl, ?_⟩
    repeat first | exact Below.refl _ _ | (refine Below.alloc ?_ (by simp <;> omega) _) | (refine Below.setCell ?_ (by simp <;> omega) _)
  · have hp : pans s = pres (ptext s) := by unfold pans; rw [if_neg h]
    rw [hp]
    clear hp
    have g : ¬ (s.size : Int) > 80 := by omega
    have g' : ¬ (80 : Int) < (s.size : Int) := by omega
    have c0 := fun W => cut_any s W
    cases hx : hexS s with
    | true =>
      have c1 := fun W => parseHex_any (restS s) (Nat.le_trans (restS_le s) hs) W
      have hp : ptext s = if 64 < (restS s).size then none else preads 16 (restS s) := by unfold ptext; rw [hx]; exact if_pos rfl
      rw [← hp] at c1
      rw [hx] at c0
      simp only [if_true] at c0
      obtain ⟨r0, r1, r2, r3, i, hr⟩ := pres_form (ptext s)
      simp only [hr] at c1 ⊢
      have C0 := hideP c0
      have C1 := hideP c1
      clear c0 c1 hr h hs hx hp
      generalize restS s = s1 at *
      go_enter Try.func74, Try.ntmps74
      go_wp2_with fail
      refine (C0.out _).mono ?_
      rintro e W0 ⟨rfl, hb0⟩
      have hr0 := (kept4 hb0 (heap_new _ _)).1
      have HB0 : Hid (Below w.heap.size w W0) := ((Below.refl _ w).alloc (Nat.le_refl _) _).trans (hb0.mono (by simp))
      clear hb0 C0
      go_wp2_with fail
      refine (C1.out _).mono ?_
      rintro e W1 ⟨rfl, hb⟩
      have hr1 := (kept4 hb hr0).1
      have HB1 : Hid (Below w.heap.size w W1) := HB0.out.trans (hb.mono HB0.out.size)
      obtain ⟨j0, j1, j2, j3⟩ := cells4 hr1
      have jf : ∀ o, W1.frozen? ⟨w.heap.size, o, none⟩ = false := fun o => blk_free hr1
      clear hb hr1 hr0 C1
      go_wp2_with fail
      refine bodyPost_ret (v := .tuple #[.agg #[.int .u64 r0, .int .u64 r1, .int .u64 r2, .int .u64 r3], .int .i64 i]) (by simp [results, Try.results74, go_sem, j0, j1, j2, j3, World.cell?_setCell_same]) rfl ⟨rfl, ?_⟩
      exact below_stored4 HB1.out (by omega)
    | false =>
      have c1 := fun W => parseDec_any s hs W
      have hp : ptext s = if 1 < s.size ∧ sb s 0 = 48 then none else preads 10 s := by unfold ptext; rw [hx]; exact if_neg (by decide)
      rw [← hp] at c1
      rw [hx] at c0
      simp only [Bool.false_eq_true, if_false] at c0
      obtain ⟨r0, r1, r2, r3, i, hr⟩ := pres_form (ptext s)
      simp only [hr] at c1 ⊢
      have C0 := hideP c0
      have C1 := hideP c1
      clear c0 c1 hr h hs hx hp
      go_enter Try.func74, Try.ntmps74
      go_wp2_with fail
      refine (C0.out _).mono ?_
      rintro e W0 ⟨rfl, hb0⟩
      have hr0 := (kept4 hb0 (heap_new _ _)).1
      have HB0 : Hid (Below w.heap.size w W0) := ((Below.refl _ w).alloc (Nat.le_refl _) _).trans (hb0.mono (by simp))
      clear hb0 C0
      go_wp2_with fail
      refine (C1.out _).mono ?_
      rintro e W1 ⟨rfl, hb⟩
      have hr1 := (kept4 hb hr0).1
      have HB1 : Hid (Below w.heap.size w W1) := HB0.out.trans (hb.mono HB0.out.size)
      obtain ⟨j0, j1, j2, j3⟩ := cells4 hr1
      have jf : ∀ o, W1.frozen? ⟨w.heap.size, o, none⟩ = false := fun o => blk_free hr1
      clear hb hr1 hr0 C1
      go_wp2_with fail
      refine bodyPost_ret (v := .tuple #[.agg #[.int .u64 r0, .int .u64 r1, .int .u64 r2, .int .u64 r3], .int .i64 i]) (by simp [results, Try.results74, go_sem, j0, j1, j2, j3, World.cell?_setCell_same]) rfl ⟨rfl, ?_⟩
      exact below_stored4 HB1.out (by omega)

end Go.Proofs.Ytpnijncoldihfaa
