/-
  The digits of a number.
-/
import Derived.Test.YtpnijncoldihfaaTextsC26
import Derived.Laws.CopyOwn
import Derived.OwnWalk
import Derived.Deep.Upon
import Derived.Test.YtpnijncoldihfaaTextsC24
import Derived.Test.YtpnijncoldihfaaTextsC22
import Derived.Test.YtpnijncoldihfaaTextsC02
namespace Go.Proofs.Ytpnijncoldihfaa
open Go.RowKit Go.Shelf

/-- A text that begins with 0x. -/
def hexS (s : ByteArray) : Bool := decide (2 ≤ s.size) && ((s.extract 0 2).toList == [48, 120])

/-- What stands behind it. -/
def restS (s : ByteArray) : ByteArray := s.extract 2 s.size

set_option maxHeartbeats 2000000 in
set_option maxRecDepth 100000 in
theorem cut_any (s : ByteArray) (w : World) : Calls Try.prog 113 #[.string s, .string ⟨#[48, 120]⟩] w fun e w' => e = .returned (.tuple #[.string (if hexS s then restS s else s), .bool (hexS s)]) ∧ Below w.heap.size w w' := by
  by_cases h : 2 ≤ s.size
  · have g : (2 : Int) ≤ (s.size : Int) := by omega
    cases he : (s.extract 0 2).toList == [48, 120] with
    | true =>
      have hh : hexS s = true := by unfold hexS; rw [decide_eq_true h, he]; rfl
      have hn : (!(s.extract 0 2).toList == [48, 120]) = false := by rw [he]; rfl
      rw [hh, if_pos rfl]
      unfold restS
      clear hh
      go_enter Try.func113, Try.ntmps113
      go_wp2_with (first | go_in)
      go_ret2
      exact ⟨rfl, Below.refl _ _⟩
    | false =>
      have hh : hexS s = false := by unfold hexS; rw [he, Bool.and_false]
      have hn : (!(s.extract 0 2).toList == [48, 120]) = true := by rw [he]; rfl
      rw [hh, if_neg (by decide)]
      clear hh
      go_enter Try.func113, Try.ntmps113
      go_wp2_with (first | go_in)
      go_ret2
      exact ⟨rfl, Below.refl _ _⟩
  · have g : ¬ (2 : Int) ≤ (s.size : Int) := by omega
    have hh : hexS s = false := by unfold hexS; rw [decide_eq_false h, Bool.false_and]
    rw [hh, if_neg (by decide)]
    clear hh
    go_enter Try.func113, Try.ntmps113
    go_wp2_with (first | go_in)
    go_ret2
    exact ⟨rfl, Below.refl _ _⟩

theorem pres_form (o : Option Nat) : ∃ (r0 r1 r2 r3 i : Int), pres o = .tuple #[.agg #[.int .u64 r0, .int .u64 r1, .int .u64 r2, .int .u64 r3], .int .i64 i] := by
  cases o with
  | none => exact ⟨0, 0, 0, 0, 20, rfl⟩
  | some v =>
    obtain ⟨r0, r1, r2, r3, hr⟩ := wv_form v
    exact ⟨r0, r1, r2, r3, 0, by show Value.tuple #[wv v, .int .i64 0] = _; rw [hr]⟩

set_option maxHeartbeats 2000000 in
set_option maxRecDepth 100000 in
theorem parseHex_any (s : ByteArray) (hs : s.size ≤ 140737488355328) (w : World) : Calls Try.prog 114 #[.string s] w fun e w' => e = .returned (pres (if 64 < s.size then none else preads 16 s)) ∧ Below w.heap.size w w' := by
  by_cases h : 64 < s.size
  · rw [if_pos h]
    have g : (s.size : Int) > 64 := by omega
    have g' : (64 : Int) < (s.size : Int) := by omega
    clear h
    go_enter Try.func114, Try.ntmps114
    go_wp2_with fail
    refine bodyPost_ret (v := .tuple #[.agg #[.int .u64 0, .int .u64 0, .int .u64 0, .int .u64 0], .int .i64 20]) (by simp [results, Try.results114, go_sem]) rfl ⟨rfl, ?_⟩
    repeat first | exact Below.refl _ _ | (refine Below.alloc ?_ (by simp <;> omega) _) | (refine Below.setCell ?_ (by simp <;> omega) _)
  · rw [if_neg h]
    have g : ¬ (s.size : Int) > 64 := by omega
    have g' : ¬ (64 : Int) < (s.size : Int) := by omega
    have c1 := fun W => parseDigits_any s 16 (Or.inr rfl) hs W
    obtain ⟨r0, r1, r2, r3, i, hr⟩ := pres_form (preads 16 s)
    simp only [hr] at c1 ⊢
    have C1 := hideP c1
    clear c1 hr h hs
    go_enter Try.func114, Try.ntmps114
    go_wp2_with fail
    refine (C1.out _).mono ?_
    rintro e W1 ⟨rfl, hb⟩
    have hr1 := (kept4 hb (heap_new _ _)).1
    have HB1 : Hid (Below w.heap.size w W1) := ((Below.refl _ w).alloc (Nat.le_refl _) _).trans (hb.mono (by simp))
    obtain ⟨j0, j1, j2, j3⟩ := cells4 hr1
    have jf : ∀ o, W1.frozen? ⟨w.heap.size, o, none⟩ = false := fun o => blk_free hr1
    clear hb hr1 C1
    go_wp2_with fail
    refine bodyPost_ret (v := .tuple #[.agg #[.int .u64 r0, .int .u64 r1, .int .u64 r2, .int .u64 r3], .int .i64 i]) (by simp [results, Try.results114, go_sem, j0, j1, j2, j3, World.cell?_setCell_same]) rfl ⟨rfl, ?_⟩
    exact below_stored4 HB1.out (by omega)

set_option maxHeartbeats 2000000 in
set_option maxRecDepth 100000 in
theorem parseDec_any (s : ByteArray) (hs : s.size ≤ 140737488355328) (w : World) : Calls Try.prog 115 #[.string s] w fun e w' => e = .returned (pres (if 1 < s.size ∧ sb s 0 = 48 then none else preads 10 s)) ∧ Below w.heap.size w w' := by
  by_cases h : 1 < s.size ∧ sb s 0 = 48
  · rw [if_pos h]
    have g : (s.size : Int) > 1 := by omega
    have g' : (1 : Int) < (s.size : Int) := by omega
    have hix0 := fun W => index_sb s 0 (by omega) W
    rw [h.2] at hix0
    have hix : ∀ W : World, (Instr.index 9 (.string s) (.int .i64 0)).run Try.prog W = .ok (.int .u8 48) W := hix0
    clear hix0
    clear h
    go_enter Try.func115, Try.ntmps115
    go_wp2_with fail
    refine bodyPost_ret (v := .tuple #[.agg #[.int .u64 0, .int .u64 0, .int .u64 0, .int .u64 0], .int .i64 20]) (by simp [results, Try.results115, go_sem]) rfl ⟨rfl, ?_⟩
    repeat first | exact Below.refl _ _ | (refine Below.alloc ?_ (by simp <;> omega) _) | (refine Below.setCell ?_ (by simp <;> omega) _)
  · rw [if_neg h]
    have hor : (¬ 1 < s.size) ∨ (1 < s.size ∧ sb s 0 ≠ 48) := by omega
    rcases hor with h' | h'
    · have g : ¬ (s.size : Int) > 1 := by omega
      have g' : ¬ (1 : Int) < (s.size : Int) := by omega
      have c1 := fun W => parseDigits_any s 10 (Or.inl rfl) hs W
      obtain ⟨r0, r1, r2, r3, i, hr⟩ := pres_form (preads 10 s)
      simp only [hr] at c1 ⊢
      have C1 := hideP c1
      clear c1 hr h hs
      go_enter Try.func115, Try.ntmps115
      go_wp2_with fail
      refine (C1.out _).mono ?_
      rintro e W1 ⟨rfl, hb⟩
      have hr1 := (kept4 hb (heap_new _ _)).1
      have HB1 : Hid (Below w.heap.size w W1) := ((Below.refl _ w).alloc (Nat.le_refl _) _).trans (hb.mono (by simp))
      obtain ⟨j0, j1, j2, j3⟩ := cells4 hr1
      have jf : ∀ o, W1.frozen? ⟨w.heap.size, o, none⟩ = false := fun o => blk_free hr1
      clear hb hr1 C1
      go_wp2_with fail
      refine bodyPost_ret (v := .tuple #[.agg #[.int .u64 r0, .int .u64 r1, .int .u64 r2, .int .u64 r3], .int .i64 i]) (by simp [results, Try.results115, go_sem, j0, j1, j2, j3, World.cell?_setCell_same]) rfl ⟨rfl, ?_⟩
      exact below_stored4 HB1.out (by omega)
    · have g : (s.size : Int) > 1 := by omega
      have g' : (1 : Int) < (s.size : Int) := by omega
      have hix : ∀ W : World, (Instr.index 9 (.string s) (.int .i64 0)).run Try.prog W = .ok (.int .u8 (sb s 0)) W := fun W => index_sb s 0 (by omega) W
      have g2 : ¬ ((sb s 0 : Nat) : Int) = 48 := by omega
      have g3 : (((sb s 0 : Nat) : Int) == 48) = false := by simp; omega
      have c1 := fun W => parseDigits_any s 10 (Or.inl rfl) hs W
      obtain ⟨r0, r1, r2, r3, i, hr⟩ := pres_form (preads 10 s)
      simp only [hr] at c1 ⊢
      have C1 := hideP c1
      clear c1 hr h h' hs
      generalize sb s 0 = c0 at *
      go_enter Try.func115, Try.ntmps115
      go_wp2_with fail
      refine (C1.out _).mono ?_
      rintro e W1 ⟨rfl, hb⟩
      have hr1 := (kept4 hb (heap_new _ _)).1
      have HB1 : Hid (Below w.heap.size w W1) := ((Below.refl _ w).alloc (Nat.le_refl _) _).trans (hb.mono (by simp))
      obtain ⟨j0, j1, j2, j3⟩ := cells4 hr1
      have jf : ∀ o, W1.frozen? ⟨w.heap.size, o, none⟩ = false := fun o => blk_free hr1
      clear hb hr1 C1
      go_wp2_with fail
      refine bodyPost_ret (v := .tuple #[.agg #[.int .u64 r0, .int .u64 r1, .int .u64 r2, .int .u64 r3], .int .i64 i]) (by simp [results, Try.results115, go_sem, j0, j1, j2, j3, World.cell?_setCell_same]) rfl ⟨rfl, ?_⟩
      exact below_stored4 HB1.out (by omega)

/-- What a text tells. -/
def ptext (s : ByteArray) : Option Nat := if hexS s then (if 64 < (restS s).size then none else preads 16 (restS s)) else (if 1 < s.size ∧ sb s 0 = 48 then none else preads 10 s)

/-- What is answered for a text. -/
def pans (s : ByteArray) : Value := if 80 < s.size then .tuple #[wv 0, .int .i64 2] else pres (ptext s)

theorem restS_le (s : ByteArray) : (restS s).size ≤ s.size := by
  unfold restS
  rw [ByteArray.size_extract]
  omega

set_option maxHeartbeats 2000000 in
set_option maxRecDepth 100000 in
theorem parse_any (s : ByteArray) (hs : s.size ≤ 140737488355328) (w : World) : Calls Try.prog 74 #[.string s] w fun e w' => e = .returned (pans s) ∧ Below w.heap.size w w' := by
  by_cases h : 80 < s.size
  · unfold pans
    rw [if_pos h]
    have g : (s.size : Int) > 80 := by omega
    have g' : (80 : Int) < (s.size : Int) := by omega
    clear h
    go_enter Try.func74, Try.ntmps74
    go_wp2_with fail
    refine bodyPost_ret (v := .tuple #[.agg #[.int .u64 0, .int .u64 0, .int .u64 0, .int .u64 0], .int .i64 2]) (by simp [results, Try.results74, go_sem]) rfl ⟨rfl, ?_⟩
    repeat first | exact Below.refl _ _ | (refine Below.alloc ?_ (by simp <;> omega) _) | (refine Below.setCell ?_ (by simp <;> omega) _)
  · have hp : pans s = pres (ptext s) := by unfold pans; rw [if_neg h]
    rw [hp]
    clear hp
    have g : ¬ (s.size : Int) > 80 := by omega
    have g' : ¬ (80 : Int) < (s.size : Int) := by omega
    have c0 := fun W => cut_any s W
    cases hx : hexS s with
    | true =>
      have c1 := fun W => parseHex_any (restS s) (Nat.le_trans (restS_le s) hs) W
      have hp : ptext s = if 64 < (restS s).size then none else preads 16 (restS s) := by unfold ptext; rw [hx]; exact if_pos rfl
      rw [← hp] at c1
      rw [hx] at c0
      simp only [if_true] at c0
      obtain ⟨r0, r1, r2, r3, i, hr⟩ := pres_form (ptext s)
      simp only [hr] at c1 ⊢
      have C0 := hideP c0
      have C1 := hideP c1
      clear c0 c1 hr h hs hx hp
      generalize restS s = s1 at *
      go_enter Try.func74, Try.ntmps74
      go_wp2_with fail
      refine (C0.out _).mono ?_
      rintro e W0 ⟨rfl, hb0⟩
      have hr0 := (kept4 hb0 (heap_new _ _)).1
      have HB0 : Hid (Below w.heap.size w W0) := ((Below.refl _ w).alloc (Nat.le_refl _) _).trans (hb0.mono (by simp))
      clear hb0 C0
      go_wp2_with fail
      refine (C1.out _).mono ?_
      rintro e W1 ⟨rfl, hb⟩
      have hr1 := (kept4 hb hr0).1
      have HB1 : Hid (Below w.heap.size w W1) := HB0.out.trans (hb.mono HB0.out.size)
      obtain ⟨j0, j1, j2, j3⟩ := cells4 hr1
      have jf : ∀ o, W1.frozen? ⟨w.heap.size, o, none⟩ = false := fun o => blk_free hr1
      clear hb hr1 hr0 C1
      go_wp2_with fail
      refine bodyPost_ret (v := .tuple #[.agg #[.int .u64 r0, .int .u64 r1, .int .u64 r2, .int .u64 r3], .int .i64 i]) (by simp [results, Try.results74, go_sem, j0, j1, j2, j3, World.cell?_setCell_same]) rfl ⟨rfl, ?_⟩
      exact below_stored4 HB1.out (by omega)
    | false =>
      have c1 := fun W => parseDec_any s hs W
      have hp : ptext s = if 1 < s.size ∧ sb s 0 = 48 then none else preads 10 s := by unfold ptext; rw [hx]; exact if_neg (by decide)
      rw [← hp] at c1
      rw [hx] at c0
      simp only [Bool.false_eq_true, if_false] at c0
      obtain ⟨r0, r1, r2, r3, i, hr⟩ := pres_form (ptext s)
      simp only [hr] at c1 ⊢
      have C0 := hideP c0
      have C1 := hideP c1
      clear c0 c1 hr h hs hx hp
      go_enter Try.func74, Try.ntmps74
      go_wp2_with fail
      refine (C0.out _).mono ?_
      rintro e W0 ⟨rfl, hb0⟩
      have hr0 := (kept4 hb0 (heap_new _ _)).1
      have HB0 : Hid (Below w.heap.size w W0) := ((Below.refl _ w).alloc (Nat.le_refl _) _).trans (hb0.mono (by simp))
      clear hb0 C0
      go_wp2_with fail
      refine (C1.out _).mono ?_
      rintro e W1 ⟨rfl, hb⟩
      have hr1 := (kept4 hb hr0).1
      have HB1 : Hid (Below w.heap.size w W1) := HB0.out.trans (hb.mono HB0.out.size)
      obtain ⟨j0, j1, j2, j3⟩ := cells4 hr1
      have jf : ∀ o, W1.frozen? ⟨w.heap.size, o, none⟩ = false := fun o => blk_free hr1
      clear hb hr1 hr0 C1
      go_wp2_with fail
      refine bodyPost_ret (v := .tuple #[.agg #[.int .u64 r0, .int .u64 r1, .int .u64 r2, .int .u64 r3], .int .i64 i]) (by simp [results, Try.results74, go_sem, j0, j1, j2, j3, World.cell?_setCell_same]) rfl ⟨rfl, ?_⟩
      exact below_stored4 HB1.out (by omega)

end Go.Proofs.Ytpnijncoldihfaa

namespace Go.Proofs.Ytpnijncoldihfaa
open Go.RowKit Go.Shelf

/-- So many bytes a number has without leading noughts. -/
structure LB (X n : Nat) : Prop where
  le : n ≤ 32
  lt : X % M256 < 2 ^ (8 * n)
  ge : 0 < n → 2 ^ (8 * (n - 1)) ≤ X % M256

theorem LB.uniq {X n m : Nat} (h : LB X n) (h' : LB X m) : n = m := by
  rcases Nat.lt_trichotomy n m with hl | he | hg
  · have h1 := h'.ge (by omega)
    have h2 : 2 ^ (8 * n) ≤ 2 ^ (8 * (m - 1)) := Nat.pow_le_pow_right (by decide) (by omega)
    have h3 := h.lt
    omega
  · exact he
  · have h1 := h.ge (by omega)
    have h2 : 2 ^ (8 * m) ≤ 2 ^ (8 * (n - 1)) := Nat.pow_le_pow_right (by decide) (by omega)
    have h3 := h'.lt
    omega

end Go.Proofs.Ytpnijncoldihfaa

namespace Go.Proofs.Ytpnijncoldihfaa
open Go.RowKit Go.Shelf

/-- The byte of a digit. -/
def hexd (d : Nat) : Nat := if d < 10 then 48 + d else 87 + d

theorem hexd_lt {d : Nat} (h : d < 16) : hexd d < 256 := by unfold hexd; split <;> omega

/-- So many digits a number has. -/
structure ND (b X n : Nat) : Prop where
  pos : 0 < n
  lt : X < b ^ n
  ge : 1 < n → b ^ (n - 1) ≤ X

theorem ND.uniq {b X n m : Nat} (hb : 0 < b) (h : ND b X n) (h' : ND b X m) : n = m := by
  have p1 := h.pos
  have p2 := h'.pos
  rcases Nat.lt_trichotomy n m with hl | he | hg
  · have h1 := h'.ge (by omega)
    have h2 : b ^ n ≤ b ^ (m - 1) := Nat.pow_le_pow_right hb (by omega)
    have h3 := h.lt
    omega
  · exact he
  · have h1 := h.ge (by omega)
    have h2 : b ^ m ≤ b ^ (n - 1) := Nat.pow_le_pow_right hb (by omega)
    have h3 := h'.lt
    omega

/-- The bytes of n digits. -/
def digB (b X n j : Nat) : Nat := hexd (X / b ^ (n - 1 - j) % b)

/-- The text of n digits. -/
def strD (b X n : Nat) : ByteArray := ⟨((List.range n).map (fun j => UInt8.ofNat (digB b X n j))).toArray⟩

/-- Bytes in a row. -/
def cbs (n : Nat) (g : Nat → Nat) : Array Value := ((List.range n).map (fun j => Value.int .u8 (g j))).toArray

theorem cbs_get (n : Nat) (g : Nat → Nat) {j : Nat} (h : j < n) : (cbs n g)[j]? = some (.int .u8 (g j)) := by
  unfold cbs
  rw [List.getElem?_toArray]
  simp [h]

theorem cbs_set (n : Nat) (g : Nat → Nat) {j : Nat} (v : Nat) : (cbs n g).setIfInBounds j (.int .u8 v) = cbs n (fun i => if i = j then v else g i) := by
  apply Array.ext
  · simp [cbs]
  · intro i h1 h2
    simp only [cbs, List.setIfInBounds_toArray, List.getElem_toArray, List.getElem_set, List.getElem_map, List.getElem_range]
    by_cases h : j = i
    · rw [if_pos h, if_pos h.symm]
    · rw [if_neg h, if_neg (fun e => h e.symm)]

set_option maxRecDepth 100000 in
theorem index_hex {d : Nat} (hd : d < 16) (W : World) : (Instr.index 9 (.string ⟨#[48, 49, 50, 51, 52, 53, 54, 55, 56, 57, 97, 98, 99, 100, 101, 102]⟩) (.int .u64 (d : Int))).run Try.prog W = .ok (.int .u8 (hexd d)) W := by
  match d, hd with
  | 0, _ => rfl
  | 1, _ => rfl
  | 2, _ => rfl
  | 3, _ => rfl
  | 4, _ => rfl
  | 5, _ => rfl
  | 6, _ => rfl
  | 7, _ => rfl
  | 8, _ => rfl
  | 9, _ => rfl
  | 10, _ => rfl
  | 11, _ => rfl
  | 12, _ => rfl
  | 13, _ => rfl
  | 14, _ => rfl
  | 15, _ => rfl
  | k + 16, h => exact absurd h (by omega)

/-- The last bytes of an array of 78. -/
theorem slice78 (B a : Nat) (ha : a < 78) (W : World) : (Instr.sliceAt 111 (.pointer (some ⟨B, 0, none⟩)) (some (.int .i64 (a : Int))) none none).run Try.prog W = .ok (.slice (some ⟨B, a, none⟩) (78 - a) (78 - a)) W := by
  have hl : Try.prog.arrayLen 111 = 78 := by kernel_rfl
  have hs : (sizeOf (Try.prog.elem 111)).run Try.prog W = .ok 1 W := by kernel_rfl
  rw [run_sliceAt_array_l (P := Try.prog) W 111 ⟨B, 0, none⟩ (by kernel_rfl) .i64 (a : Int) (by omega) (by rw [hl]; omega), hs, hl]
  have h1 : ((a : Int)).toNat = a := by omega
  have h3 : ¬ (78 = a) := by omega
  simp [Result.andThen, slicedAt, h1, h3, Addr.add]
  exact fun h => h.symm

/-- The bytes of digits as a text. -/
theorem conv_digits {V : World} {b X n cap B o : Nat} (hb : b ≤ 16) (hb0 : 0 < b) (hc : ∀ j, j < n → V.cell? ⟨B, o + j, none⟩ = some (.int .u8 (digB b X n j))) :
    (convert 51 9 (.slice (some ⟨B, o, none⟩) n cap)).run Try.prog V = .ok (.string (strD b X n)) V := by
  have h := run_convert_bytes_back (P := Try.prog) V 51 9 5 ⟨B, o, none⟩ cap ((List.range n).map (fun j => UInt8.ofNat (digB b X n j))) Try.underlying51 Try.underlying5 Try.underlying9 (fun j hj => by
    have hj' : j < n := by simpa using hj
    have hl : digB b X n j < 256 := hexd_lt (Nat.lt_of_lt_of_le (Nat.mod_lt _ hb0) hb)
    rw [Addr.add_mid, hc j hj']
    simp [Nat.mod_eq_of_lt hl])
  simp only [List.length_map, List.length_range] at h
  exact h

/-- Where the digits have come to. -/
structure GI (w wr : World) (b X k : Nat) : Prop where
  x : wr.heap[w.heap.size]? = some (.cells (c4 (limb (X / b ^ k))) 24 (0, 0))
  o : ∃ g : Nat → Nat, wr.heap[w.heap.size + 1]? = some (.cells (cbs 78 g) 111 (0, 0)) ∧ ∀ j, j < k → g (77 - j) = hexd (X / b ^ j % b)
  b : Below w.heap.size w wr

theorem GI.move {w wr V : World} {b X k : Nat} (I : GI w wr b X k) (hb : Below wr.heap.size wr V) : GI w V b X k := by
  obtain ⟨g, hg, hj⟩ := I.o
  exact ⟨(hb.block _ (lt_of_block I.x)).trans I.x, ⟨g, (hb.block _ (lt_of_block hg)).trans hg, hj⟩, I.b.trans (hb.mono I.b.size)⟩

theorem GI.step {w V : World} {b X k d : Nat} {q0 q1 q2 q3 : Int} (I : GI w V b X k) (hk : k < 78) (hd : d = hexd (X / b ^ k % b)) (hq : wv (X / b ^ (k + 1)) = .agg #[.int .u64 q0, .int .u64 q1, .int .u64 q2, .int .u64 q3]) :
    GI w (((((V.setCell ⟨w.heap.size + 1, 77 - k, none⟩ (.int .u8 d)).setCell ⟨w.heap.size, 0, none⟩ (.int .u64 q0)).setCell ⟨w.heap.size, 1, none⟩ (.int .u64 q1)).setCell ⟨w.heap.size, 2, none⟩ (.int .u64 q2)).setCell ⟨w.heap.size, 3, none⟩ (.int .u64 q3)) b X (k + 1) := by
  obtain ⟨g, hg, hj⟩ := I.o
  have hc : c4 (limb (X / b ^ (k + 1))) = #[.int .u64 q0, .int .u64 q1, .int .u64 q2, .int .u64 q3] := by
    have h := wv_c4 (X / b ^ (k + 1))
    rw [hq] at h
    injection h with h
    exact h.symm
  have h1 : (V.setCell ⟨w.heap.size + 1, 77 - k, none⟩ (.int .u8 d)).heap[w.heap.size + 1]? = some (.cells (cbs 78 (fun i => if i = 77 - k then d else g i)) 111 (0, 0)) := by
    have h := blk_set (o := 77 - k) hg (.int .u8 d)
    rw [cbs_set] at h
    exact h
  have h2 : (V.setCell ⟨w.heap.size + 1, 77 - k, none⟩ (.int .u8 d)).heap[w.heap.size]? = some (.cells #[.int .u64 (limb (X / b ^ k) 0), .int .u64 (limb (X / b ^ k) 1), .int .u64 (limb (X / b ^ k) 2), .int .u64 (limb (X / b ^ k) 3)] 24 (0, 0)) :=
    (Below.heap_setCell V _ _ _ (by show w.heap.size ≠ w.heap.size + 1; omega)).trans I.x
  refine ⟨by rw [hc]; exact stored4 h2, ⟨_, (other4 (by omega)).trans h1, fun j hjk => ?_⟩, below_stored4 (I.b.setCell (p := ⟨w.heap.size + 1, 77 - k, none⟩) (by simp <;> omega) _) (by omega)⟩
  show (if 77 - j = 77 - k then d else g (77 - j)) = _
  by_cases e : j = k
  · rw [if_pos (by rw [e]), hd, e]
  · rw [if_neg (by omega)]; exact hj j (by omega)

end Go.Proofs.Ytpnijncoldihfaa
