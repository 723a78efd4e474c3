/-
  What AsBytes and AsList tell.
-/
import Derived.Test.YtigebmidfddbcaaRlpMeansC37
import Derived.Test.YtigebmidfddbcaaRlpMeansC22
namespace Go.Proofs.Ytigebmidfddbcaa
open Go.RowKit Go.Shelf

/-- Why an item is not of the kind, or not of the length. -/
def rng (want l : Int) (n : Nat) (lo hi : Int) : Nat := if l ≠ want then 45 else if (n : Int) < lo ∨ (n : Int) > hi then 46 else 0

set_option maxHeartbeats 2000000 in
set_option maxRecDepth 100000 in
theorem asBytes_any {l : Int} {ao ao' : Option Addr} {n c nk c' : Nat} {bs : Nat → Nat} (lo hi : Int) (w : World) (h : BS w ao n c bs) (hn : n ≤ 140737488355328) :
    Calls Try.prog 31 #[.agg #[.int .i64 l, .slice ao n c, .slice ao' nk c'], .int .i64 lo, .int .i64 hi] w fun e w' => (∃ v, e = .returned (.tuple #[v, .int .i64 (rng 0 l n lo hi)]) ∧ Own w.heap.size w' v (if rng 0 l n lo hi = 0 then n else 0) bs) ∧ Below w.heap.size w w' := by
  have HE : Hid (∀ W : World, Own w.heap.size W (.slice none 0 0) 0 bs) := fun W => ⟨none, 0, rfl, BS.empty _ _ _ h.lt, Or.inl rfl⟩
  by_cases h1 : l = 0
  · subst h1
    by_cases h2 : (n : Int) < lo
    · rw [show rng 0 0 n lo hi = 46 by unfold rng; rw [if_neg (by simp), if_pos (Or.inl h2)], if_neg (by decide)]
      clear h hn
      go_enter Try.func31, Try.ntmps31
      go_wp2_with fail
      go_ret2
      refine ⟨⟨_, rfl, HE.out _⟩, ?_⟩
      repeat first | exact Below.refl _ _ | (refine Below.alloc ?_ (by simp <;> omega) _)
    · by_cases h3 : (n : Int) > hi
      · rw [show rng 0 0 n lo hi = 46 by unfold rng; rw [if_neg (by simp), if_pos (Or.inr h3)], if_neg (by decide)]
        have h3' : hi < (n : Int) := h3
        clear h hn
        go_enter Try.func31, Try.ntmps31
        go_wp2_with fail
        go_ret2
        refine ⟨⟨_, rfl, HE.out _⟩, ?_⟩
        repeat first | exact Below.refl _ _ | (refine Below.alloc ?_ (by simp <;> omega) _)
      rw [show rng 0 0 n lo hi = 0 by unfold rng; rw [if_neg (by simp), if_neg (fun e => e.elim h2 h3)], if_pos rfl]
      have g2 := h2
      have g3 := h3
      have g3' : ¬ hi < (n : Int) := h3
      have HC := hideP (fun (W : World) (hb : Below w.heap.size w W) => copyBytes_any hn W (h.moved hb))
      have hb0 : Below w.heap.size w (w.alloc (.cells #[.int .i64 0, .slice ao n c, .slice ao' nk c'] 26)) := (Below.refl _ w).alloc (Nat.le_refl _) _
      have HB0 := hideP hb0
      clear h hn hb0 h2 h3
      go_enter Try.func31, Try.ntmps31
      go_wp2_with fail
      refine (HC.out _ HB0.out).mono ?_
      rintro e W1 ⟨⟨v, rfl, hO⟩, hb1⟩
      have HO : Hid (Own w.heap.size W1 v n bs) := hO.same (fun _ _ _ => rfl) (Nat.le_refl _) HB0.out.size
      have HB1 := hideP (HB0.out.trans (hb1.mono HB0.out.size))
      clear hO hb1 HC HB0
      go_wp2_with fail
      go_ret2
      exact ⟨⟨_, rfl, HO.out⟩, HB1.out⟩
  · rw [show rng 0 l n lo hi = 45 by unfold rng; rw [if_pos h1], if_neg (by decide)]
    have g : (l == 0) = false := beq_eq_false_iff_ne.2 h1
    clear h hn
    go_enter Try.func31, Try.ntmps31
    go_wp2_with fail
    go_ret2
    refine ⟨⟨_, rfl, HE.out _⟩, ?_⟩
    repeat first | exact Below.refl _ _ | (refine Below.alloc ?_ (by simp <;> omega) _)

set_option maxHeartbeats 2000000 in
set_option maxRecDepth 100000 in
theorem refAsBytes_any {l : Int} {ao ao' : Option Addr} {n c nk c' : Nat} {bs : Nat → Nat} (lo hi : Int) (w : World) (h : BS w ao n c bs) (hn : n ≤ 140737488355328) :
    Calls Try.prog 32 #[.agg #[.int .i64 l, .slice ao n c, .slice ao' nk c'], .int .i64 lo, .int .i64 hi] w fun e w' => (∃ v, e = .returned (.tuple #[v, .int .i64 (rng 0 l n lo hi)]) ∧ Own w.heap.size w' v (if rng 0 l n lo hi = 0 then n else 0) bs) ∧ Below w.heap.size w w' := by
  have HE : Hid (∀ W : World, Own w.heap.size W (.slice none 0 0) 0 bs) := fun W => ⟨none, 0, rfl, BS.empty _ _ _ h.lt, Or.inl rfl⟩
  by_cases h1 : l = 0
  · subst h1
    by_cases h2 : (n : Int) < lo
    · rw [show rng 0 0 n lo hi = 46 by unfold rng; rw [if_neg (by simp), if_pos (Or.inl h2)], if_neg (by decide)]
      clear h hn
      go_enter Try.func32, Try.ntmps32
      go_wp2_with fail
      go_ret2
      refine ⟨⟨_, rfl, HE.out _⟩, ?_⟩
      repeat first | exact Below.refl _ _ | (refine Below.alloc ?_ (by simp <;> omega) _)
    · by_cases h3 : (n : Int) > hi
      · rw [show rng 0 0 n lo hi = 46 by unfold rng; rw [if_neg (by simp), if_pos (Or.inr h3)], if_neg (by decide)]
        have h3' : hi < (n : Int) := h3
        clear h hn
        go_enter Try.func32, Try.ntmps32
        go_wp2_with fail
        go_ret2
        refine ⟨⟨_, rfl, HE.out _⟩, ?_⟩
        repeat first | exact Below.refl _ _ | (refine Below.alloc ?_ (by simp <;> omega) _)
      rw [show rng 0 0 n lo hi = 0 by unfold rng; rw [if_neg (by simp), if_neg (fun e => e.elim h2 h3)], if_pos rfl]
      have g2 := h2
      have g3 := h3
      have g3' : ¬ hi < (n : Int) := h3
      have hb0 : Below w.heap.size w (w.alloc (.cells #[.int .i64 0, .slice ao n c, .slice ao' nk c'] 26)) := (Below.refl _ w).alloc (Nat.le_refl _) _
      have hb1 := hb0.alloc hb0.size (.cells #[] 5 (0, 0))
      have HB := hideP (h.moved hb1)
      have HB1 := hideP hb1
      have HN := hideP hn
      have HLT := hideP h.lt
      clear h hn hb0 hb1 h2 h3
      go_enter Try.func32, Try.ntmps32
      go_wp2_with (at_builtin; refine wpList_append_fresh rfl _ _ rfl (some ⟨w.heap.size + 1, 0, none⟩) ao n c rfl rfl HN.out bs HB.out ?_)
      intro a2 cap W2 h1 h2 h3
      have hsz : ((w.alloc (.cells #[.int .i64 0, .slice ao n c, .slice ao' nk c'] 26)).alloc (.cells #[] 5 (0, 0))).heap.size = w.heap.size + 1 + 1 := by simp
      have HO : Hid (Own w.heap.size W2 (.slice a2 n cap) n bs) := by
        rcases h1 with ⟨rfl, rfl, rfl, rfl⟩ | ⟨h0, rfl⟩
        · exact ⟨_, 0, rfl, BS.empty _ _ _ HLT.out, Or.inr ⟨_, rfl, by omega, by simp⟩⟩
        · have hB := h2 h0
          obtain ⟨ad, e, hc⟩ := hB.cell 0 h0
          cases e
          exact ⟨_, cap, rfl, hB, Or.inr ⟨_, rfl, by omega, by have := World.block_lt_of_cell? W2 _ hc; simpa [Addr.add] using this⟩⟩
      have HL : Hid (Below w.heap.size w W2) := HB1.out.trans (h3.mono (by omega))
      clear h1 h2 h3 hsz
      go_wp2_with fail
      go_ret2
      exact ⟨⟨_, rfl, HO.out⟩, HL.out⟩
  · rw [show rng 0 l n lo hi = 45 by unfold rng; rw [if_pos h1], if_neg (by decide)]
    have g : (l == 0) = false := beq_eq_false_iff_ne.2 h1
    clear h hn
    go_enter Try.func32, Try.ntmps32
    go_wp2_with fail
    go_ret2
    refine ⟨⟨_, rfl, HE.out _⟩, ?_⟩
    repeat first | exact Below.refl _ _ | (refine Below.alloc ?_ (by simp <;> omega) _)

/-- Kids of their own, from farther down. -/
theorem KR.lower {N M : Nat} {w : World} {kv : Value} {ks : List Tree} (h : KR N w kv ks) (hM : M ≤ N) : KR M w kv ks := by
  obtain ⟨vs, ⟨h1, h2⟩, h3⟩ := h
  refine ⟨vs, ⟨h1, ?_⟩, fun j t ht => ?_⟩
  · rcases h2 with h | ⟨g, cap, cur, rfl, hb, rest⟩
    · exact Or.inl h
    · exact Or.inr ⟨g, cap, cur, rfl, Nat.le_trans hM hb, rest⟩
  · obtain ⟨v0, v1, v2, e0, e1, e2, hi⟩ := h3 j t ht
    refine ⟨v0, v1, v2, e0, e1, e2, hi.mono fun a u hc => ?_⟩
    obtain ⟨c1, c2, c3⟩ := cutR_cell.1 hc
    exact cutR_cell.2 ⟨Nat.le_trans hM c1, c2, c3⟩

set_option maxHeartbeats 2000000 in
set_option maxRecDepth 100000 in
theorem asList_any {l : Int} {ao ao' : Option Addr} {n c c' : Nat} {ts : List Tree} (lo hi : Int) (w : World) (h : KS w ao' ts.length c') (hk : IsKids w ts ao' 0) (hn : ts.length ≤ 3518437208884) (hf : Tree.fitsK ts) :
    Calls Try.prog 33 #[.agg #[.int .i64 l, .slice ao n c, .slice ao' ts.length c'], .int .i64 lo, .int .i64 hi] w fun e w' => (∃ kv, e = .returned (.tuple #[kv, .int .i64 (rng 1 l ts.length lo hi)]) ∧ KR w.heap.size w' kv (if rng 1 l ts.length lo hi = 0 then ts else [])) ∧ Below w.heap.size w w' := by
  by_cases h1 : l = 1
  · subst h1
    by_cases h2 : (ts.length : Int) < lo
    · rw [show rng 1 1 ts.length lo hi = 46 by unfold rng; rw [if_neg (by simp), if_pos (Or.inl h2)], if_neg (by decide)]
      clear h hk hn hf
      generalize ts.length = nk at *
      go_enter Try.func33, Try.ntmps33
      go_wp2_with fail
      go_ret2
      refine ⟨⟨_, rfl, KR.nil _ _⟩, ?_⟩
      repeat first | exact Below.refl _ _ | (refine Below.alloc ?_ (by simp <;> omega) _)
    · by_cases h3 : (ts.length : Int) > hi
      · rw [show rng 1 1 ts.length lo hi = 46 by unfold rng; rw [if_neg (by simp), if_pos (Or.inr h3)], if_neg (by decide)]
        have h3' : hi < (ts.length : Int) := h3
        clear h hk hn hf
        generalize ts.length = nk at *
        go_enter Try.func33, Try.ntmps33
        go_wp2_with fail
        go_ret2
        refine ⟨⟨_, rfl, KR.nil _ _⟩, ?_⟩
        repeat first | exact Below.refl _ _ | (refine Below.alloc ?_ (by simp <;> omega) _)
      rw [show rng 1 1 ts.length lo hi = 0 by unfold rng; rw [if_neg (by simp), if_neg (fun e => e.elim h2 h3)], if_pos rfl]
      have g2 := h2
      have g3 := h3
      have g3' : ¬ hi < (ts.length : Int) := h3
      have HC := hideP (fun (W : World) (hb : Below w.heap.size w W) => copyItems_all _ ts ao' c' W (Nat.lt_succ_self _) ⟨h.le, h.room, h.at_⟩ (hk.moved hb) hn hf)
      have hb0 : Below w.heap.size w (w.alloc (.cells #[.int .i64 1, .slice ao n c, .slice ao' ts.length c'] 26)) := (Below.refl _ w).alloc (Nat.le_refl _) _
      have HB0 := hideP hb0
      clear h hk hn hf hb0 h2 h3
      generalize ts.length = nk at *
      go_enter Try.func33, Try.ntmps33
      go_wp2_with fail
      refine (HC.out _ HB0.out).mono ?_
      rintro e W1 ⟨⟨v, rfl, hO⟩, hb1⟩
      have HO : Hid (KR w.heap.size W1 v ts) := hO.lower HB0.out.size
      have HB1 := hideP (HB0.out.trans (hb1.mono HB0.out.size))
      clear hO hb1 HC HB0
      go_wp2_with fail
      go_ret2
      exact ⟨⟨_, rfl, HO.out⟩, HB1.out⟩
  · rw [show rng 1 l ts.length lo hi = 45 by unfold rng; rw [if_pos h1], if_neg (by decide)]
    have g : (l == 1) = false := beq_eq_false_iff_ne.2 h1
    clear h hk hn hf
    generalize ts.length = nk at *
    go_enter Try.func33, Try.ntmps33
    go_wp2_with fail
    go_ret2
    refine ⟨⟨_, rfl, KR.nil _ _⟩, ?_⟩
    repeat first | exact Below.refl _ _ | (refine Below.alloc ?_ (by simp <;> omega) _)

set_option maxHeartbeats 2000000 in
set_option maxRecDepth 100000 in
theorem refAsList_any {l : Int} {ao ao' : Option Addr} {n c c' nk : Nat} (lo hi : Int) (w : World) :
    Calls Try.prog 34 #[.agg #[.int .i64 l, .slice ao n c, .slice ao' nk c'], .int .i64 lo, .int .i64 hi] w fun e w' => e = .returned (.tuple #[if rng 1 l nk lo hi = 0 then .slice ao' nk c' else .slice none 0 0, .int .i64 (rng 1 l nk lo hi)]) ∧ Below w.heap.size w w' := by
  by_cases h1 : l = 1
  · subst h1
    by_cases h2 : (nk : Int) < lo
    · rw [show rng 1 1 nk lo hi = 46 by unfold rng; rw [if_neg (by simp), if_pos (Or.inl h2)], if_neg (by decide)]
      skip
      skip
      go_enter Try.func34, Try.ntmps34
      go_wp2_with fail
      go_ret2
      refine ⟨rfl, ?_⟩
      repeat first | exact Below.refl _ _ | (refine Below.alloc ?_ (by simp <;> omega) _)
    · by_cases h3 : (nk : Int) > hi
      · rw [show rng 1 1 nk lo hi = 46 by unfold rng; rw [if_neg (by simp), if_pos (Or.inr h3)], if_neg (by decide)]
        have h3' : hi < (nk : Int) := h3
        skip
        skip
        go_enter Try.func34, Try.ntmps34
        go_wp2_with fail
        go_ret2
        refine ⟨rfl, ?_⟩
        repeat first | exact Below.refl _ _ | (refine Below.alloc ?_ (by simp <;> omega) _)
      rw [show rng 1 1 nk lo hi = 0 by unfold rng; rw [if_neg (by simp), if_neg (fun e => e.elim h2 h3)], if_pos rfl]
      have g2 := h2
      have g3 := h3
      have g3' : ¬ hi < (nk : Int) := h3
      clear h2 h3
      go_enter Try.func34, Try.ntmps34
      go_wp2_with fail
      go_ret2
      refine ⟨rfl, ?_⟩
      repeat first | exact Below.refl _ _ | (refine Below.alloc ?_ (by simp <;> omega) _)
  · rw [show rng 1 l nk lo hi = 45 by unfold rng; rw [if_pos h1], if_neg (by decide)]
    have g : (l == 1) = false := beq_eq_false_iff_ne.2 h1
    skip
    skip
    go_enter Try.func34, Try.ntmps34
    go_wp2_with fail
    go_ret2
    refine ⟨rfl, ?_⟩
    repeat first | exact Below.refl _ _ | (refine Below.alloc ?_ (by simp <;> omega) _)

end Go.Proofs.Ytigebmidfddbcaa
