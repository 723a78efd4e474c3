/- YtcceaokldphfgaaDiskTwinsC48 -/
import Derived.Test.YtcceaokldphfgaaDiskTwinsC47
namespace Go.Proofs.Ytcceaokldphfgaa
open Go.RowKit Go.Shelf

theorem clone_D {w : World} {role : Role} {D : Nat} {s : DSt} (h : DiskOK w role D s) :
    Calls Try.prog 23 #[.pointer (some ⟨D, 0, none⟩)] w fun r w' => ∃ T, r = .returned (.pointer (some ⟨T, 0, none⟩)) ∧ Hid (∃ role' s', DiskOK w' role' T s' ∧ NewR w w' role' ∧ abs s' = abs s) ∧ Below w.heap.size w w' :=
  callsIn_wide.1 (clone_in h 10 (by omega))

/-- What Files tells. -/
def toldA (a : ASt) : List (ByteArray × List UInt8) := if a.dead = true then [] else dataL a.fs

set_option maxHeartbeats 1000000 in
set_option maxRecDepth 100000 in
theorem filesZ_D {w : World} {role : Role} {D : Nat} {s : DSt} (h : DiskOK w role D s) :
    Calls Try.prog 21 #[.pointer (some ⟨D, 0, none⟩)] w fun r w' => ∃ a n c, r = .returned (.slice a n c) ∧ Hid (FilesAt w' w.heap.size (.slice a n c) (toldA (abs s))) ∧ Below w.heap.size w w' := by
  cases hd : s.dead with
  | false =>
    have e : toldA (abs s) = dataL (abs s).fs := by unfold toldA; rw [show (abs s).dead = s.dead from rfl, hd]; rfl
    rw [e]
    exact files_D h hd
  | true =>
    have e : toldA (abs s) = [] := by unfold toldA; rw [show (abs s).dead = s.dead from rfl, hd]; rfl
    rw [e]
    have hdead := dDead h true hd
    have HF : Hid (FilesAt w w.heap.size (.slice none 0 0) []) := ⟨[], World.ownsRow_nil _ _ _ _, fun j x hx => by simp at hx⟩
    clear h hd e
    go_enter Try.func21, Try.ntmps21
    go_wp2_with fail
    refine hdead.mono ?_
    rintro r w' ⟨rfl, rfl⟩
    clear hdead
    go_wp2
    go_ret
    exact ⟨_, _, _, rfl, HF, Below.refl _ _⟩

theorem do_opsU {a : ASt} (h0 : 0 ≤ a.ops) (o : AOp) : (doA a o).1.ops ≤ a.ops + 1 := by
  by_cases h7 : o.kind = 7
  · unfold doA
    rw [if_neg (by omega), if_neg (by omega), if_neg (by omega), if_neg (by omega), if_neg (by omega), if_neg (by omega), if_neg (by omega), if_pos h7]
    show (0 : Int) ≤ _
    omega
  · exact (do_ops o h7).2

/-- Two disks beside each other, made since w; H: blocks that are neither's, as they were in WB; M: a block that is neither's. -/
structure Pair (w WB : World) (H : Nat → Prop) (M : Option Nat) (D T : Nat) (a b : ASt) (n : Nat) (wr : World) : Prop where
  ex : ∃ r1 s1 r2 s2, DiskOK wr r1 D s1 ∧ DiskOK wr r2 T s2 ∧ abs s1 = a ∧ abs s2 = b ∧ (∀ k q, r1 k = some q → r2 k = none) ∧ (∀ k q, r1 k = some q → w.heap.size ≤ k) ∧ (∀ k q, r2 k = some q → w.heap.size ≤ k) ∧
    (∀ k, H k → r1 k = none ∧ r2 k = none ∧ k < wr.heap.size) ∧ (∀ k, M = some k → r1 k = none ∧ r2 k = none ∧ k < wr.heap.size)
  below : Below w.heap.size w wr
  same : ∀ k, H k → wr.heap[k]? = WB.heap[k]?
  cohA : Coh a
  cohB : Coh b
  opsA : a.ops ≤ n
  opsB : b.ops ≤ n

theorem Pair.swap {w WB : World} {H : Nat → Prop} {M : Option Nat} {D T : Nat} {a b : ASt} {n : Nat} {wr : World} (h : Pair w WB H M D T a b n wr) : Pair w WB H M T D b a n wr := by
  obtain ⟨⟨r1, s1, r2, s2, h1, h2, h3, h4, h5, h6, h7, h8, h9⟩, e1, e2, e3, e4, e5, e6⟩ := h
  refine ⟨⟨r2, s2, r1, s1, h2, h1, h4, h3, fun k q e => ?_, h7, h6, fun k hk => ⟨(h8 k hk).2.1, (h8 k hk).1, (h8 k hk).2.2⟩, fun k hk => ⟨(h9 k hk).2.1, (h9 k hk).1, (h9 k hk).2.2⟩⟩, e1, e2, e4, e3, e6, e5⟩
  cases e' : r1 k with
  | none => rfl
  | some q' => rw [h5 k q' e'] at e; cases e

/-- New memory; some of it may be held. -/
theorem Pair.still {w WB : World} {H : Nat → Prop} {M : Option Nat} {D T : Nat} {a b : ASt} {n : Nat} {wr wr' : World} (h : Pair w WB H M D T a b n wr) (hb : Below wr.heap.size wr wr') : Pair w WB H M D T a b n wr' := by
  obtain ⟨⟨r1, s1, r2, s2, h1, h2, h3, h4, h5, h6, h7, h8, h9⟩, e1, e2, e3, e4, e5, e6⟩ := h
  have hz := hb.size
  exact ⟨⟨r1, s1, r2, s2, h1.still hb, h2.still hb, h3, h4, h5, h6, h7, fun k hk => ⟨(h8 k hk).1, (h8 k hk).2.1, by have := (h8 k hk).2.2; omega⟩, fun k hk => ⟨(h9 k hk).1, (h9 k hk).2.1, by have := (h9 k hk).2.2; omega⟩⟩,
    e1.trans (hb.mono e1.size), fun k hk => (hb.block k (h8 k hk).2.2).trans (e2 k hk), e3, e4, e5, e6⟩

/-- What is new is held from now on. -/
theorem Pair.hold {w WB : World} {H : Nat → Prop} {M : Option Nat} {D T : Nat} {a b : ASt} {n : Nat} {wr wr' : World} (h : Pair w WB H M D T a b n wr) (hb : Below wr.heap.size wr wr') : Pair w wr' (fun k => H k ∨ (wr.heap.size ≤ k ∧ k < wr'.heap.size)) M D T a b n wr' := by
  have h' := h.still hb
  obtain ⟨⟨r1, s1, r2, s2, h1, h2, h3, h4, h5, h6, h7, h8, h9⟩, e1, e2, e3, e4, e5, e6⟩ := h
  have hz := hb.size
  refine ⟨⟨r1, s1, r2, s2, h1.still hb, h2.still hb, h3, h4, h5, h6, h7, fun k hk => ?_, fun k hk => ⟨(h9 k hk).1, (h9 k hk).2.1, by have := (h9 k hk).2.2; omega⟩⟩, h'.below, fun k _ => rfl, e3, e4, e5, e6⟩
  rcases hk with hk | ⟨hk1, hk2⟩
  · exact ⟨(h8 k hk).1, (h8 k hk).2.1, by have := (h8 k hk).2.2; omega⟩
  · exact ⟨no_role h1 hk1, no_role h2 hk1, hk2⟩

/-- An operation on the first one. -/
theorem Pair.does {w WB : World} {H : Nat → Prop} {M : Option Nat} {D T : Nat} {a b : ASt} {n : Nat} {wr : World} (h : Pair w WB H M D T a b n wr) (hn : n ≤ 1000) {p p1 p2 p3 : Option Addr} {c c1 c2 c3 : Nat} {o : AOp} (hop : OpAt wr p p1 p2 p3 c c1 c2 c3 o) :
    Calls Try.prog 14 #[.pointer (some ⟨D, 0, none⟩), opV p p1 p2 p3 c c1 c2 c3 o] wr fun r w' => r = .returned (.int .i64 (doA a o).2) ∧ Hid (Pair w WB H M D T (doA a o).1 b (n + 1) w' ∧ (∀ k, M = some k → w'.heap[k]? = wr.heap[k]?) ∧ wr.heap.size ≤ w'.heap.size) := by
  obtain ⟨⟨r1, s1, r2, s2, h1, h2, rfl, rfl, h5, h6, h7, h8, h9⟩, e1, e2, e3, e4, e5, e6⟩ := h
  have e5' : s1.ops ≤ n := e5
  refine (do_D h1 (by omega) e3.dead p p1 p2 p3 c c1 c2 c3 o hop).mono ?_
  rintro r w' ⟨rfl, role', s', g1, g2, g3⟩
  have hz := g2.size
  have hr2 : ∀ k q, r2 k = some q → r1 k = none := fun k q e => by
    cases e' : r1 k with
    | none => rfl
    | some q' => rw [h5 k q' e'] at e; cases e
  have hk2 : ∀ k q, r2 k = some q → w'.heap[k]? = wr.heap[k]? := fun k q e => g2.keep k (h2.dom k q e) (.inl (hr2 k q e))
  have hop2 := do_opsU (a := abs s1) (h1.iO).1 o
  refine ⟨rfl, ⟨⟨role', s', r2, s2, g1, h2.kept hz (fun k q e _ => hk2 k q e) (fun _ _ e => e) (fun k q e => Nat.lt_of_lt_of_le (h2.dom k q e) hz), by rw [← g3], rfl, fun k q e => ?_, fun k q e => ?_, h7, fun k hk => ?_, fun k hk => ?_⟩, ?_, fun k hk => ?_, ?_, e4, ?_, by omega⟩, fun k hk => ?_, hz⟩
  · rcases Nat.lt_or_ge k wr.heap.size with hl | hl
    · rw [g2.ext k hl] at e
      exact h5 k q e
    · exact no_role h2 hl
  · rcases Nat.lt_or_ge k wr.heap.size with hl | hl
    · rw [g2.ext k hl] at e
      exact h6 k q e
    · have := e1.size; omega
  · obtain ⟨q1, q2, q3⟩ := h8 k hk
    exact ⟨(g2.ext k q3).trans q1, q2, by omega⟩
  · obtain ⟨q1, q2, q3⟩ := h9 k hk
    exact ⟨(g2.ext k q3).trans q1, q2, by omega⟩
  · refine ⟨g2.os.trans e1.os, g2.tape.trans e1.tape, g2.output.trans e1.output, Nat.le_trans e1.size hz, fun k hk => ?_⟩
    refine (g2.keep k (Nat.lt_of_lt_of_le hk e1.size) (.inl ?_)).trans (e1.block k hk)
    cases e' : r1 k with
    | none => rfl
    | some q => have := h6 k q e'; omega
  · obtain ⟨q1, q2, q3⟩ := h8 k hk
    exact (g2.keep k q3 (.inl q1)).trans (e2 k hk)
  · exact do_coh e3 o
  · have : (abs s1).ops = s1.ops := rfl
    omega
  · obtain ⟨q1, q2, q3⟩ := h9 k hk
    exact g2.keep k q3 (.inl q1)

/-- The pair of a disk and its clone. -/
theorem pair_clone {w wr : World} {D n : Nat} (h : Lives w wr D n) :
    Calls Try.prog 23 #[.pointer (some ⟨D, 0, none⟩)] wr fun r w' => ∃ T, r = .returned (.pointer (some ⟨T, 0, none⟩)) ∧ Hid (∃ a, Pair w w' (fun _ => False) none D T a a n w') := by
  obtain ⟨role, s, h1, h2, h3, h4⟩ := h
  refine (clone_D h1).mono ?_
  rintro r w' ⟨T, rfl, HF, hb⟩
  obtain ⟨role', s', q1, q2, q3⟩ := HF.out
  have hz := hb.size
  refine ⟨T, rfl, abs s, ⟨role, s, role', s', h1.still hb, q1, rfl, q3, fun k q e => ?_, fun k q e => ?_, fun k q e => ?_, fun k hk => hk.elim, fun k hk => by cases hk⟩, ?_, fun k hk => hk.elim, h3, h3, h4, h4⟩
  · have h9 := h1.dom k q e
    cases e' : role' k with
    | none => rfl
    | some q' => have := q2.lo k q' e'; omega
  · rcases Nat.lt_or_ge k w.heap.size with hl | hl
    · have := h2.ext k hl
      rw [e] at this
      cases this
    · exact hl
  · have := q2.lo k q e
    have := h2.size
    omega
  · exact (h2.below).trans (hb.mono h2.size)

end Go.Proofs.Ytcceaokldphfgaa

namespace Go.Proofs.Ytcceaokldphfgaa
open Go.RowKit Go.Shelf

/-- Any operation on a disk that lives. -/
theorem Lives.doesU {w wr : World} {D n : Nat} (h : Lives w wr D n) (hn : n ≤ 1000) {a a1 a2 a3 : Option Addr} {c c1 c2 c3 : Nat} {o : AOp} (hop : OpAt wr a a1 a2 a3 c c1 c2 c3 o) :
    Calls Try.prog 14 #[.pointer (some ⟨D, 0, none⟩), opV a a1 a2 a3 c c1 c2 c3 o] wr fun r w' => (∃ e, r = .returned (.int .i64 e)) ∧ Hid (Lives w w' D (n + 1)) := by
  obtain ⟨role, s, h1, h2, h3, h4⟩ := h
  refine (do_D h1 (by omega) h3.dead a a1 a2 a3 c c1 c2 c3 o hop).mono ?_
  rintro r w' ⟨rfl, role', s', g1, g2, g3⟩
  refine ⟨⟨_, rfl⟩, role', s', g1, h2.trans g2, by rw [g3]; exact do_coh h3 o, ?_⟩
  have := do_opsU (a := abs s) (h1.iO).1 o
  rw [← g3] at this
  have h5 : (abs s').ops = s'.ops := rfl
  have h6 : (abs s).ops = s.ops := rfl
  omega

/-- A run of operations, and what each comes to. -/
def runA (a : ASt) : List AOp → ASt
  | [] => a
  | o :: L => runA (doA a o).1 L

def errsA (a : ASt) : List AOp → List Int
  | [] => []
  | o :: L => (doA a o).2 :: errsA (doA a o).1 L

theorem runA_snoc : ∀ (L : List AOp) (a : ASt) (o : AOp), runA a (L ++ [o]) = (doA (runA a L) o).1
  | [], _, _ => rfl
  | _ :: L, _, o => runA_snoc L _ o

theorem errsA_snoc : ∀ (L : List AOp) (a : ASt) (o : AOp), errsA a (L ++ [o]) = errsA a L ++ [(doA (runA a L) o).2]
  | [], _, _ => rfl
  | p :: L, a, o => by
    show _ :: errsA _ (L ++ [o]) = _
    rw [errsA_snoc L _ o]
    rfl

theorem errsA_length : ∀ (L : List AOp) (a : ASt), (errsA a L).length = L.length
  | [], _ => rfl
  | _ :: L, a => by simp [errsA, errsA_length L]

theorem errsA_get (L : List AOp) (a : ASt) {j : Nat} (hj : j < L.length) : (errsA a L)[j]? = some (doA (runA a (L.take j)) L[j]).2 := by
  have h1 : L = L.take j ++ [L[j]] ++ L.drop (j + 1) := by
    rw [← List.take_succ_eq_append_getElem hj, List.take_append_drop]
  have h2 : ∀ (A B : List AOp) (a : ASt), errsA a (A ++ B) = errsA a A ++ errsA (runA a A) B := by
    intro A
    induction A with
    | nil => intro B a; rfl
    | cons o A ih => intro B a; show _ :: errsA _ (A ++ B) = _; rw [ih]; rfl
  have h3 : (L.take j).length = j := by simp; omega
  conv => lhs; rw [h1]
  rw [h2, errsA_snoc, List.append_assoc, List.getElem?_append_right (by rw [errsA_length]; omega), errsA_length, h3]
  simp

/-- The block M is held from now on. -/
theorem Pair.holdM {w WB : World} {H : Nat → Prop} {M : Option Nat} {D T : Nat} {a b : ASt} {n : Nat} {wr : World} (h : Pair w WB H M D T a b n wr) : Pair w wr (fun k => H k ∨ M = some k) none D T a b n wr := by
  obtain ⟨⟨r1, s1, r2, s2, h1, h2, h3, h4, h5, h6, h7, h8, h9⟩, e1, e2, e3, e4, e5, e6⟩ := h
  exact ⟨⟨r1, s1, r2, s2, h1, h2, h3, h4, h5, h6, h7, fun k hk => hk.elim (h8 k) (h9 k), fun k hk => by cases hk⟩, e1, fun _ _ => rfl, e3, e4, e5, e6⟩

/-- The row that M stands for grows. -/
theorem Pair.grew {w WB : World} {H : Nat → Prop} {D T : Nat} {a b : ASt} {n : Nat} {wr w' : World} {v v' : Value} (h : Pair w WB H v.ownBlock D T a b n wr) (hg : Grew wr w' v v') (hl : ∀ k, v'.ownBlock = some k → k < w'.heap.size) (hH : ∀ k, H k → v.ownBlock ≠ some k) (hw : ∀ k, v.ownBlock = some k → w.heap.size ≤ k) : Pair w WB H v'.ownBlock D T a b n w' := by
  obtain ⟨⟨r1, s1, r2, s2, h1, h2, h3, h4, h5, h6, h7, h8, h9⟩, e1, e2, e3, e4, e5, e6⟩ := h
  have hz := hg.by_.size
  have hk : ∀ k q, (r1 k = some q ∨ r2 k = some q) → w'.heap[k]? = wr.heap[k]? := fun k q e => hg.by_.block k (by rcases e with e | e; exact h1.dom k q e; exact h2.dom k q e) (fun e' => by
    obtain ⟨q1, q2, _⟩ := h9 k e'.symm
    rcases e with e | e
    · rw [q1] at e; cases e
    · rw [q2] at e; cases e)
  refine ⟨⟨r1, s1, r2, s2, h1.kept hz (fun k q e _ => hk k q (.inl e)) (fun _ _ e => e) (fun k q e => Nat.lt_of_lt_of_le (h1.dom k q e) hz), h2.kept hz (fun k q e _ => hk k q (.inr e)) (fun _ _ e => e) (fun k q e => Nat.lt_of_lt_of_le (h2.dom k q e) hz), h3, h4, h5, h6, h7, fun k hk => ⟨(h8 k hk).1, (h8 k hk).2.1, by have := (h8 k hk).2.2; omega⟩, fun k e => ?_⟩, e1.grown hg.by_ e1.size hw, fun k hk => (hg.by_.block k (h8 k hk).2.2 (fun e => hH k hk e.symm)).trans (e2 k hk), e3, e4, e5, e6⟩
  rcases hg.at_ k e with e' | e'
  · obtain ⟨q1, q2, q3⟩ := h9 k e'
    exact ⟨q1, q2, by omega⟩
  · exact ⟨no_role h1 e', no_role h2 e', hl k e⟩

theorem Pair.files {w WB : World} {H : Nat → Prop} {M : Option Nat} {D T : Nat} {a b : ASt} {n : Nat} {wr : World} (h : Pair w WB H M D T a b n wr) :
    Calls Try.prog 21 #[.pointer (some ⟨D, 0, none⟩)] wr fun r w' => ∃ p m c, r = .returned (.slice p m c) ∧ Hid (FilesAt w' wr.heap.size (.slice p m c) (toldA a)) ∧ Below wr.heap.size wr w' := by
  obtain ⟨r1, s1, r2, s2, h1, h2, rfl, _⟩ := h.ex
  exact filesZ_D h1

theorem Pair.safe {w WB : World} {H : Nat → Prop} {M : Option Nat} {D T : Nat} {a b : ASt} {n : Nat} {wr : World} (h : Pair w WB H M D T a b n wr) :
    Calls Try.prog 22 #[.pointer (some ⟨D, 0, none⟩)] wr fun r w' => ∃ p m c, r = .returned (.slice p m c) ∧ Hid (FilesAt w' wr.heap.size (.slice p m c) (safeL a.fs)) ∧ Below wr.heap.size wr w' := by
  obtain ⟨r1, s1, r2, s2, h1, h2, rfl, _⟩ := h.ex
  exact safe_D h1

theorem Pair.ops {w WB : World} {H : Nat → Prop} {M : Option Nat} {D T : Nat} {a b : ASt} {n : Nat} {wr : World} (h : Pair w WB H M D T a b n wr) :
    Calls Try.prog 16 #[.pointer (some ⟨D, 0, none⟩)] wr fun r w' => r = .returned (.int .i64 a.ops) ∧ wr = w' := by
  obtain ⟨r1, s1, r2, s2, h1, h2, rfl, _⟩ := h.ex
  exact ops_D h1

end Go.Proofs.Ytcceaokldphfgaa

namespace Go.Proofs.Ytcceaokldphfgaa
open Go.RowKit Go.Shelf

theorem own_up {w : World} {B e size n : Nat} {v : Value} {xs : List Value} (h : w.ownsRow 0 e size v n xs) (hk : ∀ k, v.ownBlock = some k → B ≤ k) : w.ownsRow B e size v n xs := by
  obtain ⟨hl, h0 | ⟨g, cap, cur, rfl, hb, hg, hr⟩⟩ := h
  · exact ⟨hl, .inl h0⟩
  · exact ⟨hl, .inr ⟨g, cap, cur, rfl, hk g rfl, hg, hr⟩⟩

theorem own_keep {w w' : World} {B e size n : Nat} {v : Value} {xs : List Value} (h : w.ownsRow B e size v n xs) (hk : ∀ k, v.ownBlock = some k → w'.heap[k]? = w.heap[k]?) : w'.ownsRow B e size v n xs := by
  obtain ⟨hl, h0 | ⟨g, cap, cur, rfl, hb, hg, hr⟩⟩ := h
  · exact ⟨hl, .inl h0⟩
  · exact ⟨hl, .inr ⟨g, cap, cur, rfl, hb, (hk g rfl).trans hg, hr⟩⟩

/-- What the twin says, one more. -/
theorem said_step {w WB wr : World} {H : Nat → Prop} {D T B : Nat} {a b : ASt} {n j c : Nat} {q : Option Addr} {es : List Value} (hp : Pair w WB H (Value.slice q j c).ownBlock D T a b n wr) (hrow : wr.ownsRow B 3 1 (.slice q j c) j es) (hn : n ≤ 1000) (hj : j ≤ 1000) {p p1 p2 p3 : Option Addr} {e e1 e2 e3 : Nat} {o : AOp} (hop : OpAt wr p p1 p2 p3 e e1 e2 e3 o) (hBH : ∀ k, H k → k < B) (hwB : w.heap.size ≤ B) (hBr : B ≤ wr.heap.size) :
    Calls Try.prog 14 #[.pointer (some ⟨T, 0, none⟩), opV p p1 p2 p3 e e1 e2 e3 o] wr fun r w5 => r = .returned (.int .i64 (doA b o).2) ∧ ∃ q' c' w7, Hid ((Builtin.append_ #[22, 22] 22 #[.slice q j c, .slice (some ⟨w5.heap.size, 0, none⟩) 1 1]).run Try.prog (w5.alloc (.cells #[.int .i64 (doA b o).2] 3)) = .ok (.slice q' (j + 1) c') w7) ∧
      Hid (w7.ownsRow B 3 1 (.slice q' (j + 1) c') (j + 1) (es ++ [.int .i64 (doA b o).2]) ∧ Pair w WB H (Value.slice q' (j + 1) c').ownBlock D T a (doA b o).1 (n + 1) w7 ∧ wr.heap.size ≤ w7.heap.size) := by
  refine (hp.swap.does hn hop).mono ?_
  rintro r w5 ⟨rfl, HX⟩
  obtain ⟨hp5, hM, hz5⟩ := HX.out
  have hp5' := hp5.swap
  have hrow5 := own_keep hrow hM
  obtain ⟨i0, hi0, hz0, hz1, hz2⟩ := info_parts Try.info3
  have hcell : (w5.alloc (.cells #[.int .i64 (doA b o).2] 3)).cell? ⟨w5.heap.size, 0, none⟩ = some (.int .i64 (doA b o).2) := (cell_new _ 3).1
  obtain ⟨v', w7, hrun, hown, hgrew⟩ := app_run (P := Try.prog) (w5.alloc (.cells #[.int .i64 (doA b o).2] 3)) 22 22 3 i0 (.int .i64 0) 8 Try.underlying22 hi0 hz0 hz1 hz2 rfl (.slice q j c) j es ((own_zero hrow5).alloc _) ⟨w5.heap.size, 0, none⟩ 1 1 [.int .i64 (doA b o).2] rfl
    (fun i u hu => by
      match i, hu with
      | 0, hu => simp only [List.getElem?_cons_zero, Option.some.injEq] at hu; subst hu; rw [Addr.add_lit]; exact hcell
      | i + 1, hu => simp at hu)
    (fun u hu => by simp at hu; rw [hu]; rfl) (by unfold maxLen; omega) (by omega)
  obtain ⟨a3, k3, rfl, _⟩ := own_slice hown
  have hg : Grew w5 w7 (.slice q j c) (.slice a3 (j + 1) k3) := grew_alloc hgrew
  have hB5 : B ≤ w5.heap.size := by omega
  refine ⟨rfl, a3, k3, w7, hrun, own_up hown (fun k e => ?_), hp5'.grew hg (fun k e => (hown.lt k e).2) (fun k hk e => ?_) (fun k e => ?_), Nat.le_trans hz5 hg.by_.size⟩
  · rcases hg.at_ k e with h | h
    · exact (hrow.lt k h).1
    · omega
  · have := (hrow.lt k e).1
    have := hBH k hk
    omega
  · have := (hrow.lt k e).1
    omega

end Go.Proofs.Ytcceaokldphfgaa
