/-
  Slices of bytes: parts of an array of 32, what is copied, the least bytes of a number.
-/
import Derived.Laws.CopyOwn
import Derived.OwnWalk
import Derived.Deep.Upon
import Derived.Test.YtpnijncoldihfaaBytesC24
import Derived.Test.YtpnijncoldihfaaBytesC25
namespace Go.Proofs.Ytpnijncoldihfaa
open Go.RowKit Go.Shelf

theorem Try.bytes5 : (Try.prog.info? 5).map (fun i => (i.zero, i.size, i.bytes)) = some (some (.int .u8 0), 1, 1) := by kernel_rfl

theorem Try.size5 : (Try.prog.info? 5).map (·.size) = some 1 := by kernel_rfl

/-- The row behind an owned slice of one-cell elements. -/
theorem own_row {w : World} {base e n cap g : Nat} {xs : List Value} (h : w.ownsRow base e 1 (.slice (some ⟨g, 0, none⟩) n cap) n xs) :
    ∃ cur : List Value, w.heap[g]? = some (.cells cur.toArray e (0, 0)) ∧ base ≤ g ∧ n ≤ cap ∧ cap ≤ maxLen ∧ cur.length = cap ∧ cur.take n = xs := by
  obtain ⟨hl, h | ⟨g', cap', cur, hv, hb, hg, hn, hm, hs, ht⟩⟩ := h
  · simp at h
  · simp only [Value.slice.injEq, Option.some.injEq, Addr.mk.injEq] at hv
    obtain ⟨⟨rfl, _, _⟩, _, rfl⟩ := hv
    exact ⟨cur.toList, by simpa using hg, hb, hn, hm, by simpa using hs, by simpa using ht⟩

/-- The run of 'copy' into a row that is known whole. -/
theorem copy_run {P : Program} (w : World) (T ty E : TypeId) (hu : P.underlying T = some (.slice E)) (hs : (P.info? E).map (·.size) = some 1) (dp sp : Option Addr) (dLen dCap sLen sCap : Nat)
    (g off : Nat) (cur : List Value) (t : TypeId) (hg : w.heap[g]? = some (.cells cur.toArray t (0, 0))) (cs : List Value) (hn : cs.length = Nat.min sLen dLen)
    (hpos : 0 < cs.length → dp = some ⟨g, off, none⟩ ∧ ∃ ad, sp = some ad ∧ ∀ j v, cs[j]? = some v → w.cell? (ad.add j) = some v)
    (hfit : off + cs.length ≤ cur.length) (h1 : ∀ v ∈ cs, v.oneCell' = true) :
    ∃ w', (Builtin.copy_ #[T, T] ty #[.slice dp dLen dCap, .slice sp sLen sCap]).run P w = .ok (goInt cs.length) w' ∧ w'.heap[g]? = some (.cells (splice cur off cs).toArray t (0, 0)) ∧ w.grownBy w' (some g) := by
  by_cases h0 : cs.length = 0
  · obtain rfl : cs = [] := List.eq_nil_of_length_eq_zero h0
    refine ⟨w, ?_, by simpa [splice] using hg, World.grownBy.refl _ _⟩
    exact run_copy_none (P := P) w T T ty E dp sp dLen dCap sLen sCap hu hs (by simpa using hn.symm)
  · obtain ⟨rfl, ad, rfl, hsrc⟩ := hpos (by omega)
    refine ⟨_, run_copy_row (P := P) w T T ty E g off dLen dCap ad sLen sCap cur.toArray t cs hu hs hg hn hsrc (by simpa using hfit) h1, ?_, ?_⟩
    · simpa [splice] using setRow_heap w g cur.toArray _ t _ hg
    · exact ⟨rfl, rfl, rfl, by simp [World.setRow], fun k hk hne => setRow_other w g k _ (fun e => hne (by rw [e]))⟩

/-- The last bytes of an array of 32. -/
theorem slice32 (B a : Nat) (ha : a ≤ 32) : ∃ sp, (a < 32 → sp = a) ∧ ∀ W : World, (Instr.sliceAt 52 (.pointer (some ⟨B, 0, none⟩)) (some (.int .i64 (a : Int))) none none).run Try.prog W = .ok (.slice (some ⟨B, sp, none⟩) (32 - a) (32 - a)) W := by
  refine ⟨if a = 32 then 0 else a, fun h => if_neg (by omega), fun W => ?_⟩
  have hl : Try.prog.arrayLen 52 = 32 := by kernel_rfl
  have hs : (sizeOf (Try.prog.elem 52)).run Try.prog W = .ok 1 W := by kernel_rfl
  rw [run_sliceAt_array_l (P := Try.prog) W 52 ⟨B, 0, none⟩ (by kernel_rfl) .i64 (a : Int) (by omega) (by rw [hl]; omega), hs, hl]
  have h1 : ((a : Int)).toNat = a := by omega
  by_cases h : a = 32
  · subst h; simp [Result.andThen, slicedAt]
  · have h3 : ¬ (32 = a) := by omega
    simp [Result.andThen, slicedAt, h1, h, h3, Addr.add]
    exact fun h => h.symm

/-- So many bytes a number has without leading noughts. -/
structure LB (X n : Nat) : Prop where
  le : n ≤ 32
  lt : X % M256 < 2 ^ (8 * n)
  ge : 0 < n → 2 ^ (8 * (n - 1)) ≤ X % M256

theorem LB.uniq {X n m : Nat} (h : LB X n) (h' : LB X m) : n = m := by
  rcases Nat.lt_trichotomy n m with hl | he | hg
  · have h1 := h'.ge (by omega)
    have h2 : 2 ^ (8 * n) ≤ 2 ^ (8 * (m - 1)) := Nat.pow_le_pow_right (by decide) (by omega)
    have h3 := h.lt
    omega
  · exact he
  · have h1 := h.ge (by omega)
    have h2 : 2 ^ (8 * m) ≤ 2 ^ (8 * (n - 1)) := Nat.pow_le_pow_right (by decide) (by omega)
    have h3 := h'.lt
    omega

theorem LB.ofBits {X n : Nat} (h256 : n ≤ 256) (hlt : X % M256 < 2 ^ n) (hge : 0 < n → 2 ^ (n - 1) ≤ X % M256) : LB X ((n + 7) / 8) := by
  refine ⟨by omega, Nat.lt_of_lt_of_le hlt (Nat.pow_le_pow_right (by decide) (by omega)), fun h => ?_⟩
  exact Nat.le_trans (Nat.pow_le_pow_right (by decide) (by omega)) (hge (by omega))

/-- The n lowest bytes, the highest first. -/
def lowB (X n : Nat) : Nat → Nat := fun j => byt X (n - 1 - j)

theorem lowB_lt (X n j : Nat) : lowB X n j < 256 := byt_lt _ _

/-- A row whose bytes are the least ones of a number. -/
structure LRow (w : World) (X : Nat) (v : Value) : Prop where
  ex : ∃ n cap g off, v = .slice (some ⟨g, off, none⟩) n cap ∧ LB X n ∧ g < w.heap.size ∧ ∀ j, j < n → w.cell? ⟨g, off + j, none⟩ = some (.int .u8 (lowB X n j))

/-- Bytes behind an empty slice: a row of their own. -/
theorem append_fresh (w : World) (ty B : Nat) (hB : B < w.heap.size) (ao : Option Addr) (n c : Nat) (hn : n ≤ 140737488355328) (bs : Nat → Nat) (hc : ∀ j, j < n → ∃ ad, ao = some ad ∧ w.cell? (ad.add j) = some (.int .u8 (bs j))) (h0 : n = 0 → ao = none → c = 0) :
    ∃ g cap w', (Builtin.append_ #[51, 51] ty #[.slice (some ⟨B, 0, none⟩) 0 0, .slice ao n c]).run Try.prog w = .ok (.slice (some ⟨g, 0, none⟩) n cap) w' ∧ g < w'.heap.size ∧ (∀ j, j < n → w'.cell? ⟨g, j, none⟩ = some (.int .u8 (bs j))) ∧ Below w.heap.size w w' := by
  obtain ⟨i0, hi, hz0, hz1, hz2⟩ := info_parts Try.bytes5
  have hlen : ((List.range n).map (fun j => Value.int .u8 (bs j))).length = n := by simp
  have hone : ∀ u ∈ (List.range n).map (fun j => Value.int .u8 (bs j)), u.oneCell' = true := by
    intro v hv
    simp only [List.mem_map] at hv
    obtain ⟨x, _, rfl⟩ := hv
    rfl
  by_cases hz : n = 0
  · subst hz
    refine ⟨B, 0, w, ?_, hB, fun j hj => absurd hj (by omega), Below.refl _ _⟩
    cases ao with
    | none => exact run_append_nothing (P := Try.prog) w 51 51 ty 5 i0 Try.underlying51 hi _ 0 0 (Nat.le_refl _) _ (Src.ofNil w Try.underlying51 c)
    | some a => exact run_append_nothing (P := Try.prog) w 51 51 ty 5 i0 Try.underlying51 hi _ 0 0 (Nat.le_refl _) _ (Src.ofSlice w Try.underlying51 a 0 c [] (by simp) (fun j u h => by simp at h) (fun u h => by cases h))
  · obtain ⟨ad, rfl, _⟩ := hc 0 (by omega)
    have hs : Src Try.prog i0.size 51 (.slice (some ad) n c) n ((List.range n).map (fun j => Value.int .u8 (bs j))) w := by
      refine Src.ofSlice w Try.underlying51 ad n c _ (by rw [hlen, hz1, Nat.mul_one]) (fun j v hv => ?_) hone
      simp only [List.getElem?_map, Option.map_eq_some_iff] at hv
      obtain ⟨x, hx, rfl⟩ := hv
      obtain ⟨hj, rfl⟩ := List.getElem?_eq_some_iff.1 hx
      simp only [List.length_range] at hj
      obtain ⟨ad', e, h⟩ := hc j hj
      cases e
      rw [List.getElem_range]
      exact h
    have hcap : Builtin.nextslicecap (0 + n) 0 * i0.bytes ≤ 281474976710656 := by
      rw [hz2, Nat.zero_add]
      unfold Builtin.nextslicecap
      simp
      split <;> omega
    have hr := run_append_grow_src (P := Try.prog) w 51 51 ty 5 i0 (.int .u8 0) Try.underlying51 hi hz0 (some ⟨B, 0, none⟩) 0 0 [] (by
      exact run_firstCells_some w.drew i0.size 0 ⟨B, 0, none⟩ 0 0 [] (by simp) (fun j u h => by simp at h)) (.slice (some ad) n c) n _ hs (by omega) (by omega) hcap
    rw [Nat.zero_add, List.nil_append] at hr
    refine ⟨w.heap.size, _, _, hr, by simp, fun j hj => ?_, ?_⟩
    · refine blk_cell (heap_new w.drew _) ?_
      rw [Array.getElem?_append_left (by simp [hlen, hj]), List.getElem?_toArray]
      simp [hj]
    · exact ((Below.refl _ w).drew).alloc (Nat.le_refl _) _

theorem wpList_append_fresh {ops : Array Oper} {rest : List Oper} {o : Oper} {a : Act} {w : World} {Q : Exit → Act → World → Prop} (hgd : o.guard = none) (s x : Operand)
    (ho : o.op = .call { callee := .builtin .append, args := #[s, x], argTypes := #[51, 51] }) (B : Nat) (ao : Option Addr) (n c : Nat) (hs : a.eval s = .slice (some ⟨B, 0, none⟩) 0 0) (hx : a.eval x = .slice ao n c)
    (hB : B < w.heap.size) (hn : n ≤ 140737488355328) (bs : Nat → Nat) (hc : ∀ j, j < n → ∃ ad, ao = some ad ∧ w.cell? (ad.add j) = some (.int .u8 (bs j))) (h0 : n = 0 → ao = none → c = 0)
    (h : ∀ g cap w', g < w'.heap.size → (∀ j, j < n → w'.cell? ⟨g, j, none⟩ = some (.int .u8 (bs j))) → Below w.heap.size w w' → wpList Try.prog ops Q rest (a.put o.dst (.slice (some ⟨g, 0, none⟩) n cap)) w') :
    wpList Try.prog ops Q (o :: rest) a w := by
  refine wpList_plain hgd fun K hK => ?_
  obtain ⟨g, cap, w', hrun, h1, h2, h3⟩ := append_fresh w o.type B hB ao n c hn bs hc h0
  unfold Oper.wp
  simp [execOp, ho, resolve, invoke, builtin, hs, hx, hrun, Result.andThen]
  exact hK _ _ (h g cap w' h1 h2 h3)

end Go.Proofs.Ytpnijncoldihfaa
