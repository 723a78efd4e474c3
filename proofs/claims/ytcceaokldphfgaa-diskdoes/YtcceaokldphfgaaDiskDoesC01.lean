/- YtcceaokldphfgaaDiskDoesC01 -/
import Derived.Test.YtcceaokldphfgaaProg
import Derived.WalkKit
import Derived.WalkLawsBesides
import Derived.WalkSpells
import Derived.BigQuiet
import Derived.Deep.QuietTactic
import Derived.Laws.CopyOwn
import Derived.Laws.AppendOwnNone
import Derived.Lib.Bytealg
namespace Go.Proofs.Ytcceaokldphfgaa
open Go.RowKit

theorem dead_any (b : Nat) (made dead : Bool) (w : World) (h0 : w.cell? ⟨b, 0, none⟩ = some (.bool made)) (h1 : w.cell? ⟨b, 1, none⟩ = some (.bool dead)) :
    Calls Try.prog 20 #[.pointer (some ⟨b, 0, none⟩)] w fun e w' => e = .returned (.bool (!made || dead)) ∧ w' = w := by
  cases made <;> cases dead
  all_goals
    go_enter Try.func20, Try.ntmps20
    go_wp2
    go_ret
    exact ⟨rfl, rfl⟩

theorem ops_any (b : Nat) (n : Int) (w : World) (h : w.cell? ⟨b, 7, none⟩ = some (.int .i64 n)) :
    Calls Try.prog 16 #[.pointer (some ⟨b, 0, none⟩)] w fun e w' => e = .returned (.int .i64 n) ∧ w' = w := by
  go_enter Try.func16, Try.ntmps16
  go_wp2
  go_ret
  exact ⟨rfl, rfl⟩

theorem Try.info5 : (Try.prog.info? 5).map (fun i => (i.zero, i.size, i.bytes)) = some (some (.int .u8 0), 1, 1) := by kernel_rfl

theorem Try.info3 : (Try.prog.info? 3).map (fun i => (i.zero, i.size, i.bytes)) = some (some (.int .i64 0), 1, 8) := by kernel_rfl

theorem Try.size5 : (Try.prog.info? 5).map (·.size) = some 1 := by kernel_rfl

/-- A byte as the model's cell holds it. -/
def byteV (x : UInt8) : Value := .int .u8 x.toNat

/-- Bytes that can be read: the value v is a slice whose elements are l. -/
def Rd (w : World) (v : Value) (l : List UInt8) : Prop :=
  ∃ a c, v = .slice a l.length c ∧ l.length ≤ c ∧ ∀ j x, l[j]? = some x → ∃ ad, a = some ad ∧ w.cell? (ad.add j) = some (byteV x)

theorem byteV_one (l : List UInt8) : ∀ v ∈ l.map byteV, v.oneCell' = true := by
  intro v hv
  simp only [List.mem_map] at hv
  obtain ⟨x, _, rfl⟩ := hv
  rfl

theorem Rd.src {w : World} {a : Option Addr} {l : List UInt8} (h : ∀ j x, l[j]? = some x → ∃ ad, a = some ad ∧ w.cell? (ad.add j) = some (byteV x)) :
    0 < (l.map byteV).length → ∃ ad, a = some ad ∧ ∀ j v, (l.map byteV)[j]? = some v → w.cell? (ad.add j) = some v := by
  intro h0
  have h0' : 0 < l.length := by simpa using h0
  obtain ⟨ad, rfl, _⟩ := h 0 l[0] (by simp)
  refine ⟨ad, rfl, fun j v hv => ?_⟩
  simp only [List.getElem?_map, Option.map_eq_some_iff] at hv
  obtain ⟨x, hx, rfl⟩ := hv
  obtain ⟨ad', e, hc⟩ := h j x hx
  cases e
  exact hc

/-- The row behind an owned slice of one-cell elements. -/
theorem own_row {w : World} {base e n cap g : Nat} {xs : List Value} (h : w.ownsRow base e 1 (.slice (some ⟨g, 0, none⟩) n cap) n xs) :
    ∃ cur : List Value, w.heap[g]? = some (.cells cur.toArray e (0, 0)) ∧ base ≤ g ∧ n ≤ cap ∧ cap ≤ maxLen ∧ cur.length = cap ∧ cur.take n = xs := by
  obtain ⟨hl, h | ⟨g', cap', cur, hv, hb, hg, hn, hm, hs, ht⟩⟩ := h
  · simp at h
  · simp only [Value.slice.injEq, Option.some.injEq, Addr.mk.injEq] at hv
    obtain ⟨⟨rfl, _, _⟩, _, rfl⟩ := hv
    exact ⟨cur.toList, by simpa using hg, hb, hn, hm, by simpa using hs, by simpa using ht⟩

/-- An owned slice out of the row behind it. -/
theorem own_mk {w : World} {base e n cap g : Nat} {xs cur : List Value} (hg : w.heap[g]? = some (.cells cur.toArray e (0, 0))) (hb : base ≤ g) (hn : n ≤ cap) (hm : cap ≤ maxLen) (hc : cur.length = cap) (ht : cur.take n = xs) :
    w.ownsRow base e 1 (.slice (some ⟨g, 0, none⟩) n cap) n xs :=
  ⟨by rw [← ht]; simp; omega, .inr ⟨g, cap, cur.toArray, rfl, hb, hg, hn, hm, by simpa using hc, by simpa using ht⟩⟩

/-- The run of 'copy' into a row that is known whole. -/
theorem copy_run {P : Program} (w : World) (T ty E : TypeId) (hu : P.underlying T = some (.slice E)) (hs : (P.info? E).map (·.size) = some 1) (dp sp : Option Addr) (dLen dCap sLen sCap : Nat)
    (g off : Nat) (cur : List Value) (t : TypeId) (hg : w.heap[g]? = some (.cells cur.toArray t (0, 0))) (cs : List Value) (hn : cs.length = Nat.min sLen dLen)
    (hpos : 0 < cs.length → dp = some ⟨g, off, none⟩ ∧ ∃ ad, sp = some ad ∧ ∀ j v, cs[j]? = some v → w.cell? (ad.add j) = some v)
    (hfit : off + cs.length ≤ cur.length) (h1 : ∀ v ∈ cs, v.oneCell' = true) :
    ∃ w', (Builtin.copy_ #[T, T] ty #[.slice dp dLen dCap, .slice sp sLen sCap]).run P w = .ok (goInt cs.length) w' ∧ w'.heap[g]? = some (.cells (splice cur off cs).toArray t (0, 0)) ∧ w.grownBy w' (some g) := by
  by_cases h0 : cs.length = 0
  · obtain rfl : cs = [] := List.eq_nil_of_length_eq_zero h0
    refine ⟨w, ?_, by simpa [splice] using hg, World.grownBy.refl _ _⟩
    exact run_copy_none (P := P) w T T ty E dp sp dLen dCap sLen sCap hu hs (by simpa using hn.symm)
  · obtain ⟨rfl, ad, rfl, hsrc⟩ := hpos (by omega)
    refine ⟨_, run_copy_row (P := P) w T T ty E g off dLen dCap ad sLen sCap cur.toArray t cs hu hs hg hn hsrc (by simpa using hfit) h1, ?_, ?_⟩
    · simpa [splice] using setRow_heap w g cur.toArray _ t _ hg
    · exact ⟨rfl, rfl, rfl, by simp [World.setRow], fun k hk hne => setRow_other w g k _ (fun e => hne (by rw [e]))⟩

set_option maxHeartbeats 400000 in
set_option maxRecDepth 100000 in
theorem copyBytes_any (v : Value) (l : List UInt8) (w : World) (h : Rd w v l) (hl : l.length ≤ 281474976710656) :
    Calls Try.prog 46 #[v] w fun e w' => e = .returned (.slice (some ⟨w.heap.size, 0, none⟩) l.length l.length) ∧
      w'.ownsRow w.heap.size 5 1 (.slice (some ⟨w.heap.size, 0, none⟩) l.length l.length) l.length (l.map byteV) ∧ Below w.heap.size w w' := by
  obtain ⟨a, c, rfl, _, hr⟩ := h
  obtain ⟨i0, hi, hz0, hz1, hz2⟩ := info_parts Try.info5
  go_enter Try.func46, Try.ntmps46
  go_wp2_with (at_make; refine wpList_make_full _ rfl _ _ 33 rfl w.heap.size 5 i0 (.int .u8 0) 1 Try.underlying33 hi hz0 hz1 _ _ _ _ l.length rfl rfl rfl rfl ?b2 ?b3 (Nat.le_refl _) ?_)
  case b2 => rw [hz2]; omega
  case b3 => unfold maxLen; omega
  intro w0 hown0 hgrow0
  obtain ⟨cur, hg, _, _, hm, hcur, _⟩ := own_row hown0
  have hb0 : Below w.heap.size w w0 := (Below.refl _ _).grown hgrow0 (Nat.le_refl _) (fun k h => by cases h)
  have hr0 : ∀ j x, l[j]? = some x → ∃ ad, a = some ad ∧ w0.cell? (ad.add j) = some (byteV x) := by
    intro j x hx
    obtain ⟨ad, e, hc⟩ := hr j x hx
    exact ⟨ad, e, hgrow0.cell hc (by simp)⟩
  obtain ⟨w2, hrun, hg2, hgrow2⟩ := copy_run (P := Try.prog) w0 33 3 5 Try.underlying33 Try.size5 (some ⟨w.heap.size, 0, none⟩) a l.length l.length l.length c w.heap.size 0 cur 5 hg (l.map byteV) (by simp) (fun h => ⟨rfl, Rd.src hr0 h⟩) (by simp [hcur]) (byteV_one l)
  have HG2 : Hid (w2.heap[w.heap.size]? = some (.cells (splice cur 0 (l.map byteV)).toArray 5 (0, 0))) := hg2
  have hB2 : Below w.heap.size w w2 := hb0.grown hgrow2 hb0.size (fun k h => by cases h; exact Nat.le_refl _)
  have Hcur : Hid (cur.length = l.length) := hcur
  clear hr0 hr hg hown0 hgrow0 hg2 hcur hgrow2
  go_wp2
  go_ret
  have hcur := Hcur.out
  refine ⟨rfl, own_mk (cur := splice cur 0 (l.map byteV)) HG2.out (Nat.le_refl _) (Nat.le_refl _) hm ?_ ?_, hB2⟩
  · rw [length_splice _ _ _ (by simp [hcur]), hcur]
  · simp [splice]

end Go.Proofs.Ytcceaokldphfgaa

namespace Go.Proofs.Ytcceaokldphfgaa
open Go.RowKit

/-- Integers that can be read: nil, or a slice whose elements are l. -/
def RdI (w : World) (v : Value) (l : List Int) : Prop :=
  (v = .slice none 0 0 ∧ l = []) ∨ ∃ b o c, v = .slice (some ⟨b, o, none⟩) l.length c ∧ b < w.heap.size ∧ ∀ j x, l[j]? = some x → w.cell? ⟨b, o + j, none⟩ = some (.int .i64 x)

set_option maxRecDepth 100000 in
theorem clone_nil (w : World) : Calls Try.prog 63 #[.slice none 0 0] w fun e w' => e = .returned (.slice none 0 0) ∧ w' = w := by
  have hnil := fun w a n c => Lib.run_eql_slice_nil (P := Try.prog) w 22 3 a n c 0 0 Try.underlying22
  go_enter Try.func63, Try.ntmps63
  go_wp2
  go_ret
  exact ⟨rfl, rfl⟩

set_option maxHeartbeats 400000 in
set_option maxRecDepth 100000 in
theorem clone_some (b o c : Nat) (l : List Int) (w : World) (hl : l.length * 8 ≤ 140737488351232) (hr : ∀ j x, l[j]? = some x → w.cell? ⟨b, o + j, none⟩ = some (.int .i64 x)) :
    Calls Try.prog 63 #[.slice (some ⟨b, o, none⟩) l.length c] w fun e w' => ∃ v, e = .returned v ∧ w'.ownsRow w.heap.size 3 1 v l.length (l.map (Value.int .i64)) ∧ Below w.heap.size w w' := by
  obtain ⟨i0, hi, hz0, hz1, hz2⟩ := info_parts Try.info3
  have hnil := fun w a n c => Lib.run_eql_slice_nil (P := Try.prog) w 22 3 a n c 0 0 Try.underlying22
  go_enter Try.func63, Try.ntmps63
  go_wp2_with (at_builtin; refine wpList_append_own _ rfl _ _ 22 rfl w.heap.size 3 i0 (.int .i64 0) 1 8 Try.underlying22 hi hz0 hz1 hz2 rfl (by decide) _ 0 [] rfl ?hown ⟨b, o, none⟩ l.length c (l.map (Value.int .i64)) rfl ?c0 ?c1 ?c2 ?c3 ?c4 ?c5 ?_)
  case hown => exact World.ownsRow_made w #[] 0 (Nat.le_refl _) (by decide) (by simp)
  case c0 => simp
  case c1 =>
    intro j u hu
    simp only [List.getElem?_map, Option.map_eq_some_iff] at hu
    obtain ⟨x, hx, rfl⟩ := hu
    have hc := hr j x hx
    rw [Addr.add_lit]
    exact (World.grownBy_alloc w _ none).cell hc (by simp)
  case c2 => exact ints_oneCell _ _
  case c3 => unfold maxLen; omega
  case c4 => omega
  case c5 => simp
  intro v' w1 hown hgrow _
  go_wp2
  go_ret
  refine ⟨_, rfl, by simpa using hown, ?_⟩
  exact ((Below.refl _ w).alloc (Nat.le_refl _) _).grown hgrow (by simp) (fun k hk => by cases hk; exact Nat.le_refl _)

/-- slices.Clone of integers. -/
theorem clone_any (v : Value) (l : List Int) (w : World) (h : RdI w v l) (hl : l.length * 8 ≤ 140737488351232) :
    Calls Try.prog 63 #[v] w fun e w' => ∃ v, e = .returned v ∧ w'.ownsRow w.heap.size 3 1 v l.length (l.map (Value.int .i64)) ∧ Below w.heap.size w w' := by
  rcases h with ⟨rfl, rfl⟩ | ⟨b, o, c, rfl, _, hr⟩
  · refine (clone_nil w).mono ?_
    rintro e w' ⟨rfl, rfl⟩
    exact ⟨_, rfl, World.ownsRow_nil _ _ _ _, Below.refl _ _⟩
  · exact clone_some b o c l w hl hr

/-- An owned row of integers can be read. -/
theorem RdI.of_own {w : World} {base : Nat} {v : Value} {l : List Int} (h : w.ownsRow base 3 1 v l.length (l.map (Value.int .i64))) : RdI w v l := by
  obtain ⟨hl, ⟨rfl, h0⟩ | ⟨g, cap, cur, rfl, hb, hg, hn, hm, hs, ht⟩⟩ := h
  · exact .inl ⟨rfl, by simpa using h0⟩
  · refine .inr ⟨g, 0, cap, rfl, (Array.getElem?_eq_some_iff.1 hg).1, fun j x hx => ?_⟩
    have hj : j < l.length := by
      rcases Nat.lt_or_ge j l.length with h | h
      · exact h
      · rw [List.getElem?_eq_none h] at hx; cases hx
    have e : (l.map (Value.int .i64))[j]? = some (.int .i64 x) := by simp [hx]
    rw [← ht] at e
    simp only [World.cell?, hg]
    simp only [Nat.mul_one, List.getElem?_take] at e
    rw [if_pos hj] at e
    simpa using e

theorem RdI.kept {w w' : World} {v : Value} {l : List Int} (h : RdI w v l) {B : Nat} (hb : Below B w w') (hv : ∀ b o n c, v = .slice (some ⟨b, o, none⟩) n c → b < B) : RdI w' v l := by
  rcases h with ⟨rfl, rfl⟩ | ⟨b, o, c, rfl, hlt, hr⟩
  · exact .inl ⟨rfl, rfl⟩
  · refine .inr ⟨b, o, c, rfl, Nat.lt_of_lt_of_le hlt hb.size, fun j x hx => ?_⟩
    exact (hb.cell (p := ⟨b, o + j, none⟩) (hv _ _ _ _ rfl)).trans (hr j x hx)

set_option maxHeartbeats 400000 in
set_option maxRecDepth 100000 in
theorem index_some (b o c : Nat) (l : List Int) (v : Int) (w : World) (hl : l.length * 8 ≤ 140737488351232) (hr : ∀ j x, l[j]? = some x → w.cell? ⟨b, o + j, none⟩ = some (.int .i64 x)) :
    Calls Try.prog 81 #[.slice (some ⟨b, o, none⟩) l.length c, .int .i64 v] w fun e w' => (∃ n : Int, e = .returned (.int .i64 n) ∧ (0 ≤ n ↔ v ∈ l)) ∧ w' = w := by
  go_enter Try.func81, Try.ntmps81
  go_wp2
  go_loop [5, 8] (fun _ i => ∃ k : Nat, k ≤ l.length ∧ i = .int .i64 k ∧ ∀ x ∈ l.take k, x ≠ v) (fun _ i => l.length - (intOf i).toNat)
  case atStart => exact ⟨0, Nat.zero_le _, rfl, by simp⟩
  case round =>
    obtain ⟨k, hk, rfl, hno⟩ := hrel
    by_cases hlt : k < l.length
    · have hc := hr k l[k] (by simp [hlt])
      have HN : Hid (∀ x ∈ l.take k, x ≠ v) := hno
      clear hno hr
      by_cases hv : v = l[k]
      · have hb : (v == l[k]) = true := by simp [hv]
        have HV : Hid (v = l[k]) := hv
        clear hv
        go_wp2
        go_ret
        exact ⟨⟨k, rfl, by constructor; intro _; rw [HV.out]; exact List.getElem_mem _; intro _; omega⟩, rfl⟩
      · have hb : (v == l[k]) = false := by simp [hv]
        have HV : Hid (¬ v = l[k]) := hv
        clear hv
        go_wp2
        go_round
        case rel =>
          refine ⟨k + 1, by omega, by go_num, ?_⟩
          intro x hx
          rw [List.take_succ_eq_append_getElem hlt, List.mem_append] at hx
          rcases hx with hx | hx
          · exact HN.out x hx
          · simp at hx; rw [hx]; exact fun e => HV.out e.symm
        case measure => simp [intOf]; omega
    · have hkl : k = l.length := by omega
      subst hkl
      clear hr
      have HN : Hid (∀ x ∈ l.take l.length, x ≠ v) := hno
      clear hno
      go_wp2
      go_ret
      have := HN.out
      refine ⟨⟨-1, rfl, ?_⟩, rfl⟩
      simp only [List.take_length] at this
      constructor
      · intro h; omega
      · intro h; exact absurd rfl (this v h)

set_option maxRecDepth 100000 in
theorem index_nil (v : Int) (w : World) :
    Calls Try.prog 81 #[.slice none 0 0, .int .i64 v] w fun e w' => (∃ n : Int, e = .returned (.int .i64 n) ∧ (0 ≤ n ↔ v ∈ ([] : List Int))) ∧ w' = w := by
  go_enter Try.func81, Try.ntmps81
  go_wp2
  refine wp_loop_rounds 1 ?_
  rw [rounds_succ]
  go_wp2
  go_ret
  exact ⟨⟨-1, rfl, by simp⟩, rfl⟩

theorem index_any (s : Value) (l : List Int) (v : Int) (w : World) (h : RdI w s l) (hl : l.length * 8 ≤ 140737488351232) :
    Calls Try.prog 81 #[s, .int .i64 v] w fun e w' => (∃ n : Int, e = .returned (.int .i64 n) ∧ (0 ≤ n ↔ v ∈ l)) ∧ w' = w := by
  rcases h with ⟨rfl, rfl⟩ | ⟨b, o, c, rfl, _, hr⟩
  · exact index_nil v w
  · exact index_some b o c l v w hl hr

set_option maxRecDepth 100000 in
/-- slices.Contains of integers. -/
theorem contains_any (s : Value) (l : List Int) (v : Int) (w : World) (h : RdI w s l) (hl : l.length * 8 ≤ 140737488351232) :
    Calls Try.prog 75 #[s, .int .i64 v] w fun e w' => e = .returned (.bool (decide (v ∈ l))) ∧ w' = w := by
  have hi := index_any s l v w h hl
  go_enter Try.func75, Try.ntmps75
  go_wp2_with (go_at_call 81; refine hi.mono ?_; rintro e w' ⟨⟨n, rfl, hn⟩, rfl⟩)
  go_ret
  exact ⟨by congr 2, rfl⟩

end Go.Proofs.Ytcceaokldphfgaa

namespace Go.Proofs.Ytcceaokldphfgaa
open Go.RowKit

theorem Try.extern89 : Extern.find Try.f89 = some Extern.BytealgCompare.compare := by kernel_rfl

theorem Try.next89 : Extern.findNext Try.f89 = none := by kernel_rfl

theorem run_cmp89 (a b : ByteArray) (w : World) : (callFunc 89 #[.string a, .string b]).run Try.prog w = .ok (.value (.int .i64 (Lib.compareBytes a.data.toList b.data.toList))) w := by
  rw [run_callFunc_extern Try.func89 (by kernel_rfl) (by kernel_rfl) Try.next89 Try.extern89, Lib.run_compareString]
  rfl

/-- How two strings compare, as a number that the walk does not look into. -/
def cmpS (a b : ByteArray) : Int := Lib.compareBytes a.data.toList b.data.toList

set_option maxRecDepth 100000 in
theorem compare_any (a b : ByteArray) (w : World) :
    Calls Try.prog 84 #[.string a, .string b] w fun e w' => e = .returned (.int .i64 (cmpS a b)) ∧ w' = w := by
  have h : ∀ w, (callFunc 89 #[.string a, .string b]).run Try.prog w = .ok (.value (.int .i64 (cmpS a b))) w := run_cmp89 a b
  go_enter Try.func84, Try.ntmps84
  go_wp2
  go_ret
  exact ⟨rfl, rfl⟩

set_option maxRecDepth 100000 in
theorem placeCmp_any (b : Nat) (nm t : ByteArray) (w : World) (h : w.cell? ⟨b, 0, none⟩ = some (.string nm)) :
    Calls Try.prog 83 #[.pointer (some ⟨b, 0, none⟩), .string t] w fun e w' => e = .returned (.int .i64 (cmpS nm t)) ∧ w' = w := by
  have hc := compare_any nm t w
  go_enter Try.func83, Try.ntmps83
  go_wp2_with (go_at_call 84; refine hc.mono ?_; rintro e w' ⟨rfl, rfl⟩)
  go_ret
  exact ⟨rfl, rfl⟩

/-- A byte that a name may have. -/
def okByte (c : UInt8) : Bool := decide (33 ≤ c.toNat ∧ c.toNat ≤ 126 ∧ c.toNat ≠ 47)

/-- What may be a file's name. -/
def okName (s : ByteArray) : Bool := decide (1 ≤ s.size ∧ s.size ≤ 32) && s.data.toList.all okByte

set_option maxHeartbeats 400000 in
set_option maxRecDepth 100000 in
theorem isName_long (s : ByteArray) (w : World) (h : s.size < 1 ∨ 32 < s.size) :
    Calls Try.prog 58 #[.string s] w fun e w' => e = .returned (.bool false) ∧ w' = w := by
  rcases h with h | h
  · go_enter Try.func58, Try.ntmps58
    go_wp2
    go_ret
    exact ⟨rfl, rfl⟩
  · have h' : ¬ s.size < 1 := by omega
    go_enter Try.func58, Try.ntmps58
    go_wp2
    go_ret
    exact ⟨rfl, rfl⟩

set_option maxHeartbeats 400000 in
set_option maxRecDepth 100000 in
theorem isName_core (s : ByteArray) (l : List UInt8) (hl : Hid (l = s.data.toList)) (w : World) (h1 : 1 ≤ s.size) (h2 : s.size ≤ 32) :
    Calls Try.prog 58 #[.string s] w fun e w' => e = .returned (.bool (l.all okByte)) ∧ Below w.heap.size w w' := by
  have hcv := fun w => run_bytes_of_string (P := Try.prog) w 9 33 5 s Try.underlying9 Try.underlying33 Try.underlying5
  have hs : s.data.size = s.size := rfl
  have hcell : ∀ (C : Array Value) (fr : Nat × Nat), (w.alloc (.cells C 5 fr)).drew.cell? = (w.alloc (.cells C 5 fr)).cell? := fun _ _ => rfl
  go_enter Try.func58, Try.ntmps58
  go_wp2
  clear hcv hcell
  obtain ⟨W, hW⟩ : ∃ W, W = (w.alloc (.cells (bytesRow s (grownCap w s.size 0 5)) 5 ((bytesRow s (grownCap w s.size 0 5)).size, (bytesRow s (grownCap w s.size 0 5)).size + 1))).drew := ⟨_, rfl⟩
  have hbel : Below w.heap.size w W := by rw [hW]; exact ((Below.refl _ w).alloc (Nat.le_refl _) _).drew
  have hbyte0 : ∀ k (hk : k < s.data.toList.length), W.cell? ⟨w.heap.size, k, none⟩ = some (.int .u8 (s.data.toList[k].toNat : Int)) := by
    intro k hk
    rw [hW, World.cell?_drew, World.cell?_alloc_mark, bytesRow_at s _ k (by simpa using hk)]
    simp
  rw [← hW]
  obtain ⟨cp, hcp⟩ : ∃ cp, cp = grownCap w s.size 0 5 := ⟨_, rfl⟩
  rw [← hcp]
  have hlen : s.data.toList.length = s.size := by simp [hs]
  clear hW hcp
  rw [← hl.out] at hlen
  have hbyte : ∀ k (hk : k < l.length), W.cell? ⟨w.heap.size, k, none⟩ = some (.int .u8 (l[k].toNat : Int)) := by
    intro k hk
    have e := hl.out
    subst e
    exact hbyte0 k hk
  have HL : Hid (l.length = s.size) := hlen
  clear hl hlen hs hbyte0
  go_loop [4, 16, 2] (fun _ i r => ∃ k : Nat, k ≤ s.size ∧ i = .int .i64 k ∧ (l.take k).all okByte = true ∧ r = .bool false) (fun _ i _ => s.size - (intOf i).toNat)
  case atStart => exact ⟨0, Nat.zero_le _, rfl, by simp, rfl⟩
  case round =>
    obtain ⟨k, hk, rfl, hall, rfl⟩ := hrel
    have HA : Hid ((l.take k).all okByte = true) := hall
    clear hall
    by_cases hlt : k < s.size
    · have hkl : k < l.length := by rw [HL.out]; exact hlt
      have hc := hbyte k hkl
      obtain ⟨c, hcc⟩ : ∃ c, c = l[k] := ⟨_, rfl⟩
      rw [← hcc] at hc
      have HC : Hid (c = l[k]) := hcc
      have hc255 : c.toNat < 256 := UInt8.toNat_lt c
      clear hcc hbyte
      by_cases ho : okByte c = true
      · have h3 : 33 ≤ c.toNat ∧ c.toNat ≤ 126 ∧ c.toNat ≠ 47 := by simpa [okByte] using ho
        obtain ⟨q1, q2, q3⟩ := h3
        have q4 : ((c.toNat : Int) == 47) = false := by simp; omega
        have q5 : ¬ (c.toNat : Int) < 33 := by omega
        have q6 : ¬ 126 < (c.toNat : Int) := by omega
        have HO : Hid (okByte c = true) := ho
        clear ho
        go_wp2
        go_round
        case rel =>
          refine ⟨k + 1, by omega, by go_num, ?_, rfl⟩
          rw [List.take_succ_eq_append_getElem hkl, List.all_append, HA.out, ← HC.out]
          simp [HO.out]
        case measure => simp [intOf]; omega
      · have HO : Hid (¬ okByte c = true) := ho
        have h3 : (c.toNat : Int) < 33 ∨ 126 < (c.toNat : Int) ∨ c.toNat = 47 := by
          simp [okByte] at ho
          omega
        clear ho
        have hfin : l.all okByte = false := by
          rw [Bool.eq_false_iff]
          intro hh
          exact HO.out (by rw [HC.out]; exact List.all_eq_true.1 hh _ (List.getElem_mem _))
        have HF : Hid (l.all okByte = false) := hfin
        clear hfin
        rcases h3 with h3 | h3 | h3
        · go_wp2
          go_ret
          exact ⟨by rw [HF.out]; rfl, hbel⟩
        · go_wp2
          go_ret
          exact ⟨by rw [HF.out]; rfl, hbel⟩
        · have q4 : ((c.toNat : Int) == 47) = true := by simp; omega
          have q5 : ¬ (c.toNat : Int) < 33 := by omega
          have q6 : ¬ 126 < (c.toNat : Int) := by omega
          clear h3
          go_wp2
          go_ret
          exact ⟨by rw [HF.out]; rfl, hbel⟩
    · have hkl : k = s.size := by omega
      subst hkl
      go_wp2
      go_ret
      have := HA.out
      rw [← HL.out, List.take_length] at this
      exact ⟨by rw [this]; rfl, hbel⟩

/-- isName, at every string. -/
theorem isName_any (s : ByteArray) (w : World) :
    Calls Try.prog 58 #[.string s] w fun e w' => e = .returned (.bool (okName s)) ∧ Below w.heap.size w w' := by
  by_cases h : 1 ≤ s.size ∧ s.size ≤ 32
  · refine (isName_core s s.data.toList rfl w h.1 h.2).mono ?_
    rintro e w' ⟨rfl, hb⟩
    exact ⟨by simp [okName, h.1, h.2], hb⟩
  · refine (isName_long s w (by omega)).mono ?_
    rintro e w' ⟨rfl, rfl⟩
    exact ⟨by simp only [okName, decide_eq_false h, Bool.false_and], Below.refl _ _⟩

end Go.Proofs.Ytcceaokldphfgaa
