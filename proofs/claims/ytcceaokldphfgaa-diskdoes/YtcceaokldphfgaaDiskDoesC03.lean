/- YtcceaokldphfgaaDiskDoesC03 -/
import Derived.Deep.RegionWith
import Derived.Test.YtcceaokldphfgaaDiskDoesC02
import Derived.Test.YtcceaokldphfgaaDiskDoesC01
namespace Go.Proofs.Ytcceaokldphfgaa
open Go.RowKit

/-- A change: a write (place, bytes), or a cut (length). -/
abbrev Chg := (Nat × List UInt8) ⊕ Nat

/-- What a cut does to bytes. -/
def applyT (long : Nat) (xs : List UInt8) : List UInt8 := if xs.length < long then xs ++ List.replicate (long - xs.length) 0 else xs.take long

theorem length_applyT (long : Nat) (xs : List UInt8) : (applyT long xs).length = long := by
  unfold applyT
  split
  · simp; omega
  · simp; omega

def applyC : Chg → List UInt8 → List UInt8
  | .inl (at_, l), xs => applyW at_ l xs
  | .inr long, xs => applyT long xs

/-- What survives of a change, by the number k. -/
def surviveC : Chg → Int → List UInt8 → List UInt8
  | .inl (at_, l), k, xs => if k < 0 then applyW at_ l xs else if k % (l.length + 1) = 0 then xs else applyW at_ (l.take (k % (l.length + 1)).toNat) xs
  | .inr long, k, xs => if k < 0 ∨ k % 2 = 1 then applyT long xs else xs

theorem Grew.refl (w : World) (v : Value) : Grew w w v v := ⟨World.grownBy.refl _ _, fun _ h => .inl h⟩

theorem grew_alloc {w w' : World} {o : Obj} {v v' : Value} (h : Grew (w.alloc o) w' v v') : Grew w w' v v' := by
  have hz : (w.alloc o).heap.size = w.heap.size + 1 := by simp
  refine ⟨⟨h.by_.os, h.by_.tape, h.by_.output, by have := h.by_.size; omega, fun k hk hne => (h.by_.block k (by omega) hne).trans (Below.heap_alloc w _ k hk)⟩, fun k hk => ?_⟩
  rcases h.at_ k hk with h1 | h1
  · exact .inl h1
  · exact .inr (by omega)

theorem grew_drew {w w' : World} {v v' : Value} (h : Grew w.drew w' v v') : Grew w w' v v' :=
  ⟨⟨h.by_.os, h.by_.tape, h.by_.output, h.by_.size, h.by_.block⟩, h.at_⟩

theorem applyW_any (v bv : Value) (at_ : Nat) (l xs : List UInt8) (w : World) (hown : w.ownsRow 0 5 1 v xs.length (xs.map byteV)) (hr : Rd w bv l) (hne : ∀ a n c, bv = .slice (some a) n c → v.ownBlock ≠ some a.block)
    (hb : at_ + l.length ≤ 268435456) (hb2 : xs.length ≤ 268435456) :
    Calls Try.prog 106 #[.agg #[.int .i64 at_, bv], v] w fun e w' => ∃ v', e = .returned v' ∧ w'.ownsRow 0 5 1 v' (applyW at_ l xs).length ((applyW at_ l xs).map byteV) ∧ Grew w w' v v' := by
  by_cases h : at_ + l.length ≤ xs.length
  · exact applyW_long v bv at_ l xs w hown hr hne h (by omega)
  · exact applyW_short v bv at_ l xs w hown hr hne (by omega) (by omega)

set_option maxHeartbeats 400000 in
set_option maxRecDepth 100000 in
theorem applyT_any (v : Value) (long : Nat) (xs : List UInt8) (w : World) (hown : w.ownsRow 0 5 1 v xs.length (xs.map byteV)) (hb : long ≤ 268435456) (hb2 : xs.length ≤ 268435456) :
    Calls Try.prog 110 #[.agg #[.int .i64 long], v] w fun e w' => ∃ v', e = .returned v' ∧ w'.ownsRow 0 5 1 v' (applyT long xs).length ((applyT long xs).map byteV) ∧ Grew w w' v v' := by
  have hown0 := hown.alloc (.cells #[.int .i64 long] 109)
  by_cases h : xs.length < long
  · have hlen := lengthen_any v xs.length long (xs.map byteV) _ hown0 (by omega) (by omega)
    obtain ⟨av, cv, rfl, hcv⟩ := own_slice hown
    clear hown hown0
    go_enter Try.func110, Try.ntmps110
    go_wp2_with (go_at_call 109; refine hlen.mono ?_; rintro e w1 ⟨v', rfl, hown1, hgrow1⟩)
    go_ret
    refine ⟨_, rfl, ?_, grew_alloc (by assumption)⟩
    have e : applyT long xs = xs ++ List.replicate (long - xs.length) 0 := by simp [applyT, h]
    rw [length_applyT, e]
    have h2 : (List.map byteV (xs ++ List.replicate (long - xs.length) 0)) = xs.map byteV ++ List.replicate (long - xs.length) (.int .u8 0) := by simp [byteV]
    rw [h2]
    assumption
  · have e : applyT long xs = xs.take long := by simp [applyT, h]
    have HE : Hid (applyT long xs = xs.take long) := e
    rcases hown.2 with ⟨rfl, h0⟩ | ⟨g, cap, cur, rfl, hbg, hg, hnc, hcm, hcs, htake⟩
    · have hx : xs = [] := List.eq_nil_of_length_eq_zero h0
      subst hx
      obtain rfl : long = 0 := by simpa using h
      clear hown hown0 e h
      go_enter Try.func110, Try.ntmps110
      go_wp2
      go_ret
      refine ⟨_, rfl, by simpa [applyT] using World.ownsRow_nil _ 0 5 1, grew_alloc (Grew.refl _ _)⟩
    · have hfin : (w.alloc (.cells #[.int .i64 long] 109)).ownsRow 0 5 1 (.slice (some ⟨g, 0, none⟩) long cap) (applyT long xs).length ((applyT long xs).map byteV) := by
        rw [length_applyT, e]
        refine own_mk (cur := cur.toList) (by rw [Array.toArray_toList]; exact (Below.heap_alloc w _ g (Array.getElem?_eq_some_iff.1 hg).1).trans hg) hbg (by omega) hcm (by simpa using hcs) ?_
        simp only [Nat.mul_one] at htake
        rw [List.map_take, ← htake, List.take_take]
        congr 1; omega
      have HF : Hid ((w.alloc (.cells #[.int .i64 long] 109)).ownsRow 0 5 1 (.slice (some ⟨g, 0, none⟩) long cap) (applyT long xs).length ((applyT long xs).map byteV)) := hfin
      clear hown hown0 e hfin hg htake hcs
      go_enter Try.func110, Try.ntmps110
      go_wp2
      go_ret
      exact ⟨_, rfl, HF.out, grew_alloc ⟨World.grownBy.refl _ _, fun k hk => .inl hk⟩⟩

set_option maxHeartbeats 400000 in
set_option maxRecDepth 100000 in
theorem surviveT_any (v : Value) (long : Nat) (k : Int) (xs : List UInt8) (w : World) (hown : w.ownsRow 0 5 1 v xs.length (xs.map byteV)) (hb : long ≤ 268435456) (hb2 : xs.length ≤ 268435456) (hk : -9223372036854775808 ≤ k ∧ k ≤ 9223372036854775807) :
    Calls Try.prog 112 #[.agg #[.int .i64 long], v, .int .i64 k] w fun e w' => ∃ v', e = .returned v' ∧ w'.ownsRow 0 5 1 v' (surviveC (.inr long) k xs).length ((surviveC (.inr long) k xs).map byteV) ∧ Grew w w' v v' := by
  have hown0 := hown.alloc (.cells #[.int .i64 long] 109)
  have happ := applyT_any v long xs _ hown0 hb hb2
  obtain ⟨hk1, hk2⟩ := hk
  by_cases h : k < 0
  · have HE : Hid (surviveC (.inr long) k xs = applyT long xs) := by show _ = _; simp [surviveC, h]
    clear hown hown0
    go_enter Try.func112, Try.ntmps112
    go_wp2_with (go_at_call 110; refine happ.mono ?_; rintro e w1 ⟨v', rfl, hown1, hgrow1⟩)
    go_ret
    exact ⟨_, rfl, by rw [HE.out]; assumption, grew_alloc (by assumption)⟩
  · have h0 : 0 ≤ k := by omega
    by_cases h2 : k % 2 = 1
    · have hq : (k % 2 == 1) = true := by simp [h2]
      have HE : Hid (surviveC (.inr long) k xs = applyT long xs) := by show _ = _; simp [surviveC, h2]
      clear hown hown0 h2
      go_enter Try.func112, Try.ntmps112
      go_wp2_with (go_at_call 110; refine happ.mono ?_; rintro e w1 ⟨v', rfl, hown1, hgrow1⟩)
      go_ret
      exact ⟨_, rfl, by rw [HE.out]; assumption, grew_alloc (by assumption)⟩
    · have hq : (k % 2 == 1) = false := by simp [h2]
      have HE : Hid (surviveC (.inr long) k xs = xs) := by show _ = _; simp [surviveC, h, h2]
      clear happ hown h2
      go_enter Try.func112, Try.ntmps112
      go_wp2
      go_ret
      exact ⟨_, rfl, by rw [HE.out]; assumption, grew_alloc (Grew.refl _ _)⟩

theorem Rd.alloc {w : World} {v : Value} {l : List UInt8} (h : Rd w v l) (o : Obj) : Rd (w.alloc o) v l := by
  obtain ⟨a, c, rfl, hc, hr⟩ := h
  refine ⟨a, c, rfl, hc, fun j x hx => ?_⟩
  obtain ⟨ad, e, h⟩ := hr j x hx
  exact ⟨ad, e, (World.grownBy_alloc w _ none).cell h (by simp)⟩

theorem Rd.take {w : World} {a : Option Addr} {c : Nat} {l : List UInt8} (h : Rd w (.slice a l.length c) l) (n : Nat) (hn : n ≤ l.length) : Rd w (.slice a n c) (l.take n) := by
  obtain ⟨a', c', e, hc, hr⟩ := h
  cases e
  refine ⟨a, c, by simp [Nat.min_eq_left hn], by simp; omega, fun j x hx => hr j x ?_⟩
  rw [List.getElem?_take] at hx
  split at hx
  · exact hx
  · cases hx

theorem Rd.drew {w : World} {v : Value} {l : List UInt8} (h : Rd w v l) : Rd w.drew v l := h

set_option maxHeartbeats 400000 in
set_option maxRecDepth 100000 in
theorem surviveW_any (v bv : Value) (at_ : Nat) (l : List UInt8) (k : Int) (xs : List UInt8) (w : World) (hown : w.ownsRow 0 5 1 v xs.length (xs.map byteV)) (hr : Rd w bv l) (hne : ∀ a n c, bv = .slice (some a) n c → v.ownBlock ≠ some a.block)
    (hb : at_ + l.length ≤ 268435456) (hb2 : xs.length ≤ 268435456) (hk : -9223372036854775808 ≤ k ∧ k ≤ 9223372036854775807) :
    Calls Try.prog 108 #[.agg #[.int .i64 at_, bv], v, .int .i64 k] w fun e w' => ∃ v', e = .returned v' ∧ w'.ownsRow 0 5 1 v' (surviveC (.inl (at_, l)) k xs).length ((surviveC (.inl (at_, l)) k xs).map byteV) ∧ Grew w w' v v' := by
  have hr' := hr
  obtain ⟨a, c, rfl, hc, _⟩ := hr'
  have hown0 := hown.alloc (.cells #[.int .i64 at_, .slice a l.length c] 106)
  have hr0 := hr.alloc (.cells #[.int .i64 at_, .slice a l.length c] 106)
  obtain ⟨hk1, hk2⟩ := hk
  by_cases h : k < 0
  · have happ := applyW_any v _ at_ l xs _ hown0 hr0 hne hb hb2
    have HE : Hid (surviveC (.inl (at_, l)) k xs = applyW at_ l xs) := by show _ = _; simp [surviveC, h]
    clear hown hown0 hr hr0 hne
    go_enter Try.func108, Try.ntmps108
    go_wp2_with (go_at_call 106; refine happ.mono ?_; rintro e w1 ⟨v', rfl, hown1, hgrow1⟩)
    go_ret
    exact ⟨_, rfl, by rw [HE.out]; assumption, grew_alloc (by assumption)⟩
  · have h0 : 0 ≤ k := by omega
    by_cases h2 : k % (l.length + 1) = 0
    · have hq : (k % ((l.length : Int) + 1) == 0) = true := by simp [h2]
      have HE : Hid (surviveC (.inl (at_, l)) k xs = xs) := by show _ = _; simp [surviveC, h, h2]
      clear hown hr hr0 hne h2
      go_enter Try.func108, Try.ntmps108
      go_wp2
      go_ret
      exact ⟨_, rfl, by rw [HE.out]; assumption, grew_alloc (Grew.refl _ _)⟩
    · have hq : (k % ((l.length : Int) + 1) == 0) = false := by simp [h2]
      have hm1 := Int.emod_nonneg k (show ((l.length : Int) + 1) ≠ 0 by omega)
      have hm2 := Int.emod_lt_of_pos k (show (0 : Int) < ((l.length : Int) + 1) by omega)
      obtain ⟨n, hn⟩ : ∃ n : Nat, k % ((l.length : Int) + 1) = n := ⟨_, (Int.toNat_of_nonneg hm1).symm⟩
      have hnl : n ≤ l.length := by omega
      have HE : Hid (surviveC (.inl (at_, l)) k xs = applyW at_ (l.take n) xs) := by
        show _ = _
        unfold surviveC
        simp only [if_neg h, if_neg h2]
        rw [hn, Int.toNat_natCast]
      have happ := applyW_any v (.slice a n c) at_ (l.take n) xs _ (hown0.drew) ((hr0.take n hnl).drew) (fun a' n' c' e => by cases e; exact hne _ _ _ rfl) (by simp; omega) hb2
      clear hown hr hr0 hne hown0
      go_enter Try.func108, Try.ntmps108
      go_wp2
      go_region_with (go_at_call 106; refine happ.mono ?_; rintro e w1 ⟨v', rfl, hown1, hgrow1⟩)
      all_goals (try go_wp2)
      all_goals go_ret
      all_goals exact ⟨_, rfl, by rw [HE.out]; assumption, grew_alloc (grew_drew (by assumption))⟩

end Go.Proofs.Ytcceaokldphfgaa

namespace Go.Proofs.Ytcceaokldphfgaa
open Go.RowKit

/-- The files' row as the search reads it: L lists the files' blocks and names. -/
def RowOf (w : World) (v : Value) (L : List (Nat × ByteArray)) : Prop :=
  (v = .slice none 0 0 ∧ L = []) ∨ ∃ g c, v = .slice (some ⟨g, 0, none⟩) L.length c ∧
    ∀ j q, L[j]? = some q → w.cell? ⟨g, j, none⟩ = some (.pointer (some ⟨q.1, 0, none⟩)) ∧ w.cell? ⟨q.1, 0, none⟩ = some (.string q.2)

/-- Where a name stands, or would stand. -/
structure Stands (L : List (Nat × ByteArray)) (t : ByteArray) (i : Nat) : Prop where
  le : i ≤ L.length
  below : ∀ (j : Nat) (q : Nat × ByteArray), L[j]? = some q → j < i → cmpS q.2 t < 0
  above : ∀ (j : Nat) (q : Nat × ByteArray), L[j]? = some q → i ≤ j → 0 ≤ cmpS q.2 t

def Steady (L : List (Nat × ByteArray)) (t : ByteArray) : Prop :=
  ∀ (j k : Nat) (q r : Nat × ByteArray), L[j]? = some q → L[k]? = some r → j ≤ k → cmpS r.2 t < 0 → cmpS q.2 t < 0

/-- Whether the name at that place is the one looked for. -/
def thereAt (L : List (Nat × ByteArray)) (t : ByteArray) (i : Nat) : Bool := match L[i]? with | some q => cmpS q.2 t == 0 | none => false

set_option maxHeartbeats 800000 in
set_option maxRecDepth 100000 in
theorem search_some (g c : Nat) (L : List (Nat × ByteArray)) (t : ByteArray) (w : World) (hl : L.length ≤ 4611686018427387903) (hs : Steady L t)
    (hr : ∀ j q, L[j]? = some q → w.cell? ⟨g, j, none⟩ = some (.pointer (some ⟨q.1, 0, none⟩)) ∧ w.cell? ⟨q.1, 0, none⟩ = some (.string q.2)) :
    Calls Try.prog 82 #[.slice (some ⟨g, 0, none⟩) L.length c, .string t, .func (.func 83) #[] #[]] w fun e w' =>
      (∃ i : Nat, e = .returned (.tuple #[.int .i64 i, .bool (thereAt L t i)]) ∧ Stands L t i) ∧ w' = w := by
  go_enter Try.func82, Try.ntmps82
  go_wp2
  have HS : Hid (Steady L t) := hs
  clear hs
  go_loop [9, 10, 11] (fun i j _ => ∃ a b : Nat, a ≤ b ∧ b ≤ L.length ∧ i = .int .i64 a ∧ j = .int .i64 b ∧ (∀ (k : Nat) (q : Nat × ByteArray), L[k]? = some q → k < a → cmpS q.2 t < 0) ∧ (∀ (k : Nat) (q : Nat × ByteArray), L[k]? = some q → b ≤ k → 0 ≤ cmpS q.2 t))
    (fun i j _ => (intOf j).toNat - (intOf i).toNat)
  case atStart => exact ⟨0, L.length, Nat.zero_le _, Nat.le_refl _, rfl, rfl, fun k q _ h => by omega, fun k q h hk => by rw [List.getElem?_eq_none hk] at h; cases h⟩
  case round =>
    obtain ⟨a, b, hab, hb, rfl, rfl, hlo, hhi⟩ := hrel
    have HLO : Hid (∀ (k : Nat) (q : Nat × ByteArray), L[k]? = some q → k < a → cmpS q.2 t < 0) := hlo
    have HHI : Hid (∀ (k : Nat) (q : Nat × ByteArray), L[k]? = some q → b ≤ k → 0 ≤ cmpS q.2 t) := hhi
    have HR : Hid (∀ j q, L[j]? = some q → w.cell? ⟨g, j, none⟩ = some (.pointer (some ⟨q.1, 0, none⟩)) ∧ w.cell? ⟨q.1, 0, none⟩ = some (.string q.2)) := hr
    clear hlo hhi hr
    by_cases hlt : a < b
    · have hm : (a + b) / 2 < L.length := by omega
      obtain ⟨q, hq⟩ : ∃ q, L[(a + b) / 2]? = some q := ⟨L[(a + b) / 2], by simp [hm]⟩
      obtain ⟨hc1, hc2⟩ := HR.out _ q hq
      have HQ : Hid (L[(a + b) / 2]? = some q) := hq
      have hcall := placeCmp_any q.1 q.2 t w hc2
      have hst : ∀ (k : Nat) (r : Nat × ByteArray), cmpS q.2 t < 0 → L[k]? = some r → k < (a + b) / 2 + 1 → cmpS r.2 t < 0 := fun k r hc hr hk => HS.out k _ r q hr HQ.out (by omega) hc
      have hst2 : ∀ (k : Nat) (r : Nat × ByteArray), ¬ cmpS q.2 t < 0 → L[k]? = some r → (a + b) / 2 ≤ k → 0 ≤ cmpS r.2 t := fun k r hc hr hk => by
        by_cases h : cmpS r.2 t < 0
        · exact absurd (HS.out _ k q r HQ.out hr hk h) hc
        · omega
      have HT1 : Hid (∀ (k : Nat) (r : Nat × ByteArray), cmpS q.2 t < 0 → L[k]? = some r → k < (a + b) / 2 + 1 → cmpS r.2 t < 0) := hst
      have HT2 : Hid (∀ (k : Nat) (r : Nat × ByteArray), ¬ cmpS q.2 t < 0 → L[k]? = some r → (a + b) / 2 ≤ k → 0 ≤ cmpS r.2 t) := hst2
      clear hst hst2 hq hc2
      by_cases hcmp : cmpS q.2 t < 0
      · go_wp2_with (go_at_call 83; refine hcall.mono ?_; rintro e w' ⟨rfl, rfl⟩)
        go_round
        case rel => exact ⟨(a + b) / 2 + 1, b, by omega, hb, by go_num, rfl, fun k r hr hk => HT1.out k r hcmp hr hk, HHI.out⟩
        case measure => simp [intOf]; omega
      · go_wp2_with (go_at_call 83; refine hcall.mono ?_; rintro e w' ⟨rfl, rfl⟩)
        go_round
        case rel => exact ⟨a, (a + b) / 2, by omega, by omega, rfl, by go_num, HLO.out, fun k r hr hk => HT2.out k r hcmp hr hk⟩
        case measure => simp [intOf]; omega
    · have hba : b = a := by omega
      subst hba
      by_cases hn : b < L.length
      · obtain ⟨q, hq⟩ : ∃ q, L[b]? = some q := ⟨L[b], by simp [hn]⟩
        obtain ⟨hc1, hc2⟩ := HR.out _ q hq
        have hcall := placeCmp_any q.1 q.2 t w hc2
        have HQ : Hid (L[b]? = some q) := hq
        clear hq hc2
        go_wp2_with (go_at_call 83; refine hcall.mono ?_; rintro e w' ⟨rfl, rfl⟩)
        go_ret2
        refine ⟨⟨b, ?_, ⟨hb, HLO.out, HHI.out⟩⟩, rfl⟩
        simp only [thereAt, HQ.out]
        rfl
      · have HN : Hid (L[b]? = none) := List.getElem?_eq_none (by omega)
        go_wp2
        go_ret2
        refine ⟨⟨b, ?_, ⟨hb, HLO.out, HHI.out⟩⟩, rfl⟩
        simp only [thereAt, HN.out]
        rfl

set_option maxHeartbeats 400000 in
set_option maxRecDepth 100000 in
theorem search_nil (t : ByteArray) (w : World) :
    Calls Try.prog 82 #[.slice none 0 0, .string t, .func (.func 83) #[] #[]] w fun e w' =>
      (∃ i : Nat, e = .returned (.tuple #[.int .i64 i, .bool (thereAt [] t i)]) ∧ Stands [] t i) ∧ w' = w := by
  go_enter Try.func82, Try.ntmps82
  go_wp2
  refine wp_loop_rounds 1 ?_
  rw [rounds_succ]
  go_wp2
  go_ret2
  exact ⟨⟨0, rfl, ⟨Nat.le_refl _, fun j q h => by simp at h, fun j q h => by simp at h⟩⟩, rfl⟩

theorem search_any (v : Value) (L : List (Nat × ByteArray)) (t : ByteArray) (w : World) (hl : L.length ≤ 4611686018427387903) (hs : Steady L t) (hr : RowOf w v L) :
    Calls Try.prog 82 #[v, .string t, .func (.func 83) #[] #[]] w fun e w' =>
      (∃ i : Nat, e = .returned (.tuple #[.int .i64 i, .bool (thereAt L t i)]) ∧ Stands L t i) ∧ w' = w := by
  rcases hr with ⟨rfl, rfl⟩ | ⟨g, c, rfl, hr⟩
  · exact search_nil t w
  · exact search_some g c L t w hl hs hr

set_option maxHeartbeats 400000 in
set_option maxRecDepth 100000 in
theorem place_any (D : Nat) (v : Value) (L : List (Nat × ByteArray)) (t : ByteArray) (w : World) (hl : L.length ≤ 4611686018427387903) (hs : Steady L t) (hr : RowOf w v L)
    (hD : w.cell? ⟨D, 8, none⟩ = some v) :
    Calls Try.prog 76 #[.pointer (some ⟨D, 0, none⟩), .string t] w fun e w' =>
      (∃ i : Nat, e = .returned (.tuple #[.int .i64 i, .bool (thereAt L t i)]) ∧ Stands L t i) ∧ w' = w := by
  have hcall := search_any v L t w hl hs hr
  clear hs hr
  go_enter Try.func76, Try.ntmps76
  go_wp2_with (go_at_call 82; refine hcall.mono ?_; rintro e w' ⟨⟨i, rfl, hst⟩, rfl⟩)
  go_ret2
  exact ⟨⟨_, rfl, by assumption⟩, rfl⟩

/-- The file that is found: its block, or none. -/
def foundAt (L : List (Nat × ByteArray)) (t : ByteArray) : Option Nat := (L.find? fun q => cmpS q.2 t == 0).map (·.1)

theorem found_there {L : List (Nat × ByteArray)} {t : ByteArray} {i : Nat} (h : Stands L t i) (ht : thereAt L t i = true) : ∃ q, L[i]? = some q ∧ cmpS q.2 t = 0 ∧ foundAt L t = some q.1 := by
  unfold thereAt at ht
  split at ht
  · rename_i q hq
    refine ⟨q, hq, by simpa using ht, ?_⟩
    unfold foundAt
    have hlt : i < L.length := (List.getElem?_eq_some_iff.1 hq).1
    have : L.find? (fun q => cmpS q.2 t == 0) = some q := by
      rw [List.find?_eq_some_iff_getElem]
      refine ⟨ht, i, hlt, (List.getElem?_eq_some_iff.1 hq).2, fun j hj => ?_⟩
      have := h.below j L[j] (by simp) hj
      simp; omega
    rw [this]; rfl
  · cases ht

theorem found_not {L : List (Nat × ByteArray)} {t : ByteArray} {i : Nat} (h : Stands L t i) (hu : ∀ (j k : Nat) (q r : Nat × ByteArray), L[j]? = some q → L[k]? = some r → cmpS r.2 t = 0 → j < k → cmpS q.2 t < 0) (ht : thereAt L t i = false) : foundAt L t = none := by
  unfold foundAt
  rw [Option.map_eq_none_iff, List.find?_eq_none]
  intro q hq
  obtain ⟨j, hj, rfl⟩ := List.mem_iff_getElem.1 hq
  simp only [beq_iff_eq]
  intro h0
  rcases Nat.lt_or_ge j i with hji | hji
  · have := h.below j L[j] (by simp) hji; omega
  · rcases Nat.eq_or_lt_of_le hji with rfl | hlt
    · unfold thereAt at ht
      rw [List.getElem?_eq_getElem hj] at ht
      simp [h0] at ht
    · have hi : i < L.length := by omega
      have := hu i j L[i] L[j] (by simp) (by simp) h0 hlt
      have := h.above i L[i] (by simp) (Nat.le_refl _)
      omega

end Go.Proofs.Ytcceaokldphfgaa
