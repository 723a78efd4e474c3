/- YtcceaokldphfgaaDiskTwinsC04 -/
import Derived.Deep.RegionWith
import Derived.Test.YtcceaokldphfgaaDiskTwinsC03
namespace Go.Proofs.Ytcceaokldphfgaa
open Go.RowKit

/-- A change: a write (place, bytes), or a cut (length). -/
abbrev Chg := (Nat × List UInt8) ⊕ Nat

/-- What a cut does to bytes. -/
def applyT (long : Nat) (xs : List UInt8) : List UInt8 := if xs.length < long then xs ++ List.replicate (long - xs.length) 0 else xs.take long

theorem length_applyT (long : Nat) (xs : List UInt8) : (applyT long xs).length = long := by
  unfold applyT
  split
  · simp; omega
  · simp; omega

def applyC : Chg → List UInt8 → List UInt8
  | .inl (at_, l), xs => applyW at_ l xs
  | .inr long, xs => applyT long xs

/-- What survives of a change, by the number k. -/
def surviveC : Chg → Int → List UInt8 → List UInt8
  | .inl (at_, l), k, xs => if k < 0 then applyW at_ l xs else if k % (l.length + 1) = 0 then xs else applyW at_ (l.take (k % (l.length + 1)).toNat) xs
  | .inr long, k, xs => if k < 0 ∨ k % 2 = 1 then applyT long xs else xs

theorem Grew.refl (w : World) (v : Value) : Grew w w v v := ⟨World.grownBy.refl _ _, fun _ h => .inl h⟩

theorem grew_alloc {w w' : World} {o : Obj} {v v' : Value} (h : Grew (w.alloc o) w' v v') : Grew w w' v v' := by
  have hz : (w.alloc o).heap.size = w.heap.size + 1 := by simp
  refine ⟨⟨h.by_.os, h.by_.tape, h.by_.output, by have := h.by_.size; omega, fun k hk hne => (h.by_.block k (by omega) hne).trans (Below.heap_alloc w _ k hk)⟩, fun k hk => ?_⟩
  rcases h.at_ k hk with h1 | h1
  · exact .inl h1
  · exact .inr (by omega)

theorem grew_drew {w w' : World} {v v' : Value} (h : Grew w.drew w' v v') : Grew w w' v v' :=
  ⟨⟨h.by_.os, h.by_.tape, h.by_.output, h.by_.size, h.by_.block⟩, h.at_⟩

theorem applyW_any (v bv : Value) (at_ : Nat) (l xs : List UInt8) (w : World) (hown : w.ownsRow 0 5 1 v xs.length (xs.map byteV)) (hr : Rd w bv l) (hne : ∀ a n c, bv = .slice (some a) n c → v.ownBlock ≠ some a.block)
    (hb : at_ + l.length ≤ 268435456) (hb2 : xs.length ≤ 268435456) :
    Calls Try.prog 106 #[.agg #[.int .i64 at_, bv], v] w fun e w' => ∃ v', e = .returned v' ∧ w'.ownsRow 0 5 1 v' (applyW at_ l xs).length ((applyW at_ l xs).map byteV) ∧ Grew w w' v v' := by
  by_cases h : at_ + l.length ≤ xs.length
  · exact applyW_long v bv at_ l xs w hown hr hne h (by omega)
  · exact applyW_short v bv at_ l xs w hown hr hne (by omega) (by omega)

set_option maxHeartbeats 400000 in
set_option maxRecDepth 100000 in
theorem applyT_any (v : Value) (long : Nat) (xs : List UInt8) (w : World) (hown : w.ownsRow 0 5 1 v xs.length (xs.map byteV)) (hb : long ≤ 268435456) (hb2 : xs.length ≤ 268435456) :
    Calls Try.prog 110 #[.agg #[.int .i64 long], v] w fun e w' => ∃ v', e = .returned v' ∧ w'.ownsRow 0 5 1 v' (applyT long xs).length ((applyT long xs).map byteV) ∧ Grew w w' v v' := by
  have hown0 := hown.alloc (.cells #[.int .i64 long] 109)
  by_cases h : xs.length < long
  · have hlen := lengthen_any v xs.length long (xs.map byteV) _ hown0 (by omega) (by omega)
    obtain ⟨av, cv, rfl, hcv⟩ := own_slice hown
    clear hown hown0
    go_enter Try.func110, Try.ntmps110
    go_wp2_with (go_at_call 109; refine hlen.mono ?_; rintro e w1 ⟨v', rfl, hown1, hgrow1⟩)
    go_ret
    refine ⟨_, rfl, ?_, grew_alloc (by assumption)⟩
    have e : applyT long xs = xs ++ List.replicate (long - xs.length) 0 := by simp [applyT, h]
    rw [length_applyT, e]
    have h2 : (List.map byteV (xs ++ List.replicate (long - xs.length) 0)) = xs.map byteV ++ List.replicate (long - xs.length) (.int .u8 0) := by simp [byteV]
    rw [h2]
    assumption
  · have e : applyT long xs = xs.take long := by simp [applyT, h]
    have HE : Hid (applyT long xs = xs.take long) := e
    rcases hown.2 with ⟨rfl, h0⟩ | ⟨g, cap, cur, rfl, hbg, hg, hnc, hcm, hcs, htake⟩
    · have hx : xs = [] := List.eq_nil_of_length_eq_zero h0
      subst hx
      obtain rfl : long = 0 := by simpa using h
      clear hown hown0 e h
      go_enter Try.func110, Try.ntmps110
      go_wp2
      go_ret
      refine ⟨_, rfl, by simpa [applyT] using World.ownsRow_nil _ 0 5 1, grew_alloc (Grew.refl _ _)⟩
    · have hfin : (w.alloc (.cells #[.int .i64 long] 109)).ownsRow 0 5 1 (.slice (some ⟨g, 0, none⟩) long cap) (applyT long xs).length ((applyT long xs).map byteV) := by
        rw [length_applyT, e]
        refine own_mk (cur := cur.toList) (by rw [Array.toArray_toList]; exact (Below.heap_alloc w _ g (Array.getElem?_eq_some_iff.1 hg).1).trans hg) hbg (by omega) hcm (by simpa using hcs) ?_
        simp only [Nat.mul_one] at htake
        rw [List.map_take, ← htake, List.take_take]
        congr 1; omega
      have HF : Hid ((w.alloc (.cells #[.int .i64 long] 109)).ownsRow 0 5 1 (.slice (some ⟨g, 0, none⟩) long cap) (applyT long xs).length ((applyT long xs).map byteV)) := hfin
      clear hown hown0 e hfin hg htake hcs
      go_enter Try.func110, Try.ntmps110
      go_wp2
      go_ret
      exact ⟨_, rfl, HF.out, grew_alloc ⟨World.grownBy.refl _ _, fun k hk => .inl hk⟩⟩

set_option maxHeartbeats 400000 in
set_option maxRecDepth 100000 in
theorem surviveT_any (v : Value) (long : Nat) (k : Int) (xs : List UInt8) (w : World) (hown : w.ownsRow 0 5 1 v xs.length (xs.map byteV)) (hb : long ≤ 268435456) (hb2 : xs.length ≤ 268435456) (hk : -9223372036854775808 ≤ k ∧ k ≤ 9223372036854775807) :
    Calls Try.prog 112 #[.agg #[.int .i64 long], v, .int .i64 k] w fun e w' => ∃ v', e = .returned v' ∧ w'.ownsRow 0 5 1 v' (surviveC (.inr long) k xs).length ((surviveC (.inr long) k xs).map byteV) ∧ Grew w w' v v' := by
  have hown0 := hown.alloc (.cells #[.int .i64 long] 109)
  have happ := applyT_any v long xs _ hown0 hb hb2
  obtain ⟨hk1, hk2⟩ := hk
  by_cases h : k < 0
  · have HE : Hid (surviveC (.inr long) k xs = applyT long xs) := by show _ = _; simp [surviveC, h]
    clear hown hown0
    go_enter Try.func112, Try.ntmps112
    go_wp2_with (go_at_call 110; refine happ.mono ?_; rintro e w1 ⟨v', rfl, hown1, hgrow1⟩)
    go_ret
    exact ⟨_, rfl, by rw [HE.out]; assumption, grew_alloc (by assumption)⟩
  · have h0 : 0 ≤ k := by omega
    by_cases h2 : k % 2 = 1
    · have hq : (k % 2 == 1) = true := by simp [h2]
      have HE : Hid (surviveC (.inr long) k xs = applyT long xs) := by show _ = _; simp [surviveC, h2]
      clear hown hown0 h2
      go_enter Try.func112, Try.ntmps112
      go_wp2_with (go_at_call 110; refine happ.mono ?_; rintro e w1 ⟨v', rfl, hown1, hgrow1⟩)
      go_ret
      exact ⟨_, rfl, by rw [HE.out]; assumption, grew_alloc (by assumption)⟩
    · have hq : (k % 2 == 1) = false := by simp [h2]
      have HE : Hid (surviveC (.inr long) k xs = xs) := by show _ = _; simp [surviveC, h, h2]
      clear happ hown h2
      go_enter Try.func112, Try.ntmps112
      go_wp2
      go_ret
      exact ⟨_, rfl, by rw [HE.out]; assumption, grew_alloc (Grew.refl _ _)⟩

theorem Rd.alloc {w : World} {v : Value} {l : List UInt8} (h : Rd w v l) (o : Obj) : Rd (w.alloc o) v l := by
  obtain ⟨a, c, rfl, hc, hr⟩ := h
  refine ⟨a, c, rfl, hc, fun j x hx => ?_⟩
  obtain ⟨ad, e, h⟩ := hr j x hx
  exact ⟨ad, e, (World.grownBy_alloc w _ none).cell h (by simp)⟩

theorem Rd.take {w : World} {a : Option Addr} {c : Nat} {l : List UInt8} (h : Rd w (.slice a l.length c) l) (n : Nat) (hn : n ≤ l.length) : Rd w (.slice a n c) (l.take n) := by
  obtain ⟨a', c', e, hc, hr⟩ := h
  cases e
  refine ⟨a, c, by simp [Nat.min_eq_left hn], by simp; omega, fun j x hx => hr j x ?_⟩
  rw [List.getElem?_take] at hx
  split at hx
  · exact hx
  · cases hx

theorem Rd.drew {w : World} {v : Value} {l : List UInt8} (h : Rd w v l) : Rd w.drew v l := h

set_option maxHeartbeats 400000 in
set_option maxRecDepth 100000 in
theorem surviveW_any (v bv : Value) (at_ : Nat) (l : List UInt8) (k : Int) (xs : List UInt8) (w : World) (hown : w.ownsRow 0 5 1 v xs.length (xs.map byteV)) (hr : Rd w bv l) (hne : ∀ a n c, bv = .slice (some a) n c → v.ownBlock ≠ some a.block)
    (hb : at_ + l.length ≤ 268435456) (hb2 : xs.length ≤ 268435456) (hk : -9223372036854775808 ≤ k ∧ k ≤ 9223372036854775807) :
    Calls Try.prog 108 #[.agg #[.int .i64 at_, bv], v, .int .i64 k] w fun e w' => ∃ v', e = .returned v' ∧ w'.ownsRow 0 5 1 v' (surviveC (.inl (at_, l)) k xs).length ((surviveC (.inl (at_, l)) k xs).map byteV) ∧ Grew w w' v v' := by
  have hr' := hr
  obtain ⟨a, c, rfl, hc, _⟩ := hr'
  have hown0 := hown.alloc (.cells #[.int .i64 at_, .slice a l.length c] 106)
  have hr0 := hr.alloc (.cells #[.int .i64 at_, .slice a l.length c] 106)
  obtain ⟨hk1, hk2⟩ := hk
  by_cases h : k < 0
  · have happ := applyW_any v _ at_ l xs _ hown0 hr0 hne hb hb2
    have HE : Hid (surviveC (.inl (at_, l)) k xs = applyW at_ l xs) := by show _ = _; simp [surviveC, h]
    clear hown hown0 hr hr0 hne
    go_enter Try.func108, Try.ntmps108
    go_wp2_with (go_at_call 106; refine happ.mono ?_; rintro e w1 ⟨v', rfl, hown1, hgrow1⟩)
    go_ret
    exact ⟨_, rfl, by rw [HE.out]; assumption, grew_alloc (by assumption)⟩
  · have h0 : 0 ≤ k := by omega
    by_cases h2 : k % (l.length + 1) = 0
    · have hq : (k % ((l.length : Int) + 1) == 0) = true := by simp [h2]
      have HE : Hid (surviveC (.inl (at_, l)) k xs = xs) := by show _ = _; simp [surviveC, h, h2]
      clear hown hr hr0 hne h2
      go_enter Try.func108, Try.ntmps108
      go_wp2
      go_ret
      exact ⟨_, rfl, by rw [HE.out]; assumption, grew_alloc (Grew.refl _ _)⟩
    · have hq : (k % ((l.length : Int) + 1) == 0) = false := by simp [h2]
      have hm1 := Int.emod_nonneg k (show ((l.length : Int) + 1) ≠ 0 by omega)
      have hm2 := Int.emod_lt_of_pos k (show (0 : Int) < ((l.length : Int) + 1) by omega)
      obtain ⟨n, hn⟩ : ∃ n : Nat, k % ((l.length : Int) + 1) = n := ⟨_, (Int.toNat_of_nonneg hm1).symm⟩
      have hnl : n ≤ l.length := by omega
      have HE : Hid (surviveC (.inl (at_, l)) k xs = applyW at_ (l.take n) xs) := by
        show _ = _
        unfold surviveC
        simp only [if_neg h, if_neg h2]
        rw [hn, Int.toNat_natCast]
      have happ := applyW_any v (.slice a n c) at_ (l.take n) xs _ (hown0.drew) ((hr0.take n hnl).drew) (fun a' n' c' e => by cases e; exact hne _ _ _ rfl) (by simp; omega) hb2
      clear hown hr hr0 hne hown0
      go_enter Try.func108, Try.ntmps108
      go_wp2
      go_region_with (go_at_call 106; refine happ.mono ?_; rintro e w1 ⟨v', rfl, hown1, hgrow1⟩)
      all_goals (try go_wp2)
      all_goals go_ret
      all_goals exact ⟨_, rfl, by rw [HE.out]; assumption, grew_alloc (grew_drew (by assumption))⟩

end Go.Proofs.Ytcceaokldphfgaa
