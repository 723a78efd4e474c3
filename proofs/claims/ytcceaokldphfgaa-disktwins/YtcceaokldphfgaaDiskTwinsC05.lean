/- YtcceaokldphfgaaDiskTwinsC05 -/
import Derived.Test.YtcceaokldphfgaaDiskTwinsC02
namespace Go.Proofs.Ytcceaokldphfgaa
open Go.RowKit

/-- The files' row as the search reads it: L lists the files' blocks and names. -/
def RowOf (w : World) (v : Value) (L : List (Nat × ByteArray)) : Prop :=
  (v = .slice none 0 0 ∧ L = []) ∨ ∃ g c, v = .slice (some ⟨g, 0, none⟩) L.length c ∧
    ∀ j q, L[j]? = some q → w.cell? ⟨g, j, none⟩ = some (.pointer (some ⟨q.1, 0, none⟩)) ∧ w.cell? ⟨q.1, 0, none⟩ = some (.string q.2)

/-- Where a name stands, or would stand. -/
structure Stands (L : List (Nat × ByteArray)) (t : ByteArray) (i : Nat) : Prop where
  le : i ≤ L.length
  below : ∀ (j : Nat) (q : Nat × ByteArray), L[j]? = some q → j < i → cmpS q.2 t < 0
  above : ∀ (j : Nat) (q : Nat × ByteArray), L[j]? = some q → i ≤ j → 0 ≤ cmpS q.2 t

def Steady (L : List (Nat × ByteArray)) (t : ByteArray) : Prop :=
  ∀ (j k : Nat) (q r : Nat × ByteArray), L[j]? = some q → L[k]? = some r → j ≤ k → cmpS r.2 t < 0 → cmpS q.2 t < 0

/-- Whether the name at that place is the one looked for. -/
def thereAt (L : List (Nat × ByteArray)) (t : ByteArray) (i : Nat) : Bool := match L[i]? with | some q => cmpS q.2 t == 0 | none => false

set_option maxHeartbeats 800000 in
set_option maxRecDepth 100000 in
theorem search_some (g c : Nat) (L : List (Nat × ByteArray)) (t : ByteArray) (w : World) (hl : L.length ≤ 4611686018427387903) (hs : Steady L t)
    (hr : ∀ j q, L[j]? = some q → w.cell? ⟨g, j, none⟩ = some (.pointer (some ⟨q.1, 0, none⟩)) ∧ w.cell? ⟨q.1, 0, none⟩ = some (.string q.2)) :
    Calls Try.prog 82 #[.slice (some ⟨g, 0, none⟩) L.length c, .string t, .func (.func 83) #[] #[]] w fun e w' =>
      (∃ i : Nat, e = .returned (.tuple #[.int .i64 i, .bool (thereAt L t i)]) ∧ Stands L t i) ∧ w' = w := by
  go_enter Try.func82, Try.ntmps82
  go_wp2
  have HS : Hid (Steady L t) := hs
  clear hs
  go_loop [9, 10, 11] (fun i j _ => ∃ a b : Nat, a ≤ b ∧ b ≤ L.length ∧ i = .int .i64 a ∧ j = .int .i64 b ∧ (∀ (k : Nat) (q : Nat × ByteArray), L[k]? = some q → k < a → cmpS q.2 t < 0) ∧ (∀ (k : Nat) (q : Nat × ByteArray), L[k]? = some q → b ≤ k → 0 ≤ cmpS q.2 t))
    (fun i j _ => (intOf j).toNat - (intOf i).toNat)
  case atStart => exact ⟨0, L.length, Nat.zero_le _, Nat.le_refl _, rfl, rfl, fun k q _ h => by omega, fun k q h hk => by rw [List.getElem?_eq_none hk] at h; cases h⟩
  case round =>
    obtain ⟨a, b, hab, hb, rfl, rfl, hlo, hhi⟩ := hrel
    have HLO : Hid (∀ (k : Nat) (q : Nat × ByteArray), L[k]? = some q → k < a → cmpS q.2 t < 0) := hlo
    have HHI : Hid (∀ (k : Nat) (q : Nat × ByteArray), L[k]? = some q → b ≤ k → 0 ≤ cmpS q.2 t) := hhi
    have HR : Hid (∀ j q, L[j]? = some q → w.cell? ⟨g, j, none⟩ = some (.pointer (some ⟨q.1, 0, none⟩)) ∧ w.cell? ⟨q.1, 0, none⟩ = some (.string q.2)) := hr
    clear hlo hhi hr
    by_cases hlt : a < b
    · have hm : (a + b) / 2 < L.length := by omega
      obtain ⟨q, hq⟩ : ∃ q, L[(a + b) / 2]? = some q := ⟨L[(a + b) / 2], by simp [hm]⟩
      obtain ⟨hc1, hc2⟩ := HR.out _ q hq
      have HQ : Hid (L[(a + b) / 2]? = some q) := hq
      have hcall := placeCmp_any q.1 q.2 t w hc2
      have hst : ∀ (k : Nat) (r : Nat × ByteArray), cmpS q.2 t < 0 → L[k]? = some r → k < (a + b) / 2 + 1 → cmpS r.2 t < 0 := fun k r hc hr hk => HS.out k _ r q hr HQ.out (by omega) hc
      have hst2 : ∀ (k : Nat) (r : Nat × ByteArray), ¬ cmpS q.2 t < 0 → L[k]? = some r → (a + b) / 2 ≤ k → 0 ≤ cmpS r.2 t := fun k r hc hr hk => by
        by_cases h : cmpS r.2 t < 0
        · exact absurd (HS.out _ k q r HQ.out hr hk h) hc
        · omega
      have HT1 : Hid (∀ (k : Nat) (r : Nat × ByteArray), cmpS q.2 t < 0 → L[k]? = some r → k < (a + b) / 2 + 1 → cmpS r.2 t < 0) := hst
      have HT2 : Hid (∀ (k : Nat) (r : Nat × ByteArray), ¬ cmpS q.2 t < 0 → L[k]? = some r → (a + b) / 2 ≤ k → 0 ≤ cmpS r.2 t) := hst2
      clear hst hst2 hq hc2
      by_cases hcmp : cmpS q.2 t < 0
      · go_wp2_with (go_at_call 83; refine hcall.mono ?_; rintro e w' ⟨rfl, rfl⟩)
        go_round
        case rel => exact ⟨(a + b) / 2 + 1, b, by omega, hb, by go_num, rfl, fun k r hr hk => HT1.out k r hcmp hr hk, HHI.out⟩
        case measure => simp [intOf]; omega
      · go_wp2_with (go_at_call 83; refine hcall.mono ?_; rintro e w' ⟨rfl, rfl⟩)
        go_round
        case rel => exact ⟨a, (a + b) / 2, by omega, by omega, rfl, by go_num, HLO.out, fun k r hr hk => HT2.out k r hcmp hr hk⟩
        case measure => simp [intOf]; omega
    · have hba : b = a := by omega
      subst hba
      by_cases hn : b < L.length
      · obtain ⟨q, hq⟩ : ∃ q, L[b]? = some q := ⟨L[b], by simp [hn]⟩
        obtain ⟨hc1, hc2⟩ := HR.out _ q hq
        have hcall := placeCmp_any q.1 q.2 t w hc2
        have HQ : Hid (L[b]? = some q) := hq
        clear hq hc2
        go_wp2_with (go_at_call 83; refine hcall.mono ?_; rintro e w' ⟨rfl, rfl⟩)
        go_ret2
        refine ⟨⟨b, ?_, ⟨hb, HLO.out, HHI.out⟩⟩, rfl⟩
        simp only [thereAt, HQ.out]
        rfl
      · have HN : Hid (L[b]? = none) := List.getElem?_eq_none (by omega)
        go_wp2
        go_ret2
        refine ⟨⟨b, ?_, ⟨hb, HLO.out, HHI.out⟩⟩, rfl⟩
        simp only [thereAt, HN.out]
        rfl

set_option maxHeartbeats 400000 in
set_option maxRecDepth 100000 in
theorem search_nil (t : ByteArray) (w : World) :
    Calls Try.prog 82 #[.slice none 0 0, .string t, .func (.func 83) #[] #[]] w fun e w' =>
      (∃ i : Nat, e = .returned (.tuple #[.int .i64 i, .bool (thereAt [] t i)]) ∧ Stands [] t i) ∧ w' = w := by
  go_enter Try.func82, Try.ntmps82
  go_wp2
  refine wp_loop_rounds 1 ?_
  rw [rounds_succ]
  go_wp2
  go_ret2
  exact ⟨⟨0, rfl, ⟨Nat.le_refl _, fun j q h => by simp at h, fun j q h => by simp at h⟩⟩, rfl⟩

theorem search_any (v : Value) (L : List (Nat × ByteArray)) (t : ByteArray) (w : World) (hl : L.length ≤ 4611686018427387903) (hs : Steady L t) (hr : RowOf w v L) :
    Calls Try.prog 82 #[v, .string t, .func (.func 83) #[] #[]] w fun e w' =>
      (∃ i : Nat, e = .returned (.tuple #[.int .i64 i, .bool (thereAt L t i)]) ∧ Stands L t i) ∧ w' = w := by
  rcases hr with ⟨rfl, rfl⟩ | ⟨g, c, rfl, hr⟩
  · exact search_nil t w
  · exact search_some g c L t w hl hs hr

set_option maxHeartbeats 400000 in
set_option maxRecDepth 100000 in
theorem place_any (D : Nat) (v : Value) (L : List (Nat × ByteArray)) (t : ByteArray) (w : World) (hl : L.length ≤ 4611686018427387903) (hs : Steady L t) (hr : RowOf w v L)
    (hD : w.cell? ⟨D, 8, none⟩ = some v) :
    Calls Try.prog 76 #[.pointer (some ⟨D, 0, none⟩), .string t] w fun e w' =>
      (∃ i : Nat, e = .returned (.tuple #[.int .i64 i, .bool (thereAt L t i)]) ∧ Stands L t i) ∧ w' = w := by
  have hcall := search_any v L t w hl hs hr
  clear hs hr
  go_enter Try.func76, Try.ntmps76
  go_wp2_with (go_at_call 82; refine hcall.mono ?_; rintro e w' ⟨⟨i, rfl, hst⟩, rfl⟩)
  go_ret2
  exact ⟨⟨_, rfl, by assumption⟩, rfl⟩

/-- The file that is found: its block, or none. -/
def foundAt (L : List (Nat × ByteArray)) (t : ByteArray) : Option Nat := (L.find? fun q => cmpS q.2 t == 0).map (·.1)

theorem found_there {L : List (Nat × ByteArray)} {t : ByteArray} {i : Nat} (h : Stands L t i) (ht : thereAt L t i = true) : ∃ q, L[i]? = some q ∧ cmpS q.2 t = 0 ∧ foundAt L t = some q.1 := by
  unfold thereAt at ht
  split at ht
  · rename_i q hq
    refine ⟨q, hq, by simpa using ht, ?_⟩
    unfold foundAt
    have hlt : i < L.length := (List.getElem?_eq_some_iff.1 hq).1
    have : L.find? (fun q => cmpS q.2 t == 0) = some q := by
      rw [List.find?_eq_some_iff_getElem]
      refine ⟨ht, i, hlt, (List.getElem?_eq_some_iff.1 hq).2, fun j hj => ?_⟩
      have := h.below j L[j] (by simp) hj
      simp; omega
    rw [this]; rfl
  · cases ht

theorem found_not {L : List (Nat × ByteArray)} {t : ByteArray} {i : Nat} (h : Stands L t i) (hu : ∀ (j k : Nat) (q r : Nat × ByteArray), L[j]? = some q → L[k]? = some r → cmpS r.2 t = 0 → j < k → cmpS q.2 t < 0) (ht : thereAt L t i = false) : foundAt L t = none := by
  unfold foundAt
  rw [Option.map_eq_none_iff, List.find?_eq_none]
  intro q hq
  obtain ⟨j, hj, rfl⟩ := List.mem_iff_getElem.1 hq
  simp only [beq_iff_eq]
  intro h0
  rcases Nat.lt_or_ge j i with hji | hji
  · have := h.below j L[j] (by simp) hji; omega
  · rcases Nat.eq_or_lt_of_le hji with rfl | hlt
    · unfold thereAt at ht
      rw [List.getElem?_eq_getElem hj] at ht
      simp [h0] at ht
    · have hi : i < L.length := by omega
      have := hu i j L[i] L[j] (by simp) (by simp) h0 hlt
      have := h.above i L[i] (by simp) (Nat.le_refl _)
      omega

end Go.Proofs.Ytcceaokldphfgaa
