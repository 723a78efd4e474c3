/-
  The document's quotients and rests of words.
-/
import Derived.Test.YtpnijncoldihfaaBitsC21
import Derived.Test.YtpnijncoldihfaaBitsC26
import Derived.Test.YtpnijncoldihfaaBitsC34
import Derived.Test.YtpnijncoldihfaaBitsC13
import Derived.Test.YtpnijncoldihfaaBitsC15
import Derived.Test.YtpnijncoldihfaaBitsC18
import Derived.Test.YtpnijncoldihfaaBitsC23
import Derived.Test.YtpnijncoldihfaaBitsC25
namespace Go.Proofs.Ytpnijncoldihfaa
open Go.RowKit Go.Shelf

/-- So many bits has a number. -/
def Len (Z n : Nat) : Prop := Z < 2 ^ n ∧ (0 < n → 2 ^ (n - 1) ≤ Z)

theorem Len.uniq {Z m n : Nat} (h : Len Z m) (g : Len Z n) : m = n := by
  rcases Nat.lt_trichotomy m n with e | e | e
  · have h1 := g.2 (by omega)
    have h2 : 2 ^ m ≤ 2 ^ (n - 1) := Nat.pow_le_pow_right (by decide) (by omega)
    have h3 := h.1
    omega
  · exact e
  · have h1 := h.2 (by omega)
    have h2 : 2 ^ n ≤ 2 ^ (m - 1) := Nat.pow_le_pow_right (by decide) (by omega)
    have h3 := g.1
    omega

theorem Len.step0 {X k m : Nat} (h : Len (X % 2 ^ k) m) (hb : bt X k = 0) : Len (X % 2 ^ (k + 1)) m := by
  rw [mod_bit, hb, Nat.zero_mul, Nat.add_zero]; exact h

theorem Len.step1 {X k : Nat} (hb : bt X k = 1) : Len (X % 2 ^ (k + 1)) (k + 1) := by
  have h := Nat.mod_lt X (show 0 < 2 ^ k from Nat.pow_pos (by decide))
  rw [mod_bit, hb, Nat.one_mul]
  refine ⟨?_, fun _ => ?_⟩
  · rw [Nat.pow_succ]; omega
  · rw [Nat.add_sub_cancel]; omega

set_option maxHeartbeats 4000000 in
set_option maxRecDepth 100000 in
theorem refBits_any (X : Nat) (w : World) : Calls Try.prog 67 #[wv X] w fun e w' => ∃ m : Nat, e = .returned (.int .i64 m) ∧ Len (X % M256) m ∧ Below w.heap.size w w' := by
  rw [wv_c4 X]
  have HE : Hid ((w.alloc (.cells (c4 (limb X)) 23 (0, 0))).heap[w.heap.size]? = some (.cells (c4 (limb X)) 23 (0, 0)) ∧ Below w.heap.size w (w.alloc (.cells (c4 (limb X)) 23 (0, 0)))) :=
    ⟨heap_new _ _, (Below.refl _ _).alloc (Nat.le_refl _) _⟩
  generalize hcx : c4 (limb X) = cx at HE ⊢
  have HCX := hideP hcx
  clear hcx
  go_enter Try.func67, Try.ntmps67
  go_wp2_with fail
  generalize w.alloc (.cells cx 23 (0, 0)) = W2 at HE ⊢
  rename_i Q' K hK
  have HK := hideP hK
  clear hK
  go_loopw [3, 4] (fun v i wr => ∃ (k m : Nat), k ≤ 256 ∧ i = .int .i64 k ∧ v = .int .i64 m ∧ Len (X % 2 ^ k) m ∧ wr.heap[w.heap.size]? = some (.cells (c4 (limb X)) 23 (0, 0)) ∧ Below w.heap.size w wr) (fun _ i _ => 256 - (intOf i).toNat)
  case atStart =>
    refine ⟨0, 0, Nat.zero_le _, rfl, rfl, ⟨by rw [Nat.pow_zero, Nat.mod_one]; decide, fun h => absurd h (by decide)⟩, ?_⟩
    rw [HCX.out]
    exact HE.out
  case round =>
    obtain ⟨k, m, hk, rfl, rfl, hL, hx, hB⟩ := hrel
    have HL := hideP hL
    have HX := hideP hx
    have HB := hideP hB
    clear hL hx hB HE
    by_cases hlt : k < 256
    · have HN : Hid (k < 256) := hlt
      have cB := fun W => refBit_any X k hlt W
      simp only [wv_c4] at cB
      have g1 : (k : Int) < 256 := by omega
      have e4 : IntKind.i64.wrap ((k : Int) + 1) = (k : Int) + 1 := by rw [IntKind.wrap_i64]; omega
      have lx := rangeOf HX.out
      have lb := bt_le X k
      by_cases hb1 : bt X k = 1
      · have HS := hideP (Len.step1 hb1)
        rw [hb1] at cB
        have CB := hideP cB
        clear hlt hk cB hb1 lb HL
        go_wp2_with (refine wpList_load_mid rfl 23 _ rfl w.heap.size 0 rfl (c4 (limb X)).toList _ lx under23 rfl size23 ?_)
        refine (CB.out _).mono ?_
        rintro e w4 ⟨rfl, hb4⟩
        have HX4 := hideP ((hb4.block _ (lt_of_block HX.out)).trans HX.out)
        have HB4 := hideP (HB.out.trans (hb4.mono HB.out.size))
        clear hb4 HX HB lx CB
        go_wp2_with fail
        refine ⟨⟨k + 1, k + 1, HN.out, by go_num, by go_num, HS.out, HX4.out, HB4.out⟩, by have := HN.out; simp [intOf]; omega⟩
      · have hb0 : bt X k = 0 := by omega
        have HS := hideP (HL.out.step0 hb0)
        rw [hb0] at cB
        have CB := hideP cB
        clear hlt hk cB hb0 hb1 lb HL
        go_wp2_with (refine wpList_load_mid rfl 23 _ rfl w.heap.size 0 rfl (c4 (limb X)).toList _ lx under23 rfl size23 ?_)
        refine (CB.out _).mono ?_
        rintro e w4 ⟨rfl, hb4⟩
        have HX4 := hideP ((hb4.block _ (lt_of_block HX.out)).trans HX.out)
        have HB4 := hideP (HB.out.trans (hb4.mono HB.out.size))
        clear hb4 HX HB lx CB
        go_wp2_with fail
        refine ⟨⟨k + 1, m, HN.out, by go_num, rfl, HS.out, HX4.out, HB4.out⟩, by have := HN.out; simp [intOf]; omega⟩
    · have hk6 : k = 256 := by omega
      subst hk6
      have g1 : ¬ ((256 : Nat) : Int) < 256 := by decide
      clear hlt hk
      go_wp2_with fail
      refine HK.out _ _ ?_
      go_wp2_with fail
      go_ret
      exact ⟨m, rfl, by rw [M256_two]; exact HL.out, HB.out⟩

end Go.Proofs.Ytpnijncoldihfaa

namespace Go.Proofs.Ytpnijncoldihfaa
open Go.RowKit Go.Shelf

/-- Where the adding back has come to. -/
structure ABI (W wr : World) (L at_ : Nat) (g y gk : Nat → Nat) (k c : Nat) : Prop where
  lt : ∀ j, gk j < 18446744073709551616
  far : ∀ j, j < at_ ∨ at_ + k ≤ j → gk j = g j
  sum : val (fun j => g (at_ + j)) k + val y k = val (fun j => gk (at_ + j)) k + 18446744073709551616 ^ k * c
  c : c ≤ 1
  cells : wr.heap[L]? = some (.cells (c9 gk) 113 (0, 0))
  but : But L W wr

theorem ABI.put {W wr : World} {L at_ : Nat} {g y gk : Nat → Nat} {k c s c' : Nat} (I : ABI W wr L at_ g y gk k c) (hk : at_ + k < 9) (hs : s < 18446744073709551616) (hc : c' ≤ 1)
    (e : g (at_ + k) + y k + c = s + 18446744073709551616 * c') :
    ABI W (wr.drew.setCell ⟨L, at_ + k, none⟩ (.int .u64 s)) L at_ g y (fun i => if i = at_ + k then s else gk i) (k + 1) c' := by
  refine ⟨fun j => ?_, fun j hj => ?_, ?_, hc, ?_, I.but.drew.set _ _⟩
  · split
    · exact hs
    · exact I.lt j
  · rw [if_neg (by omega)]
    exact I.far j (by omega)
  · have h1 : val (fun j => if at_ + j = at_ + k then s else gk (at_ + j)) k = val (fun j => gk (at_ + j)) k := val_congr k (fun j hj => by rw [if_neg (by omega)])
    show val (fun j => g (at_ + j)) k + g (at_ + k) * 18446744073709551616 ^ k + (val y k + y k * 18446744073709551616 ^ k) = val (fun j => if at_ + j = at_ + k then s else gk (at_ + j)) k + (if at_ + k = at_ + k then s else gk (at_ + k)) * 18446744073709551616 ^ k + 18446744073709551616 ^ (k + 1) * c'
    rw [h1, if_pos rfl, Nat.pow_succ]
    have h2 : 18446744073709551616 ^ k * (g (at_ + k) + y k + c) = 18446744073709551616 ^ k * (s + 18446744073709551616 * c') := by rw [e]
    simp only [Nat.mul_add] at h2
    have h3 := I.sum
    rw [Nat.mul_comm (g (at_ + k)), Nat.mul_comm (y k), Nat.mul_comm s, Nat.mul_assoc]
    omega
  · have := blk_set (w := wr.drew) (o := at_ + k) I.cells (.int .u64 s)
    rw [set9 gk s hk] at this
    exact this

end Go.Proofs.Ytpnijncoldihfaa

namespace Go.Proofs.Ytpnijncoldihfaa
open Go.RowKit Go.Shelf

theorem refBelow_any (X : Nat) (w : World) : Calls Try.prog 100 #[wv X] w fun e w' => e = .returned (.bool (negB X)) ∧ Below w.heap.size w w' := by
  obtain ⟨x0, x1, x2, x3, h0, h1, h2, h3, eX, hX⟩ := wv_limbs X
  have hn : negB X = ((x3 : Int) / 9223372036854775808 == 1) := by
    unfold negB
    rw [eX, Bool.eq_iff_iff]
    simp only [decide_eq_true_eq, beq_iff_eq]
    rw [top_iff h0 h1 h2]
    omega
  rw [hX, hn]
  clear hX hn eX h0 h1 h2 h3
  go_enter Try.func100, Try.ntmps100
  go_wp2
  go_ret
  refine ⟨rfl, ?_⟩
  repeat first | exact Below.refl _ _ | apply Below.drew | (refine Below.alloc ?_ (by simp <;> omega) _) | (refine Below.setCell ?_ (by simp <;> omega) _)

end Go.Proofs.Ytpnijncoldihfaa
