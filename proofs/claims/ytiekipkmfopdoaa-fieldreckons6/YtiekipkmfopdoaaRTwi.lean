/-
  The document's twice: a number doubled, and a bit, modulo another.
-/
import Derived.Test.YtiekipkmfopdoaaRMod
namespace Go.Proofs.Ytiekipkmfopdoaa
open Go.RowKit Go.Shelf

/-- Where doubling has come to. -/
structure TI (W wr : World) (D n b : Nat) (x gk : Nat → Nat) (k c : Nat) : Prop where
  lt : ∀ j, gk j < 18446744073709551616
  sum : 2 * val x k + b = val gk k + 18446744073709551616 ^ k * c
  c : c ≤ 1
  cells : wr.heap[D]? = some (.cells (cw n gk) 23 (0, 0))
  but : But D W wr

theorem TI.put {W wr : World} {D n b : Nat} {x gk : Nat → Nat} {k c s c' : Nat} (I : TI W wr D n b x gk k c) (hs : s < 18446744073709551616) (hc : c' ≤ 1)
    (e : 2 * x k + c = s + 18446744073709551616 * c') :
    TI W (wr.setCell ⟨D, k, none⟩ (.int .u64 s)) D n b x (fun i => if i = k then s else gk i) (k + 1) c' := by
  refine ⟨fun j => ?_, ?_, hc, ?_, I.but.set _ _⟩
  · split
    · exact hs
    · exact I.lt j
  · have h1 : val (fun j => if j = k then s else gk j) k = val gk k := val_congr k (fun j hj => by rw [if_neg (by omega)])
    show 2 * (val x k + x k * 18446744073709551616 ^ k) + b = val (fun j => if j = k then s else gk j) k + (if k = k then s else gk k) * 18446744073709551616 ^ k + 18446744073709551616 ^ (k + 1) * c'
    rw [h1, if_pos rfl, Nat.pow_succ]
    have h2 := I.sum
    grind
  · have := blk_set (o := k) I.cells (.int .u64 s)
    rw [cw_set gk s] at this
    exact this

theorem or_bit (x c : Nat) (hc : c ≤ 1) : bits .or .u64 ((2 * x % 18446744073709551616 : Nat) : Int) (c : Int) = ((2 * x % 18446744073709551616 + c : Nat) : Int) := by
  have h := bits_or_u64_nat (2 * x % 18446744073709551616) c (by omega) (by omega)
  have e : 2 * x % 18446744073709551616 ||| c = 2 * x % 18446744073709551616 + c := by
    have h2 : 2 * x % 18446744073709551616 = 2 ^ 1 * (2 * x % 18446744073709551616 / 2) := by omega
    rw [h2, ← Nat.two_pow_add_eq_or_of_lt (show c < 2 ^ 1 by omega)]
  rw [h, e]

set_option maxHeartbeats 2000000 in
set_option maxRecDepth 100000 in
theorem rtwice_any {n : Nat} (hn : n ≤ 8) (X b M : Nat) (hX : X < M) (hbt : b ≤ 1) (hM : M < 18446744073709551616 ^ n) (w : World) (u m : Value) (hu : LW w u n (limb X)) (hm : LW w m n (limb M)) :
    Calls Try.prog 77 #[u, .int .u64 b, m] w fun r w' => (∃ v', r = .returned v' ∧ LW w' v' n (limb ((2 * X + b) % M))) ∧ Below w.heap.size w w' := by
  obtain ⟨g1, o1, c1, rfl, _, _, l1, h1⟩ := hu.ex
  have H1 := hideP h1
  have HM := hideP hm
  have HH : Hid (X < M ∧ b ≤ 1 ∧ M < 18446744073709551616 ^ n ∧ n ≤ 8) := ⟨hX, hbt, hM, hn⟩
  have hmk := make_words w n (by omega)
  have ew : IntKind.i64.wrap (n : Int) = (n : Int) := by rw [IntKind.wrap_i64]; omega
  clear h1 hu hm hX hbt hM hn
  go_enter Try.func77, Try.ntmps77
  go_wp2_with fail
  refine at_world (fun W0 hW0 => ?_)
  have hD : W0.heap[w.heap.size]? = some (.cells (cw n (fun _ => 0)) 23 (0, 0)) := by
    rw [hW0]
    exact heap_new _ _
  have HBW : Hid (Below w.heap.size w W0) := by
    show Below _ _ _
    rw [hW0]
    repeat first | exact Below.refl _ _ | (refine Below.alloc ?_ (by simp <;> omega) _)
  have HI0 : Hid (TI W0 W0 w.heap.size n b (limb X) (fun _ => 0) 0 b) := ⟨fun _ => by decide, by simp [val], HH.out.2.1, hD, But.refl _ _⟩
  clear hW0 hD hmk
  go_loopw [8, 17] (fun c i wr => ∃ (k cv : Nat) (gk : Nat → Nat), k ≤ n ∧ i = .int .i64 k ∧ c = .int .u64 cv ∧ TI W0 wr w.heap.size n b (limb X) gk k cv) (fun _ i _ => n - (intOf i).toNat)
  case atStart => exact ⟨0, b, fun _ => 0, Nat.zero_le _, rfl, rfl, HI0.out⟩
  case round =>
    obtain ⟨k, cv, gk, hk, rfl, rfl, I⟩ := hrel
    have HI := hideP I
    clear I
    have hn := HH.out.2.2.2
    by_cases hlt : k < n
    · have hx := limb_lt X k
      have hcv := HI.out.c
      have ca : wr.cell? ⟨g1, o1 + k, none⟩ = some (.int .u64 (limb X k)) := by
        rw [HI.out.but.cell (show g1 ≠ w.heap.size by omega), HBW.out.cell (p := ⟨g1, o1 + k, none⟩) l1]
        exact H1.out _ hlt
      have fr : ∀ o, wr.frozen? ⟨w.heap.size, o, none⟩ = false := fun o => blk_free HI.out.cells
      have cd := blk_cell HI.out.cells (cw_get gk hlt)
      have HP := hideP (HI.out.put (s := 2 * limb X k % 18446744073709551616 + cv) (c' := limb X k / 9223372036854775808) (by omega) (by omega) (by omega))
      have HO := hideP (or_bit (limb X k) cv hcv)
      have w1 : IntKind.u64.wrap ((limb X k : Int) * 2) = ((2 * limb X k % 18446744073709551616 : Nat) : Int) := by rw [IntKind.wrap_u64]; omega
      have HS : Hid ((limb X k : Int) / 9223372036854775808 = ((limb X k / 9223372036854775808 : Nat) : Int)) := by show _ = _; omega
      have hlt' : (k : Int) < n := by omega
      have e4 : IntKind.i64.wrap ((k : Int) + 1) = (k : Int) + 1 := by rw [IntKind.wrap_i64]; omega
      have HKS : Hid (k + 1 ≤ n) := hlt
      generalize limb X k / 9223372036854775808 = sr at *
      generalize 2 * limb X k % 18446744073709551616 = sl at *
      generalize limb X k = xk at *
      clear hk hlt hn HI hx hcv
      go_wp2_with fail
      rw [HO.out, HS.out]
      exact ⟨⟨k + 1, _, _, HKS.out, by go_num, rfl, HP.out⟩, by have := HKS.out; simp [intOf]; omega⟩
    · have hkn : k = n := by omega
      have hnl : ¬ (k : Int) < n := by omega
      have HJ : Hid (TI W0 wr w.heap.size n b (limb X) gk n cv) := hkn ▸ HI.out
      clear hk hlt hkn HI
      obtain ⟨qX, qb, qM, qn⟩ := HH.out
      have hs := HJ.out.sum
      have hvl := val_lt n (fun j _ => HJ.out.lt j)
      rw [val_limbs (Nat.lt_trans qX qM)] at hs
      have HL := hideP ((row_LW (by omega) HJ.out.cells).num HJ.out.lt)
      have hbw := HBW.out.trans HJ.out.but.below
      have HMr := hideP (HM.out.moved hbw)
      have HB1 := hideP hbw
      have hcv := HJ.out.c
      clear hbw HJ HM HI0 HBW
      generalize val gk n = Z at *
      generalize hP : 18446744073709551616 ^ n = P at *
      rcases (show cv = 0 ∨ cv = 1 by omega) with rfl | rfl
      · have hz : 2 * X + b = Z := by omega
        subst hz
        have C2 := hideP (rlt_any qn (2 * X + b) M (by rw [hP]; exact hvl) (by rw [hP]; exact qM) wr _ m HL.out HMr.out)
        by_cases hlt : 2 * X + b < M
        · rw [decide_eq_true hlt] at C2
          have HE := hideP (Nat.mod_eq_of_lt hlt)
          clear qX qb qM qn hs hvl hlt HH hP hn
          go_wp2_with fail
          refine C2.out.mono ?_
          rintro r w2 ⟨rfl, hb⟩
          have HB2 := hideP (HB1.out.trans (hb.mono HB1.out.size))
          have H2 := hideP (HL.out.moved hb)
          clear hb
          go_wp2
          go_ret
          exact ⟨⟨_, rfl, by rw [HE.out]; exact H2.out⟩, HB2.out⟩
        · rw [decide_eq_false hlt] at C2
          have HE := hideP (mod_once (X := 2 * X + b) (M := M) (by omega) (by omega))
          have C3 := hideP (fun w2 v (h2 : LW w2 v n (limb (2 * X + b))) (h3 : LW w2 m n (limb M)) => rsub_num qn (2 * X + b) M (by rw [hP]; exact hvl) (by rw [hP]; exact qM) w2 v m h2 h3)
          rw [if_neg hlt] at C3
          clear qX qb qM qn hs hvl hlt HH hP hn
          go_wp2_with fail
          refine C2.out.mono ?_
          rintro r w2 ⟨rfl, hb⟩
          have HB2 := hideP (HB1.out.trans (hb.mono HB1.out.size))
          have H2 := hideP (HL.out.moved hb)
          have HM2 := hideP (HMr.out.moved hb)
          clear hb
          go_wp2_with fail
          refine (C3.out _ _ H2.out HM2.out).mono ?_
          rintro r w3 ⟨⟨v3, c3, rfl, h3, -⟩, hb⟩
          have HB3 := hideP (HB2.out.trans (hb.mono HB2.out.size))
          have H3 := hideP h3
          clear hb h3
          go_wp2
          go_ret
          exact ⟨⟨_, rfl, by rw [HE.out]; exact H3.out⟩, HB3.out⟩
      · have HE := hideP (mod_once (X := 2 * X + b) (M := M) (by omega) (by omega))
        have C3 := hideP (rsub_num qn Z M (by rw [hP]; exact hvl) (by rw [hP]; exact qM) wr _ m HL.out HMr.out)
        rw [if_pos (by omega), hP, show Z + P - M = 2 * X + b - M by omega] at C3
        clear qX qb qM qn hs hvl HH hP hn
        go_wp2_with fail
        refine C3.out.mono ?_
        rintro r w3 ⟨⟨v3, c3, rfl, h3, -⟩, hb⟩
        have HB3 := hideP (HB1.out.trans (hb.mono HB1.out.size))
        have H3 := hideP h3
        clear hb h3
        go_wp2
        go_ret
        exact ⟨⟨_, rfl, by rw [HE.out]; exact H3.out⟩, HB3.out⟩

end Go.Proofs.Ytiekipkmfopdoaa
