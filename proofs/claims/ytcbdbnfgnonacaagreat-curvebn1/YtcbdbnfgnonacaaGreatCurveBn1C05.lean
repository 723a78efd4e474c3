/-
 Regions by what is known of each value, told shortly.
-/
import Derived.Test.YtcbdbnfgnonacaaGreatCurveBn1C04
import Derived.Test.YtcbdbnfgnonacaaGreatCurveBn1C02
set_option maxHeartbeats 1000000
set_option maxRecDepth 100000
namespace Go.Proofs.YtcbdbnfgnonacaaGreat
open Go.RowKit Go.Shelf
def elN (n M X : Nat) : Nat := X * 18446744073709551616 ^ n % M
structure FM (n M : Nat) : Prop where
 n0 : 0 < n
 n8 : n ≤ 8
 lt : M < 18446744073709551616 ^ n
 ge : 3 ≤ M
 odd : M % 2 = 1
theorem FM.pos {n M : Nat} (h : FM n M) : 0 < M := by have := h.ge; omega
theorem Ze1 {n M : Nat} (h : FM n M) (X : Nat) : elN n M X < M := Nat.mod_lt _ h.pos
theorem pow_two (n : Nat) : 18446744073709551616 ^ n = 2 ^ (64 * n) := by
 rw [Nat.pow_mul]
theorem FM.uniq {n M P Q : Nat} (h : FM n M) (hP : P < M) (hQ : Q < M) (e : P * 18446744073709551616 ^ n % M = Q * 18446744073709551616 ^ n % M) : P = Q := by
 rw [pow_two] at e
 exact MN.uniq h.odd (64 * n) hP hQ e
structure FF (w : World) (fv : Value) (n M : Nat) : Prop where
 ex : ∃ mv fo tv, fv = .agg #[mv, .int .u64 ((fo : Nat) : Int), tv] ∧ LW w mv n (limb M) ∧ LW w tv n (limb (18446744073709551616 ^ n * 18446744073709551616 ^ n % M)) ∧ (M % 18446744073709551616 * fo + 1) % 18446744073709551616 = 0
theorem FF.moved {w w' : World} {fv : Value} {n M : Nat} (h : FF w fv n M) (hb : Below w.heap.size w w') : FF w' fv n M := by
 obtain ⟨mv, fo, tv, e, h1, h2, h3⟩ := h.ex
 exact ⟨mv, fo, tv, e, h1.moved hb, h2.moved hb, h3⟩
theorem ZcV {n M : Nat} (hM : FM n M) (X Y : Nat) (hX : X < 18446744073709551616 ^ n) (hY : Y < 18446744073709551616 ^ n) (hXY : X * Y < M * 18446744073709551616 ^ n) (w : World) (fv u v : Value) (hF : FF w fv n M) (hu : LW w u n (limb X)) (hv : LW w v n (limb Y)) :
  Calls Tryz.prog 227 #[fv, u, v] w fun r w' => (∃ v', r = .returned v' ∧ ∃ P, LW w' v' n (limb P) ∧ P < M ∧ P * 18446744073709551616 ^ n % M = X * Y % M) ∧ Below w.heap.size w w' := by
 have HU := hideP hu
 have HV := hideP hv
 have HH : Hid (FM n M ∧ X < 18446744073709551616 ^ n ∧ Y < 18446744073709551616 ^ n ∧ X * Y < M * 18446744073709551616 ^ n) := ⟨hM, hX, hY, hXY⟩
 clear hu hv hM hX hY hXY
 obtain ⟨mv, fo, tv, rfl, hm, ht, hfo⟩ := hF.ex
 have HMV := hideP hm
 have HTV := hideP ht
 have HFO := hideP hfo
 clear hF hm ht hfo
 go_enter Tryz.func227, Tryz.ntmps227
 refine Zae (fun K0 HK0 => ?_)
 go_wp2_with fail
 refine HK0.out _ _ ?_
 refine Zaj (fun W0 hW0 => ?_)
 have hB0 : W0.heap[w.heap.size]? = some (.cells #[mv, .int .u64 fo, tv] 39 (0, 0)) := by
  rw [hW0]
  exact Zaf _ _
 have HBW : Hid (Below w.heap.size w W0) := by
  show Below _ _ _
  rw [hW0]
  repeat first | exact Below.refl _ _ | (refine Below.alloc ?_ (by simp <;> omega) _)
 have HB0 := hideP hB0
 clear hW0 hB0
 refine Zae (fun K1 HK1 => ?_)
 refine Zai (S := fun V => Below W0.heap.size W0 V) (by kernel_rfl) ((Below.refl _ _).drew) (fun hS => ?_)
 refine tkG 1 hS ?_
 simp only [Zaa, Zs, Zz]
 refine tkG 2 hS ?_
 simp only [Zaa, Zs, Zz]
 refine tkI 0 ?_ hS ?_ ?_
 rotate_left
 ·
  intro V hV
  have k0 : V.cell? ⟨w.heap.size, 0, none⟩ = some mv := Zac ((hV.block _ (Zab HB0.out)).trans HB0.out) rfl
  have k1 : V.cell? ⟨w.heap.size, 1, none⟩ = some (.int .u64 fo) := Zac ((hV.block _ (Zab HB0.out)).trans HB0.out) rfl
  have k2 : V.cell? ⟨w.heap.size, 2, none⟩ = some tv := Zac ((hV.block _ (Zab HB0.out)).trans HB0.out) rfl
  go_simp
  (try with_reducible rfl)
 simp only [Zaa, Zs, Zz]
 refine rd1 3 (fun K hK => ?_)
 go_simp
 refine (Zk0 HH.out.1.n8 X Y HH.out.2.1 HH.out.2.2.1 _ u v (HU.out.moved (HBW.out.trans (hS.mono HBW.out.size))) (HV.out.moved (HBW.out.trans (hS.mono HBW.out.size)))).mono ?_
 rintro r y1 ⟨⟨gp, rfl, hg, -⟩, hb⟩
 refine hK.out _ _ (hS.trans (hb.mono hS.size)) (fun hS2 => ?_)
 clear hS
 have hS := hS2
 clear hS2
 have HP := hideP (Zcd (by have := HH.out.1.n8; omega) hg)
 clear hg
 clear hb
 clear hK K
 refine rd1 4 (fun K hK => ?_)
 go_simp
 refine (ZdD HH.out.1.n0 HH.out.1.n8 (X * Y) M fo HH.out.1.lt HH.out.1.pos HH.out.2.2.2 HFO.out _ _ mv tv HP.out (HMV.out.moved (HBW.out.trans (hS.mono HBW.out.size)))).mono ?_
 rintro r y2 ⟨⟨vp, rfl, P, hL, hP1, hP2⟩, hb⟩
 refine hK.out _ _ (hS.trans (hb.mono hS.size)) (fun hS2 => ?_)
 clear hS
 have hS := hS2
 clear hS2
 have HL : Hid (LW y2 vp n (limb P) ∧ P < M ∧ P * 18446744073709551616 ^ n % M = X * Y % M) := ⟨hL, hP1, hP2⟩
 clear hL hP1 hP2
 clear hb
 clear hK K
 refine rd1 5 (fun K hK => ?_)
 go_simp
 refine hK.out _ _ hS (fun hS => ?_)
 clear hK K
 refine wpAnyH_done (by kernel_rfl) ?_ _
 (try simp only [Zas])
 refine HK1.out _ _ ?_
 have HE := hideP (HBW.out.trans (hS.mono HBW.out.size))
 clear hS
 go_wp2
 go_ret
 exact ⟨⟨_, rfl, P, HL.out⟩, HE.out⟩
theorem ZfH {n M : Nat} (hM : FM n M) (X Y : Nat) (w : World) (fv u v : Value) (hF : FF w fv n M) (hu : LW w u n (limb (elN n M X))) (hv : LW w v n (limb (elN n M Y))) :
  Calls Tryz.prog 227 #[fv, u, v] w fun r w' => (∃ v', r = .returned v' ∧ LW w' v' n (limb (elN n M (X * Y)))) ∧ Below w.heap.size w w' := by
 have h1 := Ze1 hM X
 have h2 := Ze1 hM Y
 have hl := hM.lt
 refine (ZcV hM (elN n M X) (elN n M Y) (by omega) (by omega) (Nat.lt_of_le_of_lt (Nat.mul_le_mul_left _ (Nat.le_of_lt (Nat.lt_trans h2 hl))) (Nat.mul_lt_mul_of_pos_right h1 (by omega))) w fv u v hF hu hv).mono ?_
 rintro r w' ⟨⟨v', rfl, P, hL, hP, e⟩, hb⟩
 refine ⟨⟨v', rfl, ?_⟩, hb⟩
 have : P = elN n M (X * Y) := by
  refine hM.uniq hP (Ze1 hM _) ?_
  rw [e]
  unfold elN
  rw [← Nat.mul_mod, Nat.mod_mul_mod]
  congr 1
  generalize 18446744073709551616 ^ n = Q
  grind
 rw [← this]
 exact hL
theorem ZdE {n M : Nat} (hM : FM n M) (X : Nat) (hX : X < M) (w : World) (fv u v : Value) (hF : FF w fv n M) (hu : LW w u n (limb X)) (hv : LW w v n (limb (18446744073709551616 ^ n * 18446744073709551616 ^ n % M))) :
  Calls Tryz.prog 227 #[fv, u, v] w fun r w' => (∃ v', r = .returned v' ∧ LW w' v' n (limb (elN n M X))) ∧ Below w.heap.size w w' := by
 have h2 := Nat.mod_lt (18446744073709551616 ^ n * 18446744073709551616 ^ n) hM.pos
 have hl := hM.lt
 refine (ZcV hM X (18446744073709551616 ^ n * 18446744073709551616 ^ n % M) (by omega) (by omega) (Nat.lt_of_le_of_lt (Nat.mul_le_mul_left _ (Nat.le_of_lt (Nat.lt_trans h2 hl))) (Nat.mul_lt_mul_of_pos_right hX (by omega))) w fv u v hF hu hv).mono ?_
 rintro r w' ⟨⟨v', rfl, P, hL, hP, e⟩, hb⟩
 refine ⟨⟨v', rfl, ?_⟩, hb⟩
 have : P = elN n M X := by
  refine hM.uniq hP (Ze1 hM _) ?_
  rw [e]
  unfold elN
  rw [Nat.mul_mod_mod, Nat.mod_mul_mod, Nat.mul_assoc]
 rw [← this]
 exact hL
theorem ZhF {n M : Nat} (hM : FM n M) (X Y : Nat) (hY : Y < M) (w : World) (fv u v : Value) (hF : FF w fv n M) (hu : LW w u n (limb (elN n M X))) (hv : LW w v n (limb Y)) :
  Calls Tryz.prog 227 #[fv, u, v] w fun r w' => (∃ v', r = .returned v' ∧ LW w' v' n (limb (X * Y % M))) ∧ Below w.heap.size w w' := by
 have h1 := Ze1 hM X
 have hl := hM.lt
 refine (ZcV hM (elN n M X) Y (by omega) (by omega) (Nat.lt_of_le_of_lt (Nat.mul_le_mul_left _ (Nat.le_of_lt (Nat.lt_trans hY hl))) (Nat.mul_lt_mul_of_pos_right h1 (by omega))) w fv u v hF hu hv).mono ?_
 rintro r w' ⟨⟨v', rfl, P, hL, hP, e⟩, hb⟩
 refine ⟨⟨v', rfl, ?_⟩, hb⟩
 have : P = X * Y % M := by
  refine hM.uniq hP (Nat.mod_lt _ hM.pos) ?_
  rw [e]
  unfold elN
  rw [Nat.mod_mul_mod, Nat.mod_mul_mod]
  congr 1
  generalize 18446744073709551616 ^ n = Q
  grind
 rw [← this]
 exact hL
theorem ZdF {n M : Nat} (hM : FM n M) (X Y : Nat) (hX : X < M) (hY : Y < M) (w : World) (fv u v : Value) (hF : FF w fv n M) (hu : LW w u n (limb X)) (hv : LW w v n (limb Y)) :
  Calls Tryz.prog 165 #[fv, u, v] w fun r w' => (∃ v', r = .returned v' ∧ LW w' v' n (limb (X * Y % M))) ∧ Below w.heap.size w w' := by
 have HU := hideP hu
 have HV := hideP hv
 have HFF := hideP hF
 have HH : Hid (FM n M ∧ X < M ∧ Y < M) := ⟨hM, hX, hY⟩
 clear hu hv hM hX hY
 obtain ⟨mv, fo, tv, rfl, hm, ht, hfo⟩ := hF.ex
 have HMV := hideP hm
 have HTV := hideP ht
 have HFO := hideP hfo
 clear hF hm ht hfo
 go_enter Tryz.func165, Tryz.ntmps165
 refine Zae (fun K0 HK0 => ?_)
 go_wp2_with fail
 refine HK0.out _ _ ?_
 refine Zaj (fun W0 hW0 => ?_)
 have hB0 : W0.heap[w.heap.size]? = some (.cells #[mv, .int .u64 fo, tv] 39 (0, 0)) := by
  rw [hW0]
  exact Zaf _ _
 have HBW : Hid (Below w.heap.size w W0) := by
  show Below _ _ _
  rw [hW0]
  repeat first | exact Below.refl _ _ | (refine Below.alloc ?_ (by simp <;> omega) _)
 have HB0 := hideP hB0
 clear hW0 hB0
 refine Zae (fun K1 HK1 => ?_)
 refine Zai (S := fun V => Below W0.heap.size W0 V) (by kernel_rfl) ((Below.refl _ _).drew) (fun hS => ?_)
 refine tkI 0 ?_ hS ?_ ?_
 rotate_left
 ·
  intro V hV
  have k0 : V.cell? ⟨w.heap.size, 0, none⟩ = some mv := Zac ((hV.block _ (Zab HB0.out)).trans HB0.out) rfl
  have k1 : V.cell? ⟨w.heap.size, 1, none⟩ = some (.int .u64 fo) := Zac ((hV.block _ (Zab HB0.out)).trans HB0.out) rfl
  have k2 : V.cell? ⟨w.heap.size, 2, none⟩ = some tv := Zac ((hV.block _ (Zab HB0.out)).trans HB0.out) rfl
  go_simp
  (try with_reducible rfl)
 simp only [Zaa, Zs, Zz]
 refine tkI 1 ?_ hS ?_ ?_
 rotate_left
 ·
  intro V hV
  have k0 : V.cell? ⟨w.heap.size, 0, none⟩ = some mv := Zac ((hV.block _ (Zab HB0.out)).trans HB0.out) rfl
  have k1 : V.cell? ⟨w.heap.size, 1, none⟩ = some (.int .u64 fo) := Zac ((hV.block _ (Zab HB0.out)).trans HB0.out) rfl
  have k2 : V.cell? ⟨w.heap.size, 2, none⟩ = some tv := Zac ((hV.block _ (Zab HB0.out)).trans HB0.out) rfl
  go_simp
  (try with_reducible rfl)
 simp only [Zaa, Zs, Zz]
 refine tkG 2 hS ?_
 simp only [Zaa, Zs, Zz]
 refine tkG 3 hS ?_
 simp only [Zaa, Zs, Zz]
 refine tkI 4 ?_ hS ?_ ?_
 rotate_left
 ·
  intro V hV
  have k0 : V.cell? ⟨w.heap.size, 0, none⟩ = some mv := Zac ((hV.block _ (Zab HB0.out)).trans HB0.out) rfl
  have k1 : V.cell? ⟨w.heap.size, 1, none⟩ = some (.int .u64 fo) := Zac ((hV.block _ (Zab HB0.out)).trans HB0.out) rfl
  have k2 : V.cell? ⟨w.heap.size, 2, none⟩ = some tv := Zac ((hV.block _ (Zab HB0.out)).trans HB0.out) rfl
  go_simp
  (try with_reducible rfl)
 simp only [Zaa, Zs, Zz]
 refine tkG 6 hS ?_
 simp only [Zaa, Zs, Zz]
 refine rd1 5 (fun K hK => ?_)
 go_simp
 refine (ZdE HH.out.1 X HH.out.2.1 _ _ u tv (HFF.out.moved (HBW.out.trans (hS.mono HBW.out.size))) (HU.out.moved (HBW.out.trans (hS.mono HBW.out.size))) (HTV.out.moved (HBW.out.trans (hS.mono HBW.out.size)))).mono ?_
 rintro r y1 ⟨⟨v1, rfl, hL⟩, hb⟩
 refine hK.out _ _ (hS.trans (hb.mono hS.size)) (fun hS2 => ?_)
 clear hS
 have hS := hS2
 clear hS2
 have HL1 := hideP hL
 clear hL
 clear hb
 clear hK K
 refine rd1 7 (fun K hK => ?_)
 go_simp
 refine (ZhF HH.out.1 X Y HH.out.2.2 _ _ v1 v (HFF.out.moved (HBW.out.trans (hS.mono HBW.out.size))) HL1.out (HV.out.moved (HBW.out.trans (hS.mono HBW.out.size)))).mono ?_
 rintro r y2 ⟨⟨v2, rfl, hL⟩, hb⟩
 refine hK.out _ _ (hS.trans (hb.mono hS.size)) (fun hS2 => ?_)
 clear hS
 have hS := hS2
 clear hS2
 have HL2 := hideP hL
 clear hL
 clear hb
 clear hK K
 refine rd1 8 (fun K hK => ?_)
 go_simp
 refine hK.out _ _ hS (fun hS => ?_)
 clear hK K
 refine wpAnyH_done (by kernel_rfl) ?_ _
 (try simp only [Zas])
 refine HK1.out _ _ ?_
 have HE := hideP (HBW.out.trans (hS.mono HBW.out.size))
 clear hS
 go_wp2
 go_ret
 exact ⟨⟨_, rfl, HL2.out⟩, HE.out⟩
theorem LW.set0 {w : World} {g n x : Nat} (h : w.heap[g]? = some (.cells (cw n (fun _ => 0)) 27 (0, 0))) (hx : x < 18446744073709551616) : (w.setCell ⟨g, 0, none⟩ (.int .u64 x)).heap[g]? = some (.cells (cw n (limb x)) 27 (0, 0)) := by
 have := Zaw (o := 0) h (.int .u64 x)
 rw [Zd9, ZeU (g := limb x) (fun j _ => by
  by_cases hj : j = 0
  ·
   rw [if_pos hj, hj]
   simp [limb, Nat.mod_eq_of_lt hx]
  ·
   rw [if_neg hj]
   exact (ZcG (n := 1) (by simpa using hx) (by omega)).symm)] at this
 exact this
theorem ZhG {n M : Nat} (hM : FM n M) (x : Nat) (hx : x < 18446744073709551616) (w : World) (fv : Value) (hF : FF w fv n M) :
  Calls Tryz.prog 214 #[fv, .int .u64 x] w fun r w' => (∃ v', r = .returned v' ∧ LW w' v' n (limb x)) ∧ Below w.heap.size w w' := by
 have HH : Hid (FM n M ∧ x < 18446744073709551616) := ⟨hM, hx⟩
 clear hM hx
 obtain ⟨mv, fo, tv, rfl, hm, ht, hfo⟩ := hF.ex
 have HMV := hideP hm
 have HTV := hideP ht
 have HFO := hideP hfo
 clear hF hm ht hfo
 go_enter Tryz.func214, Tryz.ntmps214
 refine Zae (fun K0 HK0 => ?_)
 go_wp2_with fail
 refine HK0.out _ _ ?_
 refine Zaj (fun W0 hW0 => ?_)
 have hB0 : W0.heap[w.heap.size]? = some (.cells #[mv, .int .u64 fo, tv] 39 (0, 0)) := by
  rw [hW0]
  exact Zaf _ _
 have HBW : Hid (Below w.heap.size w W0) := by
  show Below _ _ _
  rw [hW0]
  repeat first | exact Below.refl _ _ | (refine Below.alloc ?_ (by simp <;> omega) _)
 have HB0 := hideP hB0
 clear hW0 hB0
 obtain ⟨g2, o2, c2, rfl, _, _, l2, h2⟩ := HMV.out.ex
 have f0 : W0.cell? ⟨w.heap.size, 0, none⟩ = some (.slice (some ⟨g2, o2, none⟩) n c2) := Zac HB0.out rfl
 have hn := HH.out.1.n8
 have hn0 := HH.out.1.n0
 have hmk := ZaV W0 n (by omega)
 have ew : IntKind.i64.wrap (n : Int) = (n : Int) := by rw [IntKind.wrap_i64]; omega
 refine Zae (fun K1 HK1 => ?_)
 go_wp2_with fail
 refine HK1.out _ _ ?_
 refine Zaj (fun W1 hW1 => ?_)
 have hD : W1.heap[W0.heap.size]? = some (.cells (cw n (fun _ => 0)) 27 (0, 0)) := by
  rw [hW1]
  exact Zaf _ _
 have HBd : Hid (Below W0.heap.size W0 W1) := by
  show Below _ _ _
  rw [hW1]
  exact (Below.refl _ _).alloc (Nat.le_refl _) _
 clear hW1 hmk
 have HS := hideP (LW.set0 hD HH.out.2)
 have ca := Zac (o := 0) hD (Zb2 _ hn0)
 have fr : ∀ o, W1.frozen? ⟨W0.heap.size, o, none⟩ = false := fun o => Zap hD
 have g0 : (0 : Int) < (n : Int) := by omega
 have HN : Hid (n ≤ 64) := by show n ≤ 64; omega
 clear h2 hn hn0 hD HMV HTV HFO
 go_wp2_with fail
 go_ret
 exact ⟨⟨_, rfl, Zcd HN.out HS.out⟩, HBW.out.trans ((HBd.out.setCell (p := ⟨W0.heap.size, 0, none⟩) (Nat.le_refl _) _).mono HBW.out.size)⟩
theorem Zk3 {n M : Nat} (hM : FM n M) (w : World) (fv : Value) (hF : FF w fv n M) :
  Calls Tryz.prog 246 #[fv] w fun r w' => (∃ v', r = .returned v' ∧ LW w' v' n (limb 1)) ∧ Below w.heap.size w w' := by
 have HH : Hid (FM n M) := hM
 clear hM
 obtain ⟨mv, fo, tv, rfl, hm, ht, hfo⟩ := hF.ex
 have HMV := hideP hm
 have HTV := hideP ht
 have HFO := hideP hfo
 clear hF hm ht hfo
 go_enter Tryz.func246, Tryz.ntmps246
 refine Zae (fun K0 HK0 => ?_)
 go_wp2_with fail
 refine HK0.out _ _ ?_
 refine Zaj (fun W0 hW0 => ?_)
 have hB0 : W0.heap[w.heap.size]? = some (.cells #[mv, .int .u64 fo, tv] 39 (0, 0)) := by
  rw [hW0]
  exact Zaf _ _
 have HBW : Hid (Below w.heap.size w W0) := by
  show Below _ _ _
  rw [hW0]
  repeat first | exact Below.refl _ _ | (refine Below.alloc ?_ (by simp <;> omega) _)
 have HB0 := hideP hB0
 clear hW0 hB0
 have HMW := hideP (HMV.out.moved HBW.out)
 obtain ⟨g2, o2, c2, rfl, _, _, l2, h2⟩ := HMV.out.ex
 have f0 : W0.cell? ⟨w.heap.size, 0, none⟩ = some (.slice (some ⟨g2, o2, none⟩) n c2) := Zac HB0.out rfl
 have hn := HH.out.n8
 have hn0 := HH.out.n0
 have hmk := ZaV W0 n (by omega)
 have ew : IntKind.i64.wrap (n : Int) = (n : Int) := by rw [IntKind.wrap_i64]; omega
 refine Zae (fun K1 HK1 => ?_)
 go_wp2_with fail
 refine HK1.out _ _ ?_
 refine Zaj (fun W1 hW1 => ?_)
 have hD : W1.heap[W0.heap.size]? = some (.cells (cw n (fun _ => 0)) 27 (0, 0)) := by
  rw [hW1]
  exact Zaf _ _
 have HBd : Hid (Below W0.heap.size W0 W1) := by
  show Below _ _ _
  rw [hW1]
  exact (Below.refl _ _).alloc (Nat.le_refl _) _
 clear hW1 hmk
 have HS := hideP (LW.set0 (x := 1) hD (by decide))
 have ca := Zac (o := 0) hD (Zb2 _ hn0)
 have fr : ∀ o, W1.frozen? ⟨W0.heap.size, o, none⟩ = false := fun o => Zap hD
 have g0 : (0 : Int) < (n : Int) := by omega
 have HN : Hid (n ≤ 64) := by show n ≤ 64; omega
 have HB1 : Hid (Below W0.heap.size W0 (W1.setCell ⟨W0.heap.size, 0, none⟩ (.int .u64 ((1 : Nat) : Int)))) := HBd.out.setCell (p := ⟨W0.heap.size, 0, none⟩) (Nat.le_refl _) _
 have f1 : (W1.setCell ⟨W0.heap.size, 0, none⟩ (.int .u64 ((1 : Nat) : Int))).cell? ⟨w.heap.size, 0, none⟩ = some (.slice (some ⟨g2, o2, none⟩) n c2) := (HB1.out.cell (p := ⟨w.heap.size, 0, none⟩) (Zab HB0.out)).trans f0
 have C := hideP (Zho (na := n) (n := n) (by omega) hn 1 M (Nat.lt_of_lt_of_le (by decide) (Nat.pow_le_pow_right (show 0 < 18446744073709551616 by decide) hn0)) HH.out.pos HH.out.lt _ _ _ (Zcd HN.out HS.out) (HMW.out.moved HB1.out))
 have h1 : 1 % M = 1 := Nat.mod_eq_of_lt (by have := HH.out.ge; omega)
 rw [h1] at C
 simp only [Int.natCast_one] at C f1 HB1
 clear h2 hn hn0 hD HMV HTV HFO h1
 go_wp2_with fail
 refine C.out.mono ?_
 rintro r w5 ⟨⟨v5, rfl, hL⟩, hb⟩
 have HL := hideP hL
 have HB5 := hideP (HBW.out.trans ((HB1.out.mono HBW.out.size).trans (hb.mono (Nat.le_trans HBW.out.size HB1.out.size))))
 clear hL hb
 go_wp2
 go_ret
 exact ⟨⟨_, rfl, HL.out⟩, HB5.out⟩
theorem Zct {n M : Nat} (hM : FM n M) (x : Nat) (hx : x < 18446744073709551616) (w : World) (fv : Value) (hF : FF w fv n M) :
  Calls Tryz.prog 88 #[fv, .int .u64 x] w fun r w' => (∃ v', r = .returned v' ∧ LW w' v' n (limb x)) ∧ Below w.heap.size w w' := by
 have HH : Hid (FM n M ∧ x < 18446744073709551616) := ⟨hM, hx⟩
 clear hM hx
 obtain ⟨mv, fo, tv, rfl, hm, ht, hfo⟩ := hF.ex
 have HMV := hideP hm
 have HTV := hideP ht
 have HFO := hideP hfo
 clear hF hm ht hfo
 go_enter Tryz.func88, Tryz.ntmps88
 refine Zae (fun K0 HK0 => ?_)
 go_wp2_with fail
 refine HK0.out _ _ ?_
 refine Zaj (fun W0 hW0 => ?_)
 have hB0 : W0.heap[w.heap.size]? = some (.cells #[mv, .int .u64 fo, tv] 39 (0, 0)) := by
  rw [hW0]
  exact Zaf _ _
 have HBW : Hid (Below w.heap.size w W0) := by
  show Below _ _ _
  rw [hW0]
  repeat first | exact Below.refl _ _ | (refine Below.alloc ?_ (by simp <;> omega) _)
 have HB0 := hideP hB0
 clear hW0 hB0
 obtain ⟨g2, o2, c2, rfl, _, _, l2, h2⟩ := HMV.out.ex
 have f0 : W0.cell? ⟨w.heap.size, 0, none⟩ = some (.slice (some ⟨g2, o2, none⟩) n c2) := Zac HB0.out rfl
 have hn := HH.out.1.n8
 have hn0 := HH.out.1.n0
 have hmk := ZaV W0 n (by omega)
 have ew : IntKind.i64.wrap (n : Int) = (n : Int) := by rw [IntKind.wrap_i64]; omega
 refine Zae (fun K1 HK1 => ?_)
 go_wp2_with fail
 refine HK1.out _ _ ?_
 refine Zaj (fun W1 hW1 => ?_)
 have hD : W1.heap[W0.heap.size]? = some (.cells (cw n (fun _ => 0)) 27 (0, 0)) := by
  rw [hW1]
  exact Zaf _ _
 have HBd : Hid (Below W0.heap.size W0 W1) := by
  show Below _ _ _
  rw [hW1]
  exact (Below.refl _ _).alloc (Nat.le_refl _) _
 clear hW1 hmk
 have HS := hideP (LW.set0 hD HH.out.2)
 have ca := Zac (o := 0) hD (Zb2 _ hn0)
 have fr : ∀ o, W1.frozen? ⟨W0.heap.size, o, none⟩ = false := fun o => Zap hD
 have g0 : (0 : Int) < (n : Int) := by omega
 have HN : Hid (n ≤ 64) := by show n ≤ 64; omega
 clear h2 hn hn0 hD HMV HTV HFO
 go_wp2_with fail
 go_ret
 exact ⟨⟨_, rfl, Zcd HN.out HS.out⟩, HBW.out.trans ((HBd.out.setCell (p := ⟨W0.heap.size, 0, none⟩) (Nat.le_refl _) _).mono HBW.out.size)⟩
section
variable {P : Program} {w w' : World} {ρ : Operand → Value} {o : Oper} {v : Value}
theorem ZdG {x : Operand} (ho : o.op = .move x) (hx : ρ x = v) : (execOp ρ o).run P w = .ok (.value v) w := by
 unfold execOp
 simp only [ho, hx, Sem.run_pure]
theorem Zbl {x : Operand} (ho : o.op = .assign x) (hx : ρ x = v) : (execOp ρ o).run P w = .ok (.value v) w := by
 unfold execOp
 simp only [ho, hx, Sem.run_pure]
theorem ZaB {t : TypeId} {x : Operand} {a : Addr} (ho : o.op = .load t x) (hx : ρ x = .pointer (some a)) (h : (loadVar t a).run P w = .ok v w) : (execOp ρ o).run P w = .ok (.value v) w := by
 unfold execOp
 simp only [ho, hx, Instr.loadAt, Instr.sureAddr, Sem.run_bind, Sem.run_pure, Result.andThen, h]
theorem Zmt {s : TypeId} {x : Operand} {k : Nat} {xv : Value} (ho : o.op = .fieldAddr s x k) (hx : ρ x = xv) (h : (Instr.fieldAt s xv k).run P w = .ok v w) : (execOp ρ o).run P w = .ok (.value v) w := by
 unfold execOp
 simp only [ho, hx, Sem.run_bind, Sem.run_pure, Result.andThen, h]
theorem ex_ia {t : TypeId} {x y : Operand} {xv yv : Value} (ho : o.op = .indexAddr t x y) (hx : ρ x = xv) (hy : ρ y = yv) (h : (Instr.indexAt t xv yv).run P w = .ok v w) : (execOp ρ o).run P w = .ok (.value v) w := by
 unfold execOp
 simp only [ho, hx, hy, Sem.run_bind, Sem.run_pure, Result.andThen, h]
theorem ZeX {t : TypeId} {n : Nat} {ps : Array (Nat × Operand)} {vs : Array (Nat × Value)} (ho : o.op = .buildSlice t n ps) (hx : (ps.map fun (i, x) => (i, ρ x)) = vs) (h : (Instr.buildSlice t n vs).run P w = .ok v w') : (execOp ρ o).run P w = .ok (.value v) w' := by
 unfold execOp
 simp only [ho, hx, Sem.run_bind, Sem.run_pure, Result.andThen, h]
theorem Zcu {t : TypeId} {ps : Array (Nat × Operand)} {vs : Array (Nat × Value)} (ho : o.op = .build t ps) (hx : (ps.map fun (i, x) => (i, ρ x)) = vs) (h : (Instr.build t vs).run P w = .ok v w') : (execOp ρ o).run P w = .ok (.value v) w' := by
 unfold execOp
 simp only [ho, hx, Sem.run_bind, Sem.run_pure, Result.andThen, h]
theorem ZaJ {t : TypeId} (ho : o.op = .alloc t) (h : (Instr.alloc t true (.tuple #[])).run P w = .ok v w') : (execOp ρ o).run P w = .ok (.value v) w' := by
 unfold execOp
 simp only [ho, Sem.run_bind, Sem.run_pure, Result.andThen, h]
theorem Zcl {t : TypeId} {x : Operand} {xv : Value} (ho : o.op = .box t x) (hx : ρ x = xv) : (execOp ρ o).run P w = .ok (.value (.pointer (some ⟨w.heap.size, 0, none⟩))) (w.alloc (.cells xv.cells t (0, 0))) := by
 unfold execOp
 simp only [ho, hx]
 rfl
theorem ZdH {op : BinOp} {t t2 : TypeId} {x y : Operand} {xv yv : Value} (ho : o.op = .binOp op t x y t2) (hx : ρ x = xv) (hy : ρ y = yv) (hg : (eqGuard op t x y xv yv).run P w = .ok () w) (h : (binOp op t xv yv).run P w = .ok v w) : (execOp ρ o).run P w = .ok (.value v) w := by
 unfold execOp
 simp only [ho, hx, hy, Sem.run_bind, Sem.run_pure, Result.andThen, hg, h]
theorem ex_un {op : UnOp} {t : TypeId} {x : Operand} {xv : Value} (ho : o.op = .unOp op t x) (hx : ρ x = xv) (h : (Op.unary op xv).run P w = .ok v w) : (execOp ρ o).run P w = .ok (.value v) w := by
 unfold execOp
 simp only [ho, hx, Sem.run_bind, Sem.run_pure, Result.andThen, h]
theorem Ziw {x y : Operand} {tys : Array TypeId} {xv yv : Value} (ho : o.op = .call { callee := .builtin .append, args := #[x, y], argTypes := tys }) (hx : ρ x = xv) (hy : ρ y = yv) (h : (Builtin.append_ tys o.type #[xv, yv]).run P w = .ok v w') : (execOp ρ o).run P w = .ok (.value v) w' := by
 simp [execOp, ho, resolve, invoke, builtin, hx, hy, h, Result.andThen]
theorem ex_len {x : Operand} {tys : Array TypeId} {xv : Value} (ho : o.op = .call { callee := .builtin .len, args := #[x], argTypes := tys }) (hx : ρ x = xv) (h : (Builtin.len_ tys o.type #[xv]).run P w = .ok v w) : (execOp ρ o).run P w = .ok (.value v) w := by
 simp [execOp, ho, resolve, invoke, builtin, hx, h, Result.andThen]
theorem ld1 {t : TypeId} {a : Addr} (hA : (isAgg t).run P w = .ok false w) (h : w.cell? a = some v) : (loadVar t a).run P w = .ok v w := by
 unfold loadVar
 simp only [Sem.run_bind, hA, Result.andThen]
 show (load a).run P w = _
 rw [run_load, h]
end
structure KA (w : World) (g o : Nat) (u : Value) : Prop where
 lt : g < w.heap.size
 cell : w.cell? ⟨g, o, none⟩ = some u
theorem KA.moved {w w' : World} {g o : Nat} {u : Value} (h : KA w g o u) (hb : Below w.heap.size w w') : KA w' g o u := ⟨Nat.lt_of_lt_of_le h.lt hb.size, (hb.cell (p := ⟨g, o, none⟩) h.lt).trans h.cell⟩
structure BX (w : World) (b : Nat) (C : Array Value) (t : TypeId) : Prop where
 heap : w.heap[b]? = some (.cells C t (0, 0))
theorem BX.moved {w w' : World} {b : Nat} {C : Array Value} {t : TypeId} (h : BX w b C t) (hb : Below w.heap.size w w') : BX w' b C t := ⟨(hb.block _ (Zab h.heap)).trans h.heap⟩
def NB (N : Nat) (C : Array Value) (t : TypeId) : VP := fun v w => ∃ b, v = .pointer (some ⟨b, 0, none⟩) ∧ N ≤ b ∧ BX w b C t
theorem ZaH (N : Nat) (C : Array Value) (t : TypeId) : Stab (NB N C t) := by
 rintro v w w' ⟨b, rfl, h1, h2⟩ hb
 exact ⟨b, rfl, h1, h2.moved hb⟩
theorem ZbX (n : Nat) (f : Nat → Nat) : Stab (fun v w => LW w v n f) := fun _ _ _ h hb => h.moved hb
structure LL (w : World) (v : Value) (n : Nat) (xs : List Nat) : Prop where
 ex : ∃ g o c, v = .slice (some ⟨g, o, none⟩) xs.length c ∧ xs.length ≤ c ∧ c ≤ maxLen ∧ g < w.heap.size ∧ ∀ j x, xs[j]? = some x → ∃ u, w.cell? ⟨g, o + j, none⟩ = some u ∧ LW w u n (limb x)
theorem LL.moved {w w' : World} {v : Value} {n : Nat} {xs : List Nat} (h : LL w v n xs) (hb : Below w.heap.size w w') : LL w' v n xs := by
 obtain ⟨g, o, c, e, h1, h2, hg, hc⟩ := h.ex
 refine ⟨g, o, c, e, h1, h2, Nat.lt_of_lt_of_le hg hb.size, fun j x hj => ?_⟩
 obtain ⟨u, hu, hL⟩ := hc j x hj
 exact ⟨u, (hb.cell (p := ⟨g, o + j, none⟩) hg).trans hu, hL.moved hb⟩
theorem Zbf (n : Nat) (xs : List Nat) : Stab (fun v w => LL w v n xs) := fun _ _ _ h hb => h.moved hb
theorem LL.one {w : World} {v : Value} {n x : Nat} (h : LL w v n [x]) : ∃ g o c u, v = .slice (some ⟨g, o, none⟩) 1 c ∧ 1 ≤ c ∧ c ≤ maxLen ∧ KA w g (o + 0) u ∧ LW w u n (limb x) := by
 obtain ⟨g, o, c, e, h1, h2, hg, hc⟩ := h.ex
 obtain ⟨u, hu, hL⟩ := hc 0 x rfl
 exact ⟨g, o, c, u, e, h1, h2, ⟨hg, hu⟩, hL⟩
theorem LW.isSlice {w : World} {v : Value} {n : Nat} {f : Nat → Nat} (h : LW w v n f) : v.cells = #[v] := by
 obtain ⟨g, o, c, rfl, _⟩ := h.ex
 rfl
theorem LL.isSlice {w : World} {v : Value} {n : Nat} {xs : List Nat} (h : LL w v n xs) : v.cells = #[v] := by
 obtain ⟨g, o, c, rfl, _⟩ := h.ex
 rfl
theorem bsN (w : World) (k : Nat) {vs : Array (Nat × Value)} {C : Array Value} (hk : k * 1 ≤ 2 ^ 24) (h0 : 0 < k) (hf : Instr.fill (fun i => some (i * 1, 1)) ((Array.range (k * 1)).map (fun _ => .slice none 0 0)) vs.toList = some C) : (Instr.buildSlice 40 k vs).run Tryz.prog w = .ok (.slice (some ⟨w.heap.size, 0, none⟩) k k) (w.alloc (.cells C 37 (0, 0))) := by
 have hu : (underlying 40).run Tryz.prog w = .ok (.slice 37) w := by kernel_rfl
 have hs : (sizeOf 37).run Tryz.prog w = .ok 1 w := by kernel_rfl
 have hz : (zeroValue 37).run Tryz.prog w = .ok (.slice none 0 0) w := by kernel_rfl
 have e : ((Array.range (k * 1)).map fun x => ((Value.slice none 0 0).cells)[x % ((Value.slice none 0 0).cells).size]!) = ((Array.range (k * 1)).map (fun _ => .slice none 0 0)) := by
  refine congrArg (fun f => Array.map f (Array.range (k * 1))) (funext fun x => ?_)
  have h1 : (Value.slice none 0 0).cells = #[.slice none 0 0] := rfl
  rw [h1]
  have h2 : (#[Value.slice none 0 0]).size = 1 := rfl
  rw [h2, Nat.mod_one]
  rfl
 unfold Instr.buildSlice
 rw [Sem.run_bind, hu]
 simp only [Result.andThen, Sem.run_bind, hs]
 rw [if_neg (show ¬ k * 1 > 2 ^ 24 by omega), if_neg (show ¬ k * 1 = 0 by omega)]
 simp only [Result.andThen, Sem.run_bind, Sem.run_pure, hz]
 rw [e, hf]
 rfl
theorem bs1 (w : World) {u : Value} (h : u.cells = #[u]) : (Instr.buildSlice 40 1 #[(0, u)]).run Tryz.prog w = .ok (.slice (some ⟨w.heap.size, 0, none⟩) 1 1) (w.alloc (.cells #[u] 37 (0, 0))) := by
 refine bsN w 1 (by decide) (by decide) ?_
 rw [show ((Array.range (1 * 1)).map (fun _ => Value.slice none 0 0)) = #[.slice none 0 0] by kernel_rfl]
 simp [Instr.fill, h]
theorem bs2 (w : World) {u z : Value} (h : u.cells = #[u]) (h2 : z.cells = #[z]) : (Instr.buildSlice 40 2 #[(0, u), (1, z)]).run Tryz.prog w = .ok (.slice (some ⟨w.heap.size, 0, none⟩) 2 2) (w.alloc (.cells #[u, z] 37 (0, 0))) := by
 refine bsN w 2 (by decide) (by decide) ?_
 rw [show ((Array.range (2 * 1)).map (fun _ => Value.slice none 0 0)) = #[.slice none 0 0, .slice none 0 0] by kernel_rfl]
 simp [Instr.fill, h, h2]
theorem LL.mk1 {w : World} {u : Value} {n x : Nat} (h : LW w u n (limb x)) : LL (w.alloc (.cells #[u] 37 (0, 0))) (.slice (some ⟨w.heap.size, 0, none⟩) 1 1) n [x] := by
 have hb : Below w.heap.size w (w.alloc (.cells #[u] 37 (0, 0))) := (Below.refl _ w).alloc (Nat.le_refl _) _
 have hn := Zaf w (.cells #[u] 37 (0, 0))
 refine ⟨_, 0, 1, rfl, Nat.le_refl _, by unfold maxLen; omega, Zab hn, fun j y hj => ?_⟩
 match j with
 | 0 => cases hj; exact ⟨u, Zac hn rfl, h.moved hb⟩
 | j + 1 => simp at hj
theorem LL.mk2 {w : World} {u z : Value} {n x y : Nat} (h : LW w u n (limb x)) (h2 : LW w z n (limb y)) : LL (w.alloc (.cells #[u, z] 37 (0, 0))) (.slice (some ⟨w.heap.size, 0, none⟩) 2 2) n [x, y] := by
 have hb : Below w.heap.size w (w.alloc (.cells #[u, z] 37 (0, 0))) := (Below.refl _ w).alloc (Nat.le_refl _) _
 have hn := Zaf w (.cells #[u, z] 37 (0, 0))
 refine ⟨_, 0, 2, rfl, Nat.le_refl _, by unfold maxLen; omega, Zab hn, fun j t hj => ?_⟩
 match j with
 | 0 => cases hj; exact ⟨u, Zac hn rfl, h.moved hb⟩
 | 1 => cases hj; exact ⟨z, Zac hn rfl, h2.moved hb⟩
 | j + 2 => simp at hj
theorem Zix {w : World} {b t : Nat} {C : Array Value} (h : w.heap[b]? = some (.cells C t (0, 0))) {o : Nat} {L : List Value} (e : (C.toList.drop o).take L.length = L) : w.rangeAt b o L := fun j v hv => by
 have hj := (List.getElem?_eq_some_iff.1 hv).1
 refine Zac h ?_
 rw [← e, List.getElem?_take, if_pos hj, List.getElem?_drop, Array.getElem?_toList] at hv
 exact hv
theorem Zaq (w : World) (c : Obj) : Below w.heap.size w (w.alloc c) := (Below.refl _ w).alloc (Nat.le_refl _) _
theorem ixL (B o n c j : Nat) (hj : j < n) (w : World) : (Instr.indexAt 40 (.slice (some ⟨B, o, none⟩) n c) (.int .i64 (j : Int))).run Tryz.prog w = .ok (.pointer (some ⟨B, o + j, none⟩)) w := by
 have hu : (underlying 40).run Tryz.prog w = .ok (.slice 37) w := by kernel_rfl
 have hs : (sizeOf 37).run Tryz.prog w = .ok 1 w := by kernel_rfl
 unfold Instr.indexAt
 have h1 : ¬ n ≤ j := by omega
 simp [asIntOf, hu, hs, Result.andThen, h1, Addr.add_mid]
structure CF (w : World) (cv : Value) (n M d : Nat) : Prop where
 ex : ∃ mv fo tv x4 x5 x6 x7 x8, cv = .agg #[mv, .int .u64 ((fo : Nat) : Int), tv, .int .i64 (d : Int), x4, x5, x6, x7, x8] ∧ FF w (.agg #[mv, .int .u64 ((fo : Nat) : Int), tv]) n M ∧ LW w mv n (limb M)
theorem CF.moved {w w' : World} {cv : Value} {n M d : Nat} (h : CF w cv n M d) (hb : Below w.heap.size w w') : CF w' cv n M d := by
 obtain ⟨mv, fo, tv, x4, x5, x6, x7, x8, e, hF, hm⟩ := h.ex
 exact ⟨mv, fo, tv, x4, x5, x6, x7, x8, e, hF.moved hb, hm.moved hb⟩
theorem ZaN {P : Program} {op : Oper} {l : List Value} {ds : List Deferred} {w : World} {K : Act → World → Prop} {Q : Exit → Act → World → Prop} (args : Array Operand) (tys : Array TypeId) (d : Nat) {f : Nat} (ho : op.op = .call { callee := .value (.func f), args := args, argTypes := tys }) (hd : op.dst = some d) {av : Array Value}
  (hx : args.map (Act.eval { tmps := l.toArray, defers := ds }) = av) (hm : ∀ av w, (callFunc f av).run P w = .ok (.enter f av) w) {R : Ending → World → Prop} (hc : Calls P f av w R)
  (h : ∀ e w', R e w' → ∃ v, e = .returned v ∧ K { tmps := (l.set d v).toArray, defers := ds } w') : op.wp P { tmps := l.toArray, defers := ds } w K Q := by
 unfold Oper.wp execOp
 have he : (do let d ← resolve (Act.eval { tmps := l.toArray, defers := ds }) { callee := .value (.func f), args := args, argTypes := tys } op.type; invoke d.target d.args).run P w = .ok (.enter f av) w := by
  have hf : Act.eval { tmps := l.toArray, defers := ds } (.func f) = .func (.func f) #[] #[] := rfl
  simp only [resolve, invoke, Deferred.ofValue, hf, Sem.run_bind, Sem.run_pure, Result.andThen, hx]
  simp [hm]
 simp only [ho]
 rw [he]
 refine hc.mono ?_
 intro e w' hR
 obtain ⟨v, rfl, hK⟩ := h e w' hR
 show K _ _
 rw [hd, Zaa]
 exact hK
inductive PD where
 | ex (v : Value)
 | pr (p : VP)
def PD.vp : PD → VP
 | .ex v => fun u _ => v = u
 | .pr p => p
def PDs (Ds : List PD) : List VP := Ds.map PD.vp
def StabD : List PD → Prop
 | [] => True
 | .ex _ :: Ds => StabD Ds
 | .pr p :: Ds => Stab p ∧ StabD Ds
theorem StabD.all : ∀ {Ds : List PD}, StabD Ds → AllS (PDs Ds)
 | [], _ => trivial
 | .ex v :: _, h => ⟨Zmm v, StabD.all (h : StabD _)⟩
 | .pr _ :: _, h => ⟨h.1, StabD.all h.2⟩
theorem Zbg (Ds : List PD) : (PDs Ds).length = Ds.length := by simp [PDs]
theorem ZcH {Ds : List PD} {j : Nat} {pd : PD} (h : Ds[j]? = some pd) : FP (PDs Ds) j = pd.vp := by
 unfold FP PDs
 rw [List.getD_eq_getElem?_getD, List.getElem?_map, h]
 rfl
def pv (b k : Nat) : Value := .pointer (some ⟨b, k, none⟩)
def KS (L : List Value) : List (Nat × Value) → Prop
 | [] => True
 | p :: r => L[p.1]? = some p.2 ∧ KS L r
theorem KS.get {L : List Value} : ∀ {kn : List (Nat × Value)}, KS L kn → ∀ {s : Nat} {v : Value}, kn.lookup s = some v → L[s]? = some v
 | p :: r, h, s, v, e => by
  rw [List.lookup_cons] at e
  by_cases hs : s = p.1
  ·
   subst hs
   simp at e
   rw [← e]
   exact h.1
  ·
   have : (s == p.1) = false := by simpa using hs
   rw [this] at e
   exact KS.get h.2 e
theorem KS.to {L : List Value} {a : List (Nat × Value)} (h : KS L a) (b : List (Nat × Value)) (e : a = b) : KS L b := e ▸ h
def wts (ops : List Oper) (i j : Nat) : Bool := match ops[i]? with
 | some o => o.after.toList.any fun e => Region.binds .any e && e.on == j
 | none => false
theorem ZfI (ops : List Oper) (i j : Nat) : waits .any ops.toArray i j = wts ops i j := by
 unfold waits wts
 rw [List.getElem?_toArray]
 cases ops[i]? with
 | none => rfl
 | some o => simp only [Array.any_toList]
def dL (ops : List Oper) (i : Nat) : Nat := match ops[i]? with
 | some o => o.dst.getD 0
 | none => 0
theorem dL_eq (ops : List Oper) (i : Nat) : dOf ops.toArray i = dL ops i := by
 unfold dOf dL
 rw [List.getElem?_toArray]
 cases ops[i]? <;> rfl
def outL (ops : List Oper) (n i s : Nat) : Bool := (List.range n).all fun j => dL ops j != s || wts ops j i
theorem Zmu (ops : List Oper) (n i s : Nat) : outB .any ops.toArray n i s = outL ops n i s := by
 unfold outB outL
 simp only [dL_eq, ZfI]
def srcOf (ops : List Oper) (i s : Nat) : Option Nat := (List.range i).find? fun j => dL ops j == s && wts ops i j
def rslv (ops : List Oper) (Ds : List PD) (kn : List (Nat × Value)) (i : Nat) : Operand → Option PD
 | .tmp s => match srcOf ops i s with
  | some j => Ds[j]?
  | none => if outL ops Ds.length i s then (kn.lookup s).map PD.ex else none
 | .const v => some (.ex v)
 | .func f => some (.ex (.func (.func f) #[] #[]))
 | .global _ => none
def Zbm : Op → Option (List Operand)
 | .move x => some [x]
 | .assign x => some [x]
 | .fieldAddr _ x _ => some [x]
 | .field _ x _ => some [x]
 | .extract x _ => some [x]
 | .nilCheck x => some [x]
 | .unOp _ _ x => some [x]
 | .load _ x => some [x]
 | .box _ x => some [x]
 | .indexAddr _ x y => some [x, y]
 | .binOp _ _ x y _ => some [x, y]
 | .pick c a b => some [c, a, b]
 | .slice _ x none none none => some [x]
 | .build _ ps => some (ps.toList.map (·.2))
 | .buildSlice _ _ ps => some (ps.toList.map (·.2))
 | .makeFunc _ f c => some (f.toList ++ c.toList)
 | .alloc _ => some []
 | .call c => match c.callee with
  | .builtin _ => some c.args.toList
  | .value f => some (f :: c.args.toList)
  | .invoke r _ => some (r :: c.args.toList)
 | _ => none
theorem ZfJ {ρ ρ' : Operand → Value} (ps : Array (Nat × Operand)) (h : ∀ x ∈ ps.toList.map (·.2), ρ x = ρ' x) : (ps.map fun (i, x) => (i, ρ x)) = ps.map fun (i, x) => (i, ρ' x) := by
 refine Array.map_congr_left fun p hp => ?_
 have e := h p.2 (List.mem_map.2 ⟨p, Array.mem_toList_iff.2 hp, rfl⟩)
 obtain ⟨k, x⟩ := p
 simp only at e ⊢
 rw [e]
theorem ZcI {ρ ρ' : Operand → Value} (ar : Array Operand) (h : ∀ x ∈ ar.toList, ρ x = ρ' x) : ar.map ρ = ar.map ρ' :=
 Array.map_congr_left fun x hx => h x (Array.mem_toList_iff.2 hx)
theorem ZfK {ρ ρ' : Operand → Value} {o : Oper} {rs : List Operand} (h : Zbm o.op = some rs) (hρ : ∀ x ∈ rs, ρ x = ρ' x) : execOp ρ o = execOp ρ' o := by
 unfold execOp
 cases hop : o.op <;> rw [hop] at h <;> simp only [Zbm, Option.some.injEq, reduceCtorEq] at h
 all_goals try (subst h; simp only [List.mem_cons, List.not_mem_nil, or_false, forall_eq_or_imp, forall_eq] at hρ; simp only [hρ])
 case build t ps => subst h; dsimp only; rw [ZfJ ps hρ]
 case buildSlice t n ps => subst h; dsimp only; rw [ZfJ ps hρ]
 case makeFunc fnn f c =>
  subst h
  dsimp only
  rw [ZcI f (fun x hx => hρ x (List.mem_append_left _ hx)), ZcI c (fun x hx => hρ x (List.mem_append_right _ hx))]
 case slice t x lo hi mx =>
  cases lo <;> cases hi <;> cases mx <;> simp only [Option.some.injEq, reduceCtorEq] at h
  subst h
  simp only [List.mem_cons, List.not_mem_nil, or_false, forall_eq] at hρ
  simp only [hρ, Option.map_none]
 case call c =>
  obtain ⟨cal, ar, tys⟩ := c
  cases cal with
  | builtin b =>
   simp only [Option.some.injEq] at h
   subst h
   simp only [resolve, ZcI ar hρ]
  | value f =>
   simp only [Option.some.injEq] at h
   subst h
   have h1 := hρ f (List.mem_cons_self)
   simp only [resolve, h1, ZcI ar (fun x hx => hρ x (List.mem_cons_of_mem _ hx))]
  | invoke r nm =>
   simp only [Option.some.injEq] at h
   subst h
   have h1 := hρ r (List.mem_cons_self)
   simp only [resolve, h1, ZcI ar (fun x hx => hρ x (List.mem_cons_of_mem _ hx))]
def rhoL : List Operand → List Value → Operand → Value
 | .tmp s :: rs, v :: vs, .tmp t => if s = t then v else rhoL rs vs (.tmp t)
 | .tmp _ :: rs, _ :: vs, .const v => rhoL rs vs (.const v)
 | .tmp _ :: rs, _ :: vs, .func f => rhoL rs vs (.func f)
 | .tmp _ :: rs, _ :: vs, .global g => rhoL rs vs (.global g)
 | .const _ :: rs, _ :: vs, x => rhoL rs vs x
 | .func _ :: rs, _ :: vs, x => rhoL rs vs x
 | .global _ :: rs, _ :: vs, x => rhoL rs vs x
 | _, _, .const v => v
 | _, _, .func f => .func (.func f) #[] #[]
 | _, _, _ => undef
theorem Ziy (ρ : Operand → Value) (hc : ∀ v, ρ (.const v) = v) (hf : ∀ f, ρ (.func f) = .func (.func f) #[] #[]) : ∀ (rs : List Operand) (x : Operand), (x ∈ rs ∨ (∃ v, x = .const v) ∨ ∃ f, x = .func f) → (∀ g, x ≠ .global g) → ρ x = rhoL rs (rs.map ρ) x
 | [], x, h, _ => by
  rcases h with h | ⟨v, rfl⟩ | ⟨f, rfl⟩
  ·
   cases h
  ·
   simp [rhoL, hc]
  ·
   simp [rhoL, hf]
 | r :: rs, x, h, hg => by
  have ih := Ziy ρ hc hf rs x
  have ih' : x ∈ rs ∨ (∃ v, x = .const v) ∨ (∃ f, x = .func f) → ρ x = rhoL rs (rs.map ρ) x := fun h => ih h hg
  cases x with
  | global g => exact absurd rfl (hg g)
  | const v => cases r <;> (simp only [List.map_cons, rhoL]; exact ih' (Or.inr (Or.inl ⟨v, rfl⟩)))
  | func f => cases r <;> (simp only [List.map_cons, rhoL]; exact ih' (Or.inr (Or.inr ⟨f, rfl⟩)))
  | tmp t =>
   have hm : Operand.tmp t = r ∨ Operand.tmp t ∈ rs := by
    rcases h with h | ⟨v, h⟩ | ⟨f, h⟩
    ·
     exact List.mem_cons.1 h
    ·
     cases h
    ·
     cases h
   cases r with
   | tmp s =>
    simp only [List.map_cons, rhoL]
    by_cases hs : s = t
    ·
     rw [if_pos hs, hs]
    ·
     rw [if_neg hs]
     refine ih' (Or.inl ?_)
     rcases hm with hm | hm
     ·
      injection hm with hm; exact absurd hm.symm hs
     ·
      exact hm
   | const v =>
    simp only [List.map_cons, rhoL]
    exact ih' (Or.inl (hm.resolve_left (fun h => by cases h)))
   | func v =>
    simp only [List.map_cons, rhoL]
    exact ih' (Or.inl (hm.resolve_left (fun h => by cases h)))
   | global v =>
    simp only [List.map_cons, rhoL]
    exact ih' (Or.inl (hm.resolve_left (fun h => by cases h)))
def AR (V : World) : List PD → (List Value → Prop) → Prop
 | [], k => k []
 | .ex v :: ds, k => AR V ds (fun vs => k (v :: vs))
 | .pr p :: ds, k => ∀ u, p u V → AR V ds (fun vs => k (u :: vs))
theorem AR.get {V : World} : ∀ {ds : List PD} {k : List Value → Prop} {vs : List Value}, AR V ds k → ds.length = vs.length → (∀ (j : Nat) (pd : PD) (u : Value), ds[j]? = some pd → vs[j]? = some u → pd.vp u V) → k vs
 | [], _, [], h, _, _ => h
 | .ex v :: ds, k, u :: vs, h, hl, hp => by
  have e : v = u := hp 0 (.ex v) u rfl rfl
  subst e
  exact AR.get (ds := ds) (vs := vs) (k := fun vs => k (v :: vs)) h (by simpa using hl) (fun j pd w h1 h2 => hp (j + 1) pd w h1 h2)
 | .pr p :: ds, k, u :: vs, h, hl, hp =>
  AR.get (ds := ds) (vs := vs) (k := fun vs => k (u :: vs)) (h u (hp 0 (.pr p) u rfl rfl)) (by simpa using hl) (fun j pd w h1 h2 => hp (j + 1) pd w h1 h2)
theorem AR.mono {V : World} : ∀ {ds : List PD} {k k' : List Value → Prop}, AR V ds k → (∀ vs, k vs → k' vs) → AR V ds k'
 | [], _, _, h, hm => hm _ h
 | .ex v :: ds, _, _, h, hm => AR.mono (ds := ds) h (fun vs => hm (v :: vs))
 | .pr _ :: ds, _, _, h, hm => fun u hu => AR.mono (ds := ds) (h u hu) (fun vs => hm (u :: vs))
def asOf (ops : List Oper) (Ds : List PD) (kn : List (Nat × Value)) (i : Nat) (rs : List Operand) : List PD := rs.filterMap (rslv ops Ds kn i)
def okR (ops : List Oper) (Ds : List PD) (kn : List (Nat × Value)) (i : Nat) (rs : List Operand) : Bool := rs.all fun x => (rslv ops Ds kn i x).isSome
def gdB (ops : Array Oper) (Ds : List PD) (i : Nat) : Bool := match ops[i]? with
 | some o => match o.guard with
  | none => true
  | some (g, b) => decide (g < Ds.length) && waits .any ops i g && (match Ds[g]? with | some (.ex (.bool c)) => c == b | _ => false) && (match ops[g]? with | some og => og.dst.isSome | none => false)
 | none => false
section
variable {P : Program} {ops : List Oper} {Q : Exit → Act → World → Prop} {I : World → Prop} {Ds : List PD} {kn : List (Nat × Value)} {L : List Value} {ds : List Deferred} {i d : Nat} {o : Oper}
theorem Zhq {rs : List Operand} : okR ops Ds kn i rs = true → (asOf ops Ds kn i rs).length = rs.length := by
 intro h
 unfold okR at h
 unfold asOf
 induction rs with
 | nil => rfl
 | cons x rs ih =>
  simp only [List.all_cons, Bool.and_eq_true] at h
  obtain ⟨pd, hpd⟩ := Option.isSome_iff_exists.1 h.1
  rw [List.filterMap_cons, hpd, List.length_cons, List.length_cons, ih h.2]
theorem Zhr {rs : List Operand} : okR ops Ds kn i rs = true → ∀ (j : Nat) (x : Operand), rs[j]? = some x → (asOf ops Ds kn i rs)[j]? = rslv ops Ds kn i x := by
 intro h
 unfold okR at h
 unfold asOf
 induction rs with
 | nil => intro j x hx; cases hx
 | cons y rs ih =>
  intro j x hx
  simp only [List.all_cons, Bool.and_eq_true] at h
  obtain ⟨pd, hpd⟩ := Option.isSome_iff_exists.1 h.1
  rw [List.filterMap_cons, hpd]
  cases j with
  | zero => cases hx; exact hpd.symm
  | succ j => exact ih h.2 j x hx
theorem ZeY {T : List Value} {V : World} (hk : KS L kn) (hO : ∀ s, outB .any ops.toArray (PDs Ds).length i s = true → T[s]? = L[s]?) (hW : ∀ j, decide (j < (PDs Ds).length) && waits .any ops.toArray i j = true → ∃ v, T[dOf ops.toArray j]? = some v ∧ FP (PDs Ds) j v V)
  {x : Operand} {pd : PD} (h : rslv ops Ds kn i x = some pd) : pd.vp (Act.eval { tmps := T.toArray, defers := ds } x) V := by
 cases x with
 | const v => cases h; rfl
 | func f => cases h; rfl
 | global g => cases h
 | tmp s =>
  unfold rslv at h
  dsimp only at h
  cases hs : srcOf ops i s with
  | some j =>
   rw [hs] at h
   have h2 := List.find?_some hs
   simp only [Bool.and_eq_true, beq_iff_eq] at h2
   have hj : j < Ds.length := (List.getElem?_eq_some_iff.1 h).1
   obtain ⟨v, hv, hp⟩ := hW j (by rw [Zbg, ZfI]; simp [hj, h2.2])
   rw [dL_eq, h2.1] at hv
   rw [ZcH h] at hp
   rw [Zam hv]
   exact hp
  | none =>
   rw [hs] at h
   simp only at h
   split at h
   ·
    rename_i ho
    cases hl : kn.lookup s with
    | none => rw [hl] at h; cases h
    | some v =>
     rw [hl] at h
     cases h
     have h3 := (hO s (by rw [Zbg, Zmu]; exact ho)).trans (hk.get hl)
     rw [Zam h3]
     rfl
   ·
    cases h
theorem ZdI {T : List Value} {V : World} (ho : ops[i]? = some o) (hg : gdB ops.toArray Ds i = true) (hW : ∀ j, decide (j < (PDs Ds).length) && waits .any ops.toArray i j = true → ∃ v, T[dOf ops.toArray j]? = some v ∧ FP (PDs Ds) j v V) : Region.wanted o (yielded ops.toArray T.toArray) = true := by
 unfold gdB at hg
 rw [List.getElem?_toArray, ho] at hg
 simp only at hg
 cases hgd : o.guard with
 | none => unfold Region.wanted; rw [hgd]
 | some gb =>
  obtain ⟨g, b⟩ := gb
  rw [hgd] at hg
  simp only [Bool.and_eq_true, decide_eq_true_eq] at hg
  obtain ⟨⟨⟨h1, h2⟩, h3⟩, h4⟩ := hg
  rw [List.getElem?_toArray] at h4
  cases hog : ops[g]? with
  | none => rw [hog] at h4; cases h4
  | some og =>
   rw [hog] at h4
   obtain ⟨dg, hdg⟩ := Option.isSome_iff_exists.1 h4
   obtain ⟨v, hv, hp⟩ := hW g (by rw [Zbg]; simp [h1, h2])
   have hdo : dOf ops.toArray g = dg := by
    unfold dOf
    rw [List.getElem?_toArray, hog]
    simp [hdg]
   rw [hdo] at hv
   split at h3
   ·
    rename_i c hc
    rw [ZcH hc] at hp
    have e : Value.bool c = v := hp
    subst e
    have hcb : c = b := by simpa using h3
    rw [hcb] at hv
    exact Zii hgd hog hdg hv
   ·
    cases h3
def opAt (ops : List Oper) (i : Nat) : Oper := match ops[i]? with
 | some o => o
 | none => { dst := none, op := .ready 0, type := 0, pos := "", after := #[], guard := none }
def rsAt (ops : List Oper) (i : Nat) : List Operand := (Zbm (opAt ops i).op).getD []
def pdAt (Ds : List PD) (i : Nat) : PD := Ds.getD i (.pr fun _ _ => False)
def exAt (Ds : List PD) (i : Nat) : Value := match pdAt Ds i with
 | .ex v => v
 | .pr _ => undef
def exV : List PD → List Value
 | [] => []
 | .ex v :: ds => v :: exV ds
 | .pr _ :: ds => undef :: exV ds
def isEx : PD → Bool
 | .ex _ => true
 | .pr _ => false
theorem AR.exact {V : World} : ∀ {ds : List PD} {k : List Value → Prop}, ds.all isEx = true → k (exV ds) → AR V ds k
 | [], _, _, h => h
 | .ex v :: ds, k, ha, h => AR.exact (ds := ds) (k := fun vs => k (v :: vs)) (by simpa [isEx] using ha) h
 | .pr _ :: _, _, ha, _ => by simp [isEx] at ha
def chkOp (ops : List Oper) (Ds : List PD) (kn : List (Nat × Value)) (i : Nat) : Bool := match ops[i]? with
 | some o => o.dst.isSome && (match Zbm o.op with
   | some rs => okR ops Ds kn i rs && (rs.all fun x => match x with | .global _ => false | _ => true)
   | none => false) && gdB ops.toArray Ds i && decide (i < Ds.length)
 | none => false
theorem ZfL (h : chkOp ops Ds kn i = true) : ∃ d, ops[i]? = some (opAt ops i) ∧ (opAt ops i).dst = some d ∧ Zbm (opAt ops i).op = some (rsAt ops i) ∧ okR ops Ds kn i (rsAt ops i) = true ∧ ((rsAt ops i).all fun x => match x with | .global _ => false | _ => true) = true ∧ gdB ops.toArray Ds i = true ∧ Ds[i]? = some (pdAt Ds i) := by
 unfold chkOp at h
 cases ho : ops[i]? with
 | none => rw [ho] at h; cases h
 | some o =>
  rw [ho] at h
  simp only [Bool.and_eq_true, decide_eq_true_eq] at h
  obtain ⟨⟨⟨h1, h2⟩, h3⟩, h4⟩ := h
  have e : opAt ops i = o := by unfold opAt; rw [ho]
  obtain ⟨d, hd⟩ := Option.isSome_iff_exists.1 h1
  cases hr : Zbm o.op with
  | none => rw [hr] at h2; cases h2
  | some rs =>
   rw [hr] at h2
   simp only [Bool.and_eq_true] at h2
   have e2 : rsAt ops i = rs := by unfold rsAt; rw [e, hr]; rfl
   rw [e, e2]
   refine ⟨d, rfl, hd, hr, h2.1, h2.2, h3, ?_⟩
   unfold pdAt
   rw [List.getElem?_eq_getElem h4, List.getD_eq_getElem?_getD, List.getElem?_eq_getElem h4]
   rfl
theorem ok_x (rd : List PD) (hk : KS L kn) (h : ∀ V, I V → AR V rd (fun vs => ∃ v w', (execOp (rhoL (rsAt ops i) vs) (opAt ops i)).run P V = .ok (.value v) w' ∧ Below V.heap.size V w' ∧ (pdAt Ds i).vp v w'))
  (hrd : asOf ops Ds kn i (rsAt ops i) = rd := by kernel_rfl) (hc : chkOp ops Ds kn i = true := by kernel_rfl) : OpOK P .any ops.toArray Q I (PDs Ds) L ds i := by
 subst hrd
 obtain ⟨d, ho, hd, hr, hR, hng, hg, hpd⟩ := ZfL hc
 intro T V K hI hO hW hK
 have hAR := (h V hI).get (vs := (rsAt ops i).map (Act.eval { tmps := T.toArray, defers := ds })) (by rw [Zhq hR, List.length_map]) (fun j p u h1 h2 => by
  rw [List.getElem?_map] at h2
  cases hx : (rsAt ops i)[j]? with
  | none => rw [hx] at h2; cases h2
  | some x =>
   rw [hx] at h2
   cases h2
   rw [Zhr hR j x hx] at h1
   exact ZeY hk hO hW h1)
 obtain ⟨v, w', e, hb, hp⟩ := hAR
 rw [← ZfK hr (ρ := Act.eval { tmps := T.toArray, defers := ds }) (fun x hx => Ziy _ (fun _ => rfl) (fun _ => rfl) (rsAt ops i) x (Or.inl hx) (fun g hg' => by
  have := List.all_eq_true.1 hng x hx
  rw [hg'] at this
  cases this))] at e
 refine ZaE ho (fun K' hK' => ?_)
 rw [if_pos (ZdI ho hg hW)]
 unfold Oper.wp
 rw [e]
 show K' _ _
 have hdd : dOf ops.toArray i = d := by
  unfold dOf
  rw [List.getElem?_toArray, ho]
  simp [hd]
 rw [hd, Zaa]
 have := hK v w' hb (by rw [ZcH hpd]; exact hp) (fun ha => Zcs (by unfold isAl at ha; rw [List.getElem?_toArray, ho] at ha; exact ha) e)
 rw [hdd] at this
 exact hK' _ _ this
theorem Zk4 (h : isEx (pdAt Ds i) = true) : pdAt Ds i = .ex (exAt Ds i) := by
 unfold exAt
 cases hp : pdAt Ds i with
 | ex v => rfl
 | pr p => rw [hp] at h; cases h
theorem ok_q (hk : KS L kn) (hx : ∀ V, (execOp (rhoL (rsAt ops i) (exV (asOf ops Ds kn i (rsAt ops i)))) (opAt ops i)).run P V = .ok (.value (exAt Ds i)) V := by intro V; kernel_rfl)
  (hc : (chkOp ops Ds kn i && ((asOf ops Ds kn i (rsAt ops i)).all isEx && isEx (pdAt Ds i))) = true := by kernel_rfl) : OpOK P .any ops.toArray Q I (PDs Ds) L ds i := by
 simp only [Bool.and_eq_true] at hc
 refine ok_x _ hk (fun V _ => AR.exact hc.2.1 ⟨_, V, hx V, Below.refl _ _, ?_⟩) rfl hc.1
 rw [Zk4 hc.2.2]
 rfl
def ldT (o : Oper) : TypeId := match o.op with
 | .load t _ => t
 | _ => 0
theorem Ziz {w : World} {v : Value} {g k : Nat} (hp : asOf ops Ds kn i (rsAt ops i) = [.ex (.pointer (some ⟨g, k, none⟩))]) (hop : ∃ t x, (opAt ops i).op = .load t x) (hc : chkOp ops Ds kn i = true) (h : (loadVar (ldT (opAt ops i)) ⟨g, k, none⟩).run P w = .ok v w) :
  AR w (asOf ops Ds kn i (rsAt ops i)) (fun vs => (execOp (rhoL (rsAt ops i) vs) (opAt ops i)).run P w = .ok (.value v) w) := by
 obtain ⟨d, ho, hd, hr, hR, hng, hg, hpd⟩ := ZfL hc
 obtain ⟨t, x, hop⟩ := hop
 have e : rsAt ops i = [x] := by unfold rsAt; rw [hop]; rfl
 have et : ldT (opAt ops i) = t := by unfold ldT; rw [hop]
 rw [hp, e]
 rw [et] at h
 refine ZaB hop (a := ⟨g, k, none⟩) ?_ h
 rw [e] at hp hng
 cases x with
 | tmp s => simp [rhoL]
 | const c => simp [asOf, rslv] at hp; simp [rhoL, hp]
 | func f => simp [asOf, rslv] at hp
 | global g => simp at hng
def isLd (o : Oper) : Bool := match o.op with
 | .load _ _ => true
 | _ => false
theorem Zgz {o : Oper} (h : isLd o = true) : ∃ t x, o.op = .load t x := by
 unfold isLd at h
 cases hop : o.op with
 | load t x => exact ⟨t, x, rfl⟩
 | _ => rw [hop] at h; cases h
theorem ZdJ {B : Nat} {C : Array Value} {t0 : TypeId} (k : Nat) (hk : KS L kn) (hB : ∀ V, I V → BX V B C t0) (hx : asOf ops Ds kn i (rsAt ops i) = [.ex (.pointer (some ⟨B, k, none⟩))] := by kernel_rfl) (hv : C[k]? = some (exAt Ds i) := by kernel_rfl) (hA : ∀ w, (isAgg (ldT (opAt ops i))).run P w = .ok false w := by intro w; kernel_rfl)
  (hc : (chkOp ops Ds kn i && (isLd (opAt ops i) && isEx (pdAt Ds i))) = true := by kernel_rfl) : OpOK P .any ops.toArray Q I (PDs Ds) L ds i := by
 simp only [Bool.and_eq_true] at hc
 refine ok_x _ hk (fun V hI => AR.mono (Ziz (v := exAt Ds i) hx (Zgz hc.2.1) hc.1 (ld1 (hA V) (Zac (hB V hI).heap hv))) (fun _ h => ⟨_, V, h, Below.refl _ _, ?_⟩)) rfl hc.1
 rw [Zk4 hc.2.2]
 rfl
theorem Zi0 {g k : Nat} {v : Value} (hk : KS L kn) (hB : ∀ V, I V → KA V g k v) (hx : asOf ops Ds kn i (rsAt ops i) = [.ex (.pointer (some ⟨g, k, none⟩))] := by kernel_rfl) (hv : v = exAt Ds i := by kernel_rfl) (hA : ∀ w, (isAgg (ldT (opAt ops i))).run P w = .ok false w := by intro w; kernel_rfl)
  (hc : (chkOp ops Ds kn i && (isLd (opAt ops i) && isEx (pdAt Ds i))) = true := by kernel_rfl) : OpOK P .any ops.toArray Q I (PDs Ds) L ds i := by
 simp only [Bool.and_eq_true] at hc
 refine ok_x _ hk (fun V hI => AR.mono (Ziz (v := exAt Ds i) hx (Zgz hc.2.1) hc.1 (ld1 (hA V) (by rw [← hv]; exact (hB V hI).cell))) (fun _ h => ⟨_, V, h, Below.refl _ _, ?_⟩)) rfl hc.1
 rw [Zk4 hc.2.2]
 rfl
def aggOf : Value → Array Value
 | .agg C => C
 | _ => #[]
theorem ZaM {B : Nat} {C : Array Value} {t0 : TypeId} {td : TypeDesc} (k : Nat) (hk : KS L kn) (hB : ∀ V, I V → BX V B C t0) (hu : P.underlying (ldT (opAt ops i)) = some td) (hi : (P.info? (ldT (opAt ops i))).map (·.size) = some (aggOf (exAt Ds i)).size) (hx : asOf ops Ds kn i (rsAt ops i) = [.ex (.pointer (some ⟨B, k, none⟩))] := by kernel_rfl) (hv : (C.toList.drop k).take (aggOf (exAt Ds i)).toList.length = (aggOf (exAt Ds i)).toList := by kernel_rfl) (he : exAt Ds i = .agg (aggOf (exAt Ds i)) := by kernel_rfl) (hrow : td.isRow = true := by kernel_rfl)
  (hc : (chkOp ops Ds kn i && (isLd (opAt ops i) && isEx (pdAt Ds i))) = true := by kernel_rfl) : OpOK P .any ops.toArray Q I (PDs Ds) L ds i := by
 simp only [Bool.and_eq_true] at hc
 refine ok_x _ hk (fun V hI => AR.mono (Ziz (v := exAt Ds i) hx (Zgz hc.2.1) hc.1 (by rw [he]; exact loadC _ B k _ _ td (Zix (hB V hI).heap hv) hu hrow hi)) (fun _ h => ⟨_, V, h, Below.refl _ _, ?_⟩)) rfl hc.1
 rw [Zk4 hc.2.2]
 rfl
def clF (o : Oper) : Nat := match o.op with
 | .call { callee := .value (.func f), .. } => f
 | _ => 0
def clA (o : Oper) : Array Operand := match o.op with
 | .call { args := a, .. } => a
 | _ => #[]
def isC (o : Oper) : Bool := match o.op with
 | .call { callee := .value (.func _), .. } => true
 | _ => false
theorem isC_of {o : Oper} (h : isC o = true) : ∃ tys, o.op = .call { callee := .value (.func (clF o)), args := clA o, argTypes := tys } := by
 unfold isC at h
 unfold clF clA
 split at h
 ·
  rename_i hop
  rw [hop]
  exact ⟨_, rfl⟩
 ·
  cases h
def chkC (ops : List Oper) (Ds : List PD) (kn : List (Nat × Value)) (i : Nat) : Bool := match ops[i]? with
 | some o => o.dst.isSome && okR ops Ds kn i (clA o).toList && gdB ops.toArray Ds i && decide (i < Ds.length)
 | none => false
theorem ZhH (h : chkC ops Ds kn i = true) : ∃ d, ops[i]? = some (opAt ops i) ∧ (opAt ops i).dst = some d ∧ okR ops Ds kn i (clA (opAt ops i)).toList = true ∧ gdB ops.toArray Ds i = true ∧ Ds[i]? = some (pdAt Ds i) := by
 unfold chkC at h
 cases ho : ops[i]? with
 | none => rw [ho] at h; cases h
 | some o =>
  rw [ho] at h
  simp only [Bool.and_eq_true, decide_eq_true_eq] at h
  obtain ⟨⟨⟨h1, h2⟩, h3⟩, h4⟩ := h
  have e : opAt ops i = o := by unfold opAt; rw [ho]
  obtain ⟨d, hd⟩ := Option.isSome_iff_exists.1 h1
  rw [e]
  refine ⟨d, rfl, hd, h2, h3, ?_⟩
  unfold pdAt
  rw [List.getElem?_eq_getElem h4, List.getD_eq_getElem?_getD, List.getElem?_eq_getElem h4]
  rfl
theorem ok_c (rd : List PD) (hm : ∀ av w, (callFunc (clF (opAt ops i)) av).run P w = .ok (.enter (clF (opAt ops i)) av) w) (hk : KS L kn)
  (h : ∀ V, I V → AR V rd (fun vs => Calls P (clF (opAt ops i)) vs.toArray V fun e w' => (∃ v, e = .returned v ∧ (pdAt Ds i).vp v w') ∧ Below V.heap.size V w'))
  (hrd : asOf ops Ds kn i (clA (opAt ops i)).toList = rd := by kernel_rfl) (hc : (chkC ops Ds kn i && isC (opAt ops i)) = true := by kernel_rfl) : OpOK P .any ops.toArray Q I (PDs Ds) L ds i := by
 subst hrd
 simp only [Bool.and_eq_true] at hc
 obtain ⟨d, ho, hd, hR, hg, hpd⟩ := ZhH hc.1
 obtain ⟨tys, hop⟩ := isC_of hc.2
 intro T V K hI hO hW hK
 have hAR := (h V hI).get (vs := (clA (opAt ops i)).toList.map (Act.eval { tmps := T.toArray, defers := ds })) (by rw [Zhq hR, List.length_map]) (fun j p u h1 h2 => by
  rw [List.getElem?_map] at h2
  cases hx : (clA (opAt ops i)).toList[j]? with
  | none => rw [hx] at h2; cases h2
  | some x =>
   rw [hx] at h2
   cases h2
   rw [Zhr hR j x hx] at h1
   exact ZeY hk hO hW h1)
 refine ZaE ho (fun K' hK' => ?_)
 rw [if_pos (ZdI ho hg hW)]
 have hdd : dOf ops.toArray i = d := by
  unfold dOf
  rw [List.getElem?_toArray, ho]
  simp [hd]
 refine ZaN (clA (opAt ops i)) tys d hop hd (av := ((clA (opAt ops i)).toList.map (Act.eval { tmps := T.toArray, defers := ds })).toArray) (by rw [← List.map_toArray]) hm hAR ?_
 rintro e w' ⟨⟨v, rfl, hp⟩, hb⟩
 have := hK v w' hb (by rw [ZcH hpd]; exact hp) (fun ha => by unfold isAl isAlO at ha; rw [List.getElem?_toArray, ho] at ha; simp only [hop] at ha; cases ha)
 rw [hdd] at this
 exact ⟨v, rfl, hK' _ _ this⟩
end
def nextK (dsts : List Nat) (vals : List Value) (kn : List (Nat × Value)) (live : List Nat) : List (Nat × Value) :=
 live.filterMap fun s => match (dsts.zip vals).lookup s with
  | some v => some (s, v)
  | none => (kn.lookup s).map fun v => (s, v)
theorem ZdK : ∀ (dsts : List Nat) (vals L : List Value), (TV dsts vals L).length = L.length
 | [], _, _ => by simp [TV]
 | _ :: _, [], _ => by simp [TV]
 | d :: ds, v :: vs, L => by
  show (TV ds vs (L.set d v)).length = _
  rw [ZdK ds vs]
  simp
theorem Zg0 : ∀ (dsts : List Nat) (vals L : List Value) (s : Nat), (dsts.zip vals).lookup s = none → (TV dsts vals L)[s]? = L[s]?
 | [], _, _, _, _ => by simp [TV]
 | _ :: _, [], _, _, _ => by simp [TV]
 | d :: ds, v :: vs, L, s, h => by
  rw [List.zip_cons_cons, List.lookup_cons] at h
  show (TV ds vs (L.set d v))[s]? = _
  cases hs : (s == d) with
  | true => rw [hs] at h; cases h
  | false =>
   rw [hs] at h
   rw [Zg0 ds vs _ s h, List.getElem?_set_ne (fun e => by rw [e] at hs; simp at hs)]
theorem Zi1 : ∀ (dsts : List Nat) (vals L : List Value) (s : Nat) (v : Value), dsts.Nodup → (∀ d ∈ dsts, d < L.length) → (dsts.zip vals).lookup s = some v → (TV dsts vals L)[s]? = some v
 | [], _, _, _, _, _, _, h => by cases h
 | _ :: _, [], _, _, _, _, _, h => by cases h
 | d :: ds, v :: vs, L, s, u, hn, hl, h => by
  rw [List.zip_cons_cons, List.lookup_cons] at h
  show (TV ds vs (L.set d v))[s]? = _
  obtain ⟨h1, h2⟩ := List.nodup_cons.1 hn
  cases hs : (s == d) with
  | true =>
   rw [hs] at h
   cases h
   have e : s = d := by simpa using hs
   subst e
   have hnone : (ds.zip vs).lookup s = none := by
    rw [List.lookup_eq_none_iff]
    intro p hp
    have := (List.of_mem_zip hp).1
    simp only [ne_eq, bne_iff_ne]
    intro e
    exact h1 (e ▸ this)
   rw [Zg0 ds vs _ s hnone, List.getElem?_set_self (hl s (List.mem_cons_self))]
  | false =>
   rw [hs] at h
   exact Zi1 ds vs _ s u h2 (fun d' hd' => by rw [List.length_set]; exact hl d' (List.mem_cons_of_mem _ hd')) h
theorem KS.next {L : List Value} {kn : List (Nat × Value)} {dsts : List Nat} {vals : List Value} (hk : KS L kn) (hn : dsts.Nodup) (hl : ∀ d ∈ dsts, d < L.length) : ∀ live, KS (TV dsts vals L) (nextK dsts vals kn live)
 | [] => trivial
 | s :: live => by
  have ih := KS.next (vals := vals) hk hn hl live
  unfold nextK at ih ⊢
  rw [List.filterMap_cons]
  cases hz : (dsts.zip vals).lookup s with
  | some v => exact ⟨Zi1 dsts vals L s v hn hl hz, ih⟩
  | none =>
   simp only
   cases hs : kn.lookup s with
   | none => exact ih
   | some v => exact ⟨(Zg0 dsts vals L s hz).trans (hk.get hs), ih⟩
def EndD (w : World) : List PD → (List Value → Prop) → Prop
 | [], k => k []
 | .ex v :: Ds, k => EndD w Ds (fun vs => k (v :: vs))
 | .pr p :: Ds, k => ∀ u, p u w → EndD w Ds (fun vs => k (u :: vs))
theorem EndD.to {w : World} : ∀ {Ds : List PD} {k : List Value → Prop}, EndD w Ds k → EndP w (PDs Ds) k
 | [], _, h => h
 | .ex v :: Ds, k, h => fun u hu => by
  have e : v = u := hu
  subst e
  exact EndD.to (Ds := Ds) (k := fun vs => k (v :: vs)) h
 | .pr p :: Ds, k, h => fun u hu => EndD.to (Ds := Ds) (k := fun vs => k (u :: vs)) (h u hu)
theorem EndP.mono {w : World} : ∀ {Ps : List VP} {k k' : List Value → Prop}, EndP w Ps k → (∀ vs, k vs → k' vs) → EndP w Ps k'
 | [], _, _, h, hm => hm _ h
 | _ :: Ps, _, _, h, hm => fun u hu => EndP.mono (Ps := Ps) (h u hu) (fun vs => hm (u :: vs))
theorem ZbN {md : Region.Mode} {ops : Array Oper} {n m : Nat} (h : chkD md ops n m = true) : ((List.range n).map (dOf ops)).Nodup ∧ ∀ d ∈ (List.range n).map (dOf ops), d < m := by
 unfold chkD at h
 simp only [Bool.and_eq_true] at h
 have hB := h.1.2
 have hne : ∀ i j, i < n → j < i → dOf ops j ≠ dOf ops i := fun i j hi hj => by
  have h := List.all_eq_true.1 hB i (List.mem_range.2 hi)
  simp only [Bool.and_eq_true] at h
  have h2 := List.all_eq_true.1 h.2 j (List.mem_range.2 hj)
  simpa using h2
 constructor
 ·
  rw [List.nodup_iff_pairwise_ne, List.pairwise_map]
  refine List.Pairwise.imp_of_mem (R := (· < ·)) (fun {a b} ha hb hlt => hne b a (List.mem_range.1 hb) hlt) List.pairwise_lt_range
 ·
  intro d hd
  obtain ⟨i, hi, rfl⟩ := List.mem_map.1 hd
  have h := List.all_eq_true.1 hB i hi
  simp only [Bool.and_eq_true, decide_eq_true_eq] at h
  exact h.1
section
variable {P : Program} {id : Nat} {ops : Array Oper} {b : Bool} {Q : Exit → Act → World → Prop} {W : World} {L : List Value} {ds : List Deferred} {m : Nat} {kn : List (Nat × Value)}
abbrev Up (W : World) : World → Prop := fun V => Below W.heap.size W V
theorem ZbI {W : World} : ∀ w w', Up W w → Below w.heap.size w w' → Up W w' := fun _ _ h hb => h.trans (hb.mono h.size)
theorem ZaA (Ds : List PD) (live : List Nat) (hL : L.length = m) (hk : KS L kn) (hst : StabD Ds) (hop : AllOK (OpOK P .any ops Q (Up W) (PDs Ds) L ds) (PDs Ds) 0)
  (hend : ∀ w, Up W w → EndD w Ds (fun vals => ∀ L', L'.length = m → KS L' (nextK ((List.range Ds.length).map (dOf ops)) vals kn live) → Q .normal { tmps := L'.toArray, defers := ds } w))
  (hm : P.follows .mixedOrders = true := by kernel_rfl) (hchk : (chkD .any ops Ds.length m && decide (Ds.length = ops.size)) = true := by kernel_rfl) :
  (Code.region id ops b).wp P Q { tmps := L.toArray, defers := ds } W := by
 have hc := hchk
 simp only [Bool.and_eq_true] at hc
 obtain ⟨h1, h2⟩ := ZbN hc.1
 refine Zgw (I := Up W) (PDs Ds) hm (by rw [Zbg, hL]; exact hchk) ZbI hst.all (Below.refl _ _) (Below.refl _ _).drew hop (fun w hw => EndP.mono (hend w hw).to (fun vs h l' hl' => ?_))
 subst hl'
 rw [Zbg]
 exact h _ (by rw [ZdK, hL]) (hk.next h1 (by rw [hL]; exact h2) live)
theorem Zbi (Ds : List PD) (live : List Nat) (hL : L.length = m) (hk : KS L kn) (hst : StabD Ds) (hop : AllOK (OpOK P .any ops Q (Up W) (PDs Ds) L ds) (PDs Ds) 0)
  (hend : ∀ w, Up W w → EndD w Ds (fun vals => ∀ L', L'.length = m → KS L' (nextK ((List.range Ds.length).map (dOf ops)) vals kn live) → wpOp P ops Q Ds.length (fun a w => Q .normal a w) { tmps := L'.toArray, defers := ds } w))
  (hm : P.follows .mixedOrders = true := by kernel_rfl) (hchk : (chkD .any ops Ds.length m && decide (Ds.length + 1 = ops.size)) = true := by kernel_rfl) :
  (Code.region id ops b).wp P Q { tmps := L.toArray, defers := ds } W := by
 have hc := hchk
 simp only [Bool.and_eq_true] at hc
 obtain ⟨h1, h2⟩ := ZbN hc.1
 refine ZfF (I := Up W) (PDs Ds) hm (by rw [Zbg, hL]; exact hchk) ZbI hst.all (Below.refl _ _) (Below.refl _ _).drew hop (fun w hw => EndP.mono (hend w hw).to (fun vs h l' hl' => ?_))
 subst hl'
 rw [Zbg]
 exact h _ (by rw [ZdK, hL]) (hk.next h1 (by rw [hL]; exact h2) live)
theorem ZfM (Ds : List PD) (live : List Nat) (hL : L.length = m) (hk : KS L kn) (hst : StabD Ds) (hop : AllOK (OpOK P .any ops Q (Up W) (PDs Ds) L ds) (PDs Ds) 0)
  (hend : ∀ w, Up W w → EndD w Ds (fun vals => Apt ops Ds.length vals → ∀ L', L'.length = m → KS L' (nextK ((List.range Ds.length).map (dOf ops)) vals kn live) → wpOp P ops Q Ds.length (fun a w => wpOp P ops Q (Ds.length + 1) (fun a w => Q .normal a w) a w) { tmps := L'.toArray, defers := ds } w))
  (hm : P.follows .mixedOrders = true := by kernel_rfl) (hchk : (chkD .any ops Ds.length m && (decide (Ds.length + 2 = ops.size) && waits .any ops (Ds.length + 1) Ds.length)) = true := by kernel_rfl) :
  (Code.region id ops b).wp P Q { tmps := L.toArray, defers := ds } W := by
 have hc := hchk
 simp only [Bool.and_eq_true] at hc
 obtain ⟨h1, h2⟩ := ZbN hc.1
 refine ZeQ (I := Up W) (PDs Ds) hm (by rw [Zbg, hL]; exact hchk) ZbI hst.all (Below.refl _ _) (Below.refl _ _).drew hop (fun w hw => EndP.mono (hend w hw).to (fun vs h ha l' hl' => ?_))
 subst hl'
 rw [Zbg] at ha ⊢
 exact h ha _ (by rw [ZdK, hL]) (hk.next h1 (by rw [hL]; exact h2) live)
end
structure BXs (w : World) (l : List (Nat × Array Value × TypeId)) : Prop where
 all : ∀ (j : Nat) b C t, l[j]? = some (b, C, t) → BX w b C t
 nd : (l.map (·.1)).Nodup
theorem BXs.nil (w : World) : BXs w [] := ⟨fun _ _ _ _ h => (by cases h), List.nodup_nil⟩
theorem BXs.moved {w w' : World} {l : List (Nat × Array Value × TypeId)} (h : BXs w l) (hb : Below w.heap.size w w') : BXs w' l := ⟨fun j b C t hj => (h.all j b C t hj).moved hb, h.nd⟩
theorem BXs.get {w : World} {l : List (Nat × Array Value × TypeId)} {b : Nat} {C : Array Value} {t : TypeId} (h : BXs w l) (j : Nat) (hj : l[j]? = some (b, C, t) := by rfl) : BX w b C t := h.all j b C t hj
theorem BXs.cons {w w' : World} {l : List (Nat × Array Value × TypeId)} {b : Nat} {C : Array Value} {t : TypeId} (h0 : BXs w l) (h : BXs w' l) (hl : w.heap.size ≤ b) (hb : BX w' b C t) : BXs w' ((b, C, t) :: l) := by
 refine ⟨fun j b' C' t' hj => ?_, ?_⟩
 ·
  cases j with
  | zero => cases hj; exact hb
  | succ j => exact h.all j b' C' t' hj
 ·
  rw [List.map_cons, List.nodup_cons]
  refine ⟨fun hm => ?_, h.nd⟩
  obtain ⟨⟨b', C', t'⟩, hx, e⟩ := List.mem_map.1 hm
  obtain ⟨j, hj⟩ := List.mem_iff_getElem?.1 hx
  have := Zab (h0.all j b' C' t' hj).heap
  simp only at e
  omega
theorem BXs.put {w w' : World} {l : List (Nat × Array Value × TypeId)} {b : Nat} {D : Array Value} {t : TypeId} (h : BXs w l) (j : Nat) {C : Array Value} {t0 : TypeId} (hb : But b w w') (hx : BX w' b D t) (hj : l[j]? = some (b, C, t0) := by rfl) : BXs w' (l.set j (b, D, t)) := by
 have hlt := (List.getElem?_eq_some_iff.1 hj).1
 have e : (l.set j (b, D, t)).map (·.1) = l.map (·.1) := by
  rw [List.map_set]
  refine List.ext_getElem? fun k => ?_
  by_cases hk : j = k
  ·
   subst hk
   rw [List.getElem?_set_self (by simpa using hlt), List.getElem?_map, hj]
   rfl
  ·
   rw [List.getElem?_set_ne hk]
 refine ⟨fun k b' C' t' hk => ?_, by rw [e]; exact h.nd⟩
 by_cases hjk : j = k
 ·
  subst hjk
  rw [List.getElem?_set_self hlt] at hk
  cases hk
  exact hx
 ·
  rw [List.getElem?_set_ne hjk] at hk
  refine ⟨(hb.same b' (fun e' => hjk ?_)).trans (h.all k b' C' t' hk).heap⟩
  subst e'
  have h1 : (l.map (·.1))[j]? = some b' := by rw [List.getElem?_map, hj]; rfl
  have h2 : (l.map (·.1))[k]? = some b' := by rw [List.getElem?_map, hk]; rfl
  exact (List.getElem?_inj (by simpa using hlt) h.nd).1 (h1.trans h2.symm)
theorem KS.set1 {T : List Value} {d : Nat} {v : Value} (hd : d < T.length) : ∀ {kn : List (Nat × Value)}, KS T kn → (kn.map (·.1)).contains d = false → KS (T.set d v) kn
 | [], _, _ => trivial
 | p :: r, h, hc => by
  simp only [List.map_cons, List.contains_cons, Bool.or_eq_false_iff, beq_eq_false_iff_ne, ne_eq] at hc
  exact ⟨by rw [List.getElem?_set_ne (fun e => hc.1 e)]; exact h.1, KS.set1 hd h.2 hc.2⟩
theorem BX.but {w w' : World} {b b' : Nat} {C : Array Value} {t : TypeId} (h : BX w b' C t) (hb : But b w w') (hne : b' ≠ b) : BX w' b' C t := ⟨(hb.same _ hne).trans h.heap⟩
theorem BX.lt {w : World} {b : Nat} {C : Array Value} {t : TypeId} (h : BX w b C t) : b < w.heap.size := Zab h.heap
theorem _root_.Go.Calls.told {P : Program} {f : Nat} {av : Array Value} {w : World} {X : Value} (h : Calls P f av w fun e w' => e = .returned X ∧ Below w.heap.size w w') : Calls P f av w fun e w' => (∃ v, e = .returned v ∧ X = v) ∧ Below w.heap.size w w' :=
 h.mono fun _ _ ⟨h1, h2⟩ => ⟨⟨X, h1, rfl⟩, h2⟩
theorem KS.pick {L : List Value} {a : List (Nat × Value)} (h : KS L a) (b : List (Nat × Value)) (e : nextK [] [] a (b.map (·.1)) = b) : KS L b := by
 have := KS.next (dsts := []) (vals := []) h List.nodup_nil (fun _ h => by cases h) (b.map (·.1))
 rw [e] at this
 exact this
theorem ZaW {P : Program} {Q : Exit → Act → World → Prop} {c : Code} {w : World} {l : List Value} (m : Nat) (kn : List (Nat × Value)) (hl : l.length = m) (hk : KS l kn) (h : ∀ L, L.length = m → KS L kn → c.wp P Q { tmps := L.toArray, defers := [] } w) : c.wp P Q { tmps := l.toArray, defers := [] } w := h l hl hk
theorem Ze2 {P : Program} {Q : Exit → Act → World → Prop} {L : List Value} {ds : List Deferred} {w : World} {kn : List (Nat × Value)} {s : Nat} {x y : Code} (hk : KS L kn) (h : x.wp P Q { tmps := L.toArray, defers := ds } w) (hs : kn.lookup s = some (.bool true) := by rfl) : (Code.cond (.tmp s) x y).wp P Q { tmps := L.toArray, defers := ds } w := wp_cond_true (Zam (hk.get hs)) h
theorem Zdj {P : Program} {Q : Exit → Act → World → Prop} {L : List Value} {ds : List Deferred} {w : World} {kn : List (Nat × Value)} {s : Nat} {x y : Code} (hk : KS L kn) (h : y.wp P Q { tmps := L.toArray, defers := ds } w) (hs : kn.lookup s = some (.bool false) := by rfl) : (Code.cond (.tmp s) x y).wp P Q { tmps := L.toArray, defers := ds } w := wp_cond_false (Zam (hk.get hs)) h
theorem ret2 {P : Program} {fn : Func} {R : Ending → World → Prop} {L : List Value} {w : World} {kn : List (Nat × Value)} {j : Nat} {v : Value} (hk : KS L kn) (h : R (.returned v) w) (hf : fn.results = #[.tmp j] := by rfl) (hl : kn.lookup j = some v := by rfl) : bodyPost P fn R .ret { tmps := L.toArray, defers := [] } w := Zmn j v hf (hk.get hl) h
theorem ZdL {P : Program} {op : Oper} {ρ : Operand → Value} (t t2 : TypeId) (x y : Operand) (ho : op.op = .binOp .eql t x y t2) {A B : Array Value} (hx : ρ x = .agg A) (hy : ρ y = .agg B) {b : Bool}
  (hq : P.eqGuardType P.depth t = false) (w : World) (he : (Op.equalIn 10000 t (.agg A) (.agg B)).run P w = .ok b w) : (execOp ρ op).run P w = .ok (.value (.bool b)) w := by
 unfold execOp
 have hg : (eqGuard BinOp.eql t x y (.agg A) (.agg B)).run P w = .ok () w := by
  unfold eqGuard
  simp [Sem.run_bind, show (program : Sem Program).run P w = .ok P w from rfl, Result.andThen, hq]
 simp only [ho, hx, hy, Sem.run_bind, hg, Result.andThen]
 rw [show (binOp BinOp.eql t (.agg A) (.agg B)).run P w = .ok (.bool b) w by simp only [binOp, Op.equal, Op.maxDepth, Sem.run_bind, he, Result.andThen, Sem.run_pure]]
 rfl
theorem Zi2 {P : Program} {op : Oper} {ρ : Operand → Value} (t t2 : TypeId) (x y : Operand) (ho : op.op = .binOp .neq t x y t2) {A B : Array Value} (hx : ρ x = .agg A) (hy : ρ y = .agg B) {b : Bool}
  (hq : P.eqGuardType P.depth t = false) (w : World) (he : (Op.equalIn 10000 t (.agg A) (.agg B)).run P w = .ok b w) : (execOp ρ op).run P w = .ok (.value (.bool (!b))) w := by
 unfold execOp
 have hg : (eqGuard BinOp.neq t x y (.agg A) (.agg B)).run P w = .ok () w := by
  unfold eqGuard
  simp [Sem.run_bind, show (program : Sem Program).run P w = .ok P w from rfl, Result.andThen, hq]
 simp only [ho, hx, hy, Sem.run_bind, hg, Result.andThen]
 rw [show (binOp BinOp.neq t (.agg A) (.agg B)).run P w = .ok (.bool (!b)) w by simp only [binOp, Op.equal, Op.maxDepth, Sem.run_bind, he, Result.andThen, Sem.run_pure]]
 rfl
end Go.Proofs.YtcbdbnfgnonacaaGreat
