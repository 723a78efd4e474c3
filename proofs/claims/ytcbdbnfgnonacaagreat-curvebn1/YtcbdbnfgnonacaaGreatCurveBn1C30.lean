/-
  Sums, negatives and multiples of any points of bn254's E1, and whether they may be, are the document's, whatever the input.
-/
import Derived.Test.YtcbdbnfgnonacaaGreatCurveBn1C29
import Derived.Test.YtcbdbnfgnonacaaGreatRows
import Derived.ProofKit
import Derived.SizedLaws
import Derived.OpenShut
import Derived.Deep.CondSized
set_option maxHeartbeats 4000000
set_option maxRecDepth 100000
namespace Go.Proofs.YtcbdbnfgnonacaaGreat
open Go.RowKit Go.Shelf
open P4 (P3 dTimes dAdd)
theorem law_A {b8 : Bool} {a b c d a2 b2 c2 d2 k kk : Nat} {i j : Bool} {g gr eA : Int} {dA dN dM qA qN qM : P3} (hkk0 : kk = shortN k) (hkk : kk < 2 ^ 256) (h8 : decide (limb kk 0 % 8 = 0) = b8) (hg : goodD nBnP (lo4 a) (lo4 c) 3 i = g) (hgr : (if g = 0 then (if (dTimes nBnP (lo4 a) (lo4 c) i nBnR 256).2.2 = true then 0 else 72) else g) = gr) (heA : (if goodD nBnP (lo4 a) (lo4 c) 3 i = 0 then goodD nBnP (lo4 a2) (lo4 c2) 3 j else goodD nBnP (lo4 a) (lo4 c) 3 i) = eA) (hdA : dAdd nBnP (lo4 a) (lo4 c) i (lo4 a2) (lo4 c2) j = dA) (hdN : dNeg nBnP (lo4 a) (lo4 c) i = dN) (hdM : dTimes nBnP (lo4 a) (lo4 c) i kk 256 = dM) (hqA : resP eA dA = qA) (hqN : resP g dN = qN) (hqM : resP g dM = qM) (hlqA : qA.1 < W4.R ∧ qA.2.1 < W4.R) (hlqN : qN.1 < W4.R ∧ qN.2.1 < W4.R) (hlqM : qM.1 < W4.R ∧ qM.2.1 < W4.R) (w : World) : Calls Tryz.prog 4 #[.agg (pn a b c d i), .agg (pn a2 b2 c2 d2 j), .agg (W4.cs (limb k))] w fun r w' => r = .returned (.bool true) ∧ Below w.heap.size w w' := by
 go_enter Tryz.func4, Tryz.ntmps4
 refine Zae (fun K0 HK0 => ?_)
 go_wp2_with fail
 refine HK0.out _ _ ?_
 clear HK0 K0
 refine Zaj (fun W0 hW0 => ?_)
 have hb3 : W0.heap[w.heap.size]? = some (.cells (pn a b c d i) 30 (0, 0)) := by
   rw [hW0, Zah _ _ (by rw [World.size_alloc, World.size_alloc]; omega), Zah _ _ (by rw [World.size_alloc]; omega)]
   exact Zaf _ _
 have hb4 : W0.heap[w.heap.size + 1]? = some (.cells (pn a2 b2 c2 d2 j) 30 (0, 0)) := by
   rw [hW0, Zah _ _ (by rw [World.size_alloc, World.size_alloc]; omega)]
   exact Zat _ _ _
 have hb5 : W0.heap[w.heap.size + 1 + 1]? = some (.cells #[.int .u64 (limb k 0), .int .u64 (limb k 1), .int .u64 (limb k 2), .int .u64 (limb k 3)] 65 (0, 0)) := by
   rw [hW0]
   exact ZaG _ _ _ _
 have hbw : Below w.heap.size w W0 := by
   rw [hW0]
   repeat first | exact Below.refl _ _ | (refine Below.alloc ?_ (by simp <;> omega) _)
 have HB3 := hideP hb3
 have HB4 := hideP hb4
 have HB5 := hideP hb5
 have HBW0 := hideP hbw
 clear hW0 hb3 hb4 hb5 hbw
 refine Zae (fun K1 HK1 => ?_)
 go_wp2_with (go_at_call 12; refine (Zki _).mono ?_; rintro e w1 ⟨rfl, hb1⟩; have HA1 := hideP hb1; clear hb1)
 refine HK1.out _ _ ?_
 clear HK1 K1
 have hr5 := (HA1.out.block _ (Zab HB5.out)).trans HB5.out
 have e0 : w1.cell? ⟨w.heap.size + 1 + 1, 0, none⟩ = some _ := Zac hr5 rfl
 have e1 : w1.cell? ⟨w.heap.size + 1 + 1, 1, none⟩ = some _ := Zac hr5 rfl
 have e2 : w1.cell? ⟨w.heap.size + 1 + 1, 2, none⟩ = some _ := Zac hr5 rfl
 have e3 : w1.cell? ⟨w.heap.size + 1 + 1, 3, none⟩ = some _ := Zac hr5 rfl
 have HR5 := hideP hr5
 clear hr5
 refine Zae (fun K2 HK2 => ?_)
 go_wp2_with (go_at_call 32; refine (Zkk k _).mono ?_; rintro e w2 ⟨rfl, hb2⟩; rw [show W4.cs (limb (shortN k)) = #[.int .u64 (limb (shortN k) 0), .int .u64 (limb (shortN k) 1), .int .u64 (limb (shortN k) 2), .int .u64 (limb (shortN k) 3)] from rfl]; have hs5 := (hb2.block _ (Zab HR5.out)).trans HR5.out; have f0 : w2.cell? ⟨w.heap.size + 1 + 1, 0, none⟩ = some _ := Zac hs5 rfl; have f1 : w2.cell? ⟨w.heap.size + 1 + 1, 1, none⟩ = some _ := Zac hs5 rfl; have f2 : w2.cell? ⟨w.heap.size + 1 + 1, 2, none⟩ = some _ := Zac hs5 rfl; have f3 : w2.cell? ⟨w.heap.size + 1 + 1, 3, none⟩ = some _ := Zac hs5 rfl; have fr : ∀ o, w2.frozen? ⟨w.heap.size + 1 + 1, o, none⟩ = false := (fun o => Zap hs5); have HS5 := hideP hs5; have HA2 := hideP hb2; clear hb2 hs5)
 refine HK2.out _ _ ?_
 clear HK2 K2 e0 e1 e2 e3 f0 f1 f2 f3 fr
 refine Zaj (fun W3 hW3 => ?_)
 have hc5 : W3.heap[w.heap.size + 1 + 1]? = some (.cells (W4.cs (limb (shortN k))) 65 (0, 0)) := by
   rw [hW3]
   exact Zaw (o := 3) (Zaw (o := 2) (Zaw (o := 1) (Zaw (o := 0) HS5.out _) _) _) _
 have hb23 : Below (w.heap.size + 1 + 1) w2 W3 := by
   rw [hW3]
   repeat first | exact Below.refl _ _ | (refine Below.setCell ?_ (by first | exact Nat.le_refl _ | simp) _)
 have HC5 := hideP hc5
 have HBW3 : Hid (Below w.heap.size w W3) := HBW0.out.trans (((HA1.out.trans (HA2.out.mono HA1.out.size)).mono HBW0.out.size).trans (hb23.mono (by omega)))
 have hsz := Zab HB5.out
 have hb02 : Below W0.heap.size W0 w2 := HA1.out.trans (HA2.out.mono HA1.out.size)
 have HC3 : Hid (W3.heap[w.heap.size]? = some (.cells (pn a b c d i) 30 (0, 0))) := (hb23.block _ (by omega)).trans ((hb02.block _ (Zab HB3.out)).trans HB3.out)
 have HC4 : Hid (W3.heap[w.heap.size + 1]? = some (.cells (pn a2 b2 c2 d2 j) 30 (0, 0))) := (hb23.block _ (by omega)).trans ((hb02.block _ (Zab HB4.out)).trans HB4.out)
 clear hW3 hc5 hb23 hb02 hsz HB3 HB4 HB5 HBW0 HA1 HR5 HA2 HS5
 refine Zae (fun K3 HK3 => ?_)
 go_wp2_with (first | (go_at_call 13; refine (bn_L _).mono ?_; rintro e w4 ⟨⟨cv, rfl, hm⟩, hb4⟩; have HM4 := hideP hm; have HA4 := hideP hb4; clear hm hb4) | (go_at_call 18; refine (dv_any _).mono ?_; rintro e w5 ⟨⟨ov, rfl, mv, fo, tv, bv, rv, xv, yv, rfl, ⟨⟨ma, ml, mc, rfl⟩, ⟨ta, tl, tc, rfl⟩, ⟨ba, bl, bc, rfl⟩, ⟨ra, rl, rc, rfl⟩, ⟨xa, xl, xc, rfl⟩, ⟨ya, yl, yc, rfl⟩⟩, hD⟩, hb5⟩; have HD5 := hideP hD; have HA5 := hideP hb5; clear hD hb5))
 refine HK3.out _ _ ?_
 clear HK3 K3
 have hb45 : Below W3.heap.size W3 w5 := HA4.out.trans (HA5.out.mono HA4.out.size)
 have hn5 : Below w5.heap.size w5 (w5.alloc (.cells #[.slice ma ml mc, .int .u64 (fo : Int), .slice ta tl tc, .int .i64 1, .slice ba bl bc, .slice ra rl rc, .slice xa xl xc, .slice ya yl yc, .bool false] 44)) := (Below.refl _ _).alloc (Nat.le_refl _) _
 have hb35 := hb45.trans (hn5.mono hb45.size)
 have HC : Hid (MD4 cv (w5.alloc (.cells #[.slice ma ml mc, .int .u64 (fo : Int), .slice ta tl tc, .int .i64 1, .slice ba bl bc, .slice ra rl rc, .slice xa xl xc, .slice ya yl yc, .bool false] 44))) := (HM4.out.moved HA5.out).moved hn5
 have HD : Hid (DCv (w5.alloc (.cells #[.slice ma ml mc, .int .u64 (fo : Int), .slice ta tl tc, .int .i64 1, .slice ba bl bc, .slice ra rl rc, .slice xa xl xc, .slice ya yl yc, .bool false] 44)) (.agg #[.slice ma ml mc, .int .u64 (fo : Int), .slice ta tl tc, .int .i64 1, .slice ba bl bc, .slice ra rl rc, .slice xa xl xc, .slice ya yl yc, .bool false]) 4 nBnP 3 nBnR 1 2) := HD5.out.moved hn5
 have HBW : Hid (Up w (w5.alloc (.cells #[.slice ma ml mc, .int .u64 (fo : Int), .slice ta tl tc, .int .i64 1, .slice ba bl bc, .slice ra rl rc, .slice xa xl xc, .slice ya yl yc, .bool false] 44))) := HBW3.out.trans (hb35.mono HBW3.out.size)
 obtain ⟨C3, E3⟩ : ∃ C, C = w.heap.size := ⟨_, rfl⟩
 obtain ⟨C4, E4⟩ : ∃ C, C = w.heap.size + 1 := ⟨_, rfl⟩
 obtain ⟨C5, E5⟩ : ∃ C, C = w.heap.size + 1 + 1 := ⟨_, rfl⟩
 obtain ⟨C8, E8⟩ : ∃ C, C = w5.heap.size := ⟨_, rfl⟩
 have hC3 : Hid (BX (w5.alloc (.cells #[.slice ma ml mc, .int .u64 (fo : Int), .slice ta tl tc, .int .i64 1, .slice ba bl bc, .slice ra rl rc, .slice xa xl xc, .slice ya yl yc, .bool false] 44)) C3 (pn (a) (b) (c) (d) i) 30) := ⟨by rw [E3]; exact (hb35.block _ (Zab HC3.out)).trans HC3.out⟩
 have hC4 : Hid (BX (w5.alloc (.cells #[.slice ma ml mc, .int .u64 (fo : Int), .slice ta tl tc, .int .i64 1, .slice ba bl bc, .slice ra rl rc, .slice xa xl xc, .slice ya yl yc, .bool false] 44)) C4 (pn (a2) (b2) (c2) (d2) j) 30) := ⟨by rw [E4]; exact (hb35.block _ (Zab HC4.out)).trans HC4.out⟩
 have hC5 : Hid (BX (w5.alloc (.cells #[.slice ma ml mc, .int .u64 (fo : Int), .slice ta tl tc, .int .i64 1, .slice ba bl bc, .slice ra rl rc, .slice xa xl xc, .slice ya yl yc, .bool false] 44)) C5 (W4.cs (limb kk)) 65) := ⟨by rw [E5, hkk0]; exact (hb35.block _ (Zab HC5.out)).trans HC5.out⟩
 have hC8 : Hid (BX (w5.alloc (.cells #[.slice ma ml mc, .int .u64 (fo : Int), .slice ta tl tc, .int .i64 1, .slice ba bl bc, .slice ra rl rc, .slice xa xl xc, .slice ya yl yc, .bool false] 44)) C8 #[.slice ma ml mc, .int .u64 (fo : Int), .slice ta tl tc, .int .i64 1, .slice ba bl bc, .slice ra rl rc, .slice xa xl xc, .slice ya yl yc, .bool false] 44) := ⟨by rw [E8]; exact Zaf _ _⟩
 refine Zaj (fun W5 hW5 => ?_)
 rw [← hW5] at HC HD HBW hC3 hC4 hC5 hC8
 have HC3 := hC3
 have HC4 := hC4
 have HC5 := hC5
 have HC8 := hC8
 have HB : Hid (Up W5 W5) := Below.refl _ _
 refine ZaW 113 [(3, .pointer (some ⟨C3, 0, none⟩)), (4, .pointer (some ⟨C4, 0, none⟩)), (5, .pointer (some ⟨C5, 0, none⟩)), (7, cv), (8, .pointer (some ⟨C8, 0, none⟩))] rfl ⟨by rw [E3]; rfl, by rw [E4]; rfl, by rw [E5]; rfl, rfl, by rw [E8]; rfl, trivial⟩ (fun L hL hK => ?_)
 clear E3 E4 E5 E8 hW5 hC3 hC4 hC5 hC8 hb35 hb45 hn5 HM4 HD5 HA4 HA5 HBW3
 refine Zae (fun K1 HK1 => ?_)
 have up : ∀ V, Up W5 V → Up W5 V := fun _ h => HB.out.trans (h.mono HB.out.size)
 refine ZfM [.ex (.agg (pn (a) (b) (c) (d) i)), .ex (.agg (P4.pt (lo4 a) (lo4 c) i)), .ex (.agg (pn (a2) (b2) (c2) (d2) j)), .ex (.agg (P4.pt (lo4 a2) (lo4 c2) j)), .pr (NB W5.heap.size (P4.pt (0) (0) false) 34), .pr (NB W5.heap.size (P4.pt (0) (0) false) 34)] [3, 4, 5, 7, 8, 9, 10, 24, 26] hL hK ⟨ZaH _ _ _, ZaH _ _ _, trivial⟩
   ⟨ok_x [.ex (.pointer (some ⟨C3, 0, none⟩))] hK (fun V h => ⟨_, _, ZaB rfl rfl (loadC _ C3 0 30 (pn (a) (b) (c) (d) i) _ (Zag (HC3.out.moved h).heap) ZbJ rfl (info30 _ _ _ _ _)), Below.refl _ _, rfl⟩),
   ok_c [.ex (.agg (pn (a) (b) (c) (d) i))] (en Tryz.func33) hK (fun V h => (ZjS a b c d i _).told),
   ok_x [.ex (.pointer (some ⟨C4, 0, none⟩))] hK (fun V h => ⟨_, _, ZaB rfl rfl (loadC _ C4 0 30 (pn (a2) (b2) (c2) (d2) j) _ (Zag (HC4.out.moved h).heap) ZbJ rfl (info30 _ _ _ _ _)), Below.refl _ _, rfl⟩),
   ok_c [.ex (.agg (pn (a2) (b2) (c2) (d2) j))] (en Tryz.func33) hK (fun V h => (ZjS a2 b2 c2 d2 j _).told),
   ok_x [] hK (fun V h => ⟨_, _, ZaJ rfl (alP _), Zaq _ _, _, rfl, h.size, ⟨Zaf _ _⟩⟩),
   ok_x [] hK (fun V h => ⟨_, _, ZaJ rfl (alP _), Zaq _ _, _, rfl, h.size, ⟨Zaf _ _⟩⟩),
   trivial⟩ ?_
 rintro W6 h _ ⟨B1, rfl, lB1, hB1⟩ _ ⟨B2, rfl, lB2, hB2⟩ hA L1 hL1 hK1
 have LB1 := hideP (Nat.le_trans HB.out.size lB1)
 have nB1_C3 : C3 ≠ B1 := by have := HC3.out.lt; omega
 have nB1_C4 : C4 ≠ B1 := by have := HC4.out.lt; omega
 have nB1_C5 : C5 ≠ B1 := by have := HC5.out.lt; omega
 have nB1_C8 : C8 ≠ B1 := by have := HC8.out.lt; omega
 clear lB1
 have LB2 := hideP (Nat.le_trans HB.out.size lB2)
 have nB2_C3 : C3 ≠ B2 := by have := HC3.out.lt; omega
 have nB2_C4 : C4 ≠ B2 := by have := HC4.out.lt; omega
 have nB2_C5 : C5 ≠ B2 := by have := HC5.out.lt; omega
 have nB2_C8 : C8 ≠ B2 := by have := HC8.out.lt; omega
 clear lB2
 replace HB := hideP (up _ h)
 replace HC3 := hideP (HC3.out.moved h)
 replace HC4 := hideP (HC4.out.moved h)
 replace HC5 := hideP (HC5.out.moved h)
 replace HC8 := hideP (HC8.out.moved h)
 have HB1 := hideP hB1
 clear hB1
 have HB2 := hideP hB2
 clear hB2
 have nB2_B1 : B1 ≠ B2 := by rintro rfl; exact hA 4 5 (by kernel_rfl) rfl
 have hK2 := hK1.to [(3, .pointer (some ⟨C3, 0, none⟩)), (4, .pointer (some ⟨C4, 0, none⟩)), (5, .pointer (some ⟨C5, 0, none⟩)), (7, cv), (8, .pointer (some ⟨C8, 0, none⟩)), (9, .pointer (some ⟨B1, 0, none⟩)), (10, .pointer (some ⟨B2, 0, none⟩)), (24, .agg (P4.pt (lo4 a) (lo4 c) i)), (26, .agg (P4.pt (lo4 a2) (lo4 c2) j))] (by kernel_rfl)
 clear up h hK1 hK hL L
 revert L1
 intro L hL hK
 refine Zkq rfl rfl _ _ rfl rfl B1 (Zam (hK.get rfl)) (Zam (hK.get rfl)) HB1.out (fun W7 hb9 hx9 => ?_)
 replace HC3 := hideP (HC3.out.but hb9 nB1_C3)
 replace HC4 := hideP (HC4.out.but hb9 nB1_C4)
 replace HC5 := hideP (HC5.out.but hb9 nB1_C5)
 replace HC8 := hideP (HC8.out.but hb9 nB1_C8)
 replace HB2 := hideP (HB2.out.but hb9 (Ne.symm nB2_B1))
 replace HB := hideP (HB.out.trans (hb9.below.mono LB1.out))
 replace HB1 := hideP hx9
 clear hb9 hx9
 refine Zkq rfl rfl _ _ rfl rfl B2 (Zam (hK.get rfl)) (Zam (hK.get rfl)) HB2.out (fun W8 hb9 hx9 => ?_)
 replace HC3 := hideP (HC3.out.but hb9 nB2_C3)
 replace HC4 := hideP (HC4.out.but hb9 nB2_C4)
 replace HC5 := hideP (HC5.out.but hb9 nB2_C5)
 replace HC8 := hideP (HC8.out.but hb9 nB2_C8)
 replace HB1 := hideP (HB1.out.but hb9 nB2_B1)
 replace HB := hideP (HB.out.trans (hb9.below.mono LB2.out))
 replace HB2 := hideP hx9
 clear hb9 hx9
 refine HK1.out _ _ ?_
 clear HK1 K1
 refine Zae (fun K2 HK2 => ?_)
 have up : ∀ V, Up W8 V → Up W5 V := fun _ h => HB.out.trans (h.mono HB.out.size)
 refine ZfM [.ex (.agg (pn (a) (b) (c) (d) i)), .pr (fun zv zw => PT zw zv (4) ([lo4 a]) ([lo4 c]) i), .ex (.agg (pn (a2) (b2) (c2) (d2) j)), .pr (fun zv zw => PT zw zv (4) ([lo4 a2]) ([lo4 c2]) j), .pr (NB W8.heap.size #[.slice none 0 0, .slice none 0 0, .bool false] 42), .pr (NB W8.heap.size #[.slice none 0 0, .slice none 0 0, .bool false] 42)] [5, 7, 8, 9, 10, 11, 12, 28, 30] hL hK ⟨Zeh _ _ _ _, Zeh _ _ _ _, ZaH _ _ _, ZaH _ _ _, trivial⟩
   ⟨ok_x [.ex (.pointer (some ⟨C3, 0, none⟩))] hK (fun V h => ⟨_, _, ZaB rfl rfl (loadC _ C3 0 30 (pn (a) (b) (c) (d) i) _ (Zag (HC3.out.moved h).heap) ZbJ rfl (info30 _ _ _ _ _)), Below.refl _ _, rfl⟩),
   ok_c [.ex (.agg (pn (a) (b) (c) (d) i)), .ex (.int .i64 4), .ex (.int .i64 1)] (en Tryz.func34) hK (fun V h => ref_1 (Or.inl rfl) a b c d (lo4 a) (lo4 c) i (fun j hj => ZbH a j hj) (fun j hj => ZbH c j hj) _),
   ok_x [.ex (.pointer (some ⟨C4, 0, none⟩))] hK (fun V h => ⟨_, _, ZaB rfl rfl (loadC _ C4 0 30 (pn (a2) (b2) (c2) (d2) j) _ (Zag (HC4.out.moved h).heap) ZbJ rfl (info30 _ _ _ _ _)), Below.refl _ _, rfl⟩),
   ok_c [.ex (.agg (pn (a2) (b2) (c2) (d2) j)), .ex (.int .i64 4), .ex (.int .i64 1)] (en Tryz.func34) hK (fun V h => ref_1 (Or.inl rfl) a2 b2 c2 d2 (lo4 a2) (lo4 c2) j (fun j hj => ZbH a2 j hj) (fun j hj => ZbH c2 j hj) _),
   ok_x [] hK (fun V h => ⟨_, _, ZaJ rfl (al42 _), Zaq _ _, _, rfl, h.size, ⟨Zaf _ _⟩⟩),
   ok_x [] hK (fun V h => ⟨_, _, ZaJ rfl (al42 _), Zaq _ _, _, rfl, h.size, ⟨Zaf _ _⟩⟩),
   trivial⟩ ?_
 rintro W9 h _ ⟨⟨xz3, yz3, rfl, hxz3, hyz3⟩⟩ _ ⟨⟨xz4, yz4, rfl, hxz4, hyz4⟩⟩ _ ⟨B5, rfl, lB5, hB5⟩ _ ⟨B6, rfl, lB6, hB6⟩ hA L1 hL1 hK1
 have LB5 := hideP (Nat.le_trans HB.out.size lB5)
 have nB5_C3 : C3 ≠ B5 := by have := HC3.out.lt; omega
 have nB5_C4 : C4 ≠ B5 := by have := HC4.out.lt; omega
 have nB5_C5 : C5 ≠ B5 := by have := HC5.out.lt; omega
 have nB5_C8 : C8 ≠ B5 := by have := HC8.out.lt; omega
 have nB5_B1 : B1 ≠ B5 := by have := HB1.out.lt; omega
 have nB5_B2 : B2 ≠ B5 := by have := HB2.out.lt; omega
 clear lB5
 have LB6 := hideP (Nat.le_trans HB.out.size lB6)
 have nB6_C3 : C3 ≠ B6 := by have := HC3.out.lt; omega
 have nB6_C4 : C4 ≠ B6 := by have := HC4.out.lt; omega
 have nB6_C5 : C5 ≠ B6 := by have := HC5.out.lt; omega
 have nB6_C8 : C8 ≠ B6 := by have := HC8.out.lt; omega
 have nB6_B1 : B1 ≠ B6 := by have := HB1.out.lt; omega
 have nB6_B2 : B2 ≠ B6 := by have := HB2.out.lt; omega
 clear lB6
 replace HB := hideP (up _ h)
 replace HC3 := hideP (HC3.out.moved h)
 replace HC4 := hideP (HC4.out.moved h)
 replace HC5 := hideP (HC5.out.moved h)
 replace HC8 := hideP (HC8.out.moved h)
 replace HB1 := hideP (HB1.out.moved h)
 replace HB2 := hideP (HB2.out.moved h)
 have HXz3 : Hid (LL W9 xz3 (4) ([lo4 a])) := hxz3
 clear hxz3
 have HYz3 : Hid (LL W9 yz3 (4) ([lo4 c])) := hyz3
 clear hyz3
 have HXz4 : Hid (LL W9 xz4 (4) ([lo4 a2])) := hxz4
 clear hxz4
 have HYz4 : Hid (LL W9 yz4 (4) ([lo4 c2])) := hyz4
 clear hyz4
 have HB5 := hideP hB5
 clear hB5
 have HB6 := hideP hB6
 clear hB6
 have nB6_B5 : B5 ≠ B6 := by rintro rfl; exact hA 4 5 (by kernel_rfl) rfl
 have hK2 := hK1.to [(5, .pointer (some ⟨C5, 0, none⟩)), (7, cv), (8, .pointer (some ⟨C8, 0, none⟩)), (9, .pointer (some ⟨B1, 0, none⟩)), (10, .pointer (some ⟨B2, 0, none⟩)), (11, .pointer (some ⟨B5, 0, none⟩)), (12, .pointer (some ⟨B6, 0, none⟩)), (28, .agg #[xz3, yz3, .bool i]), (30, .agg #[xz4, yz4, .bool j])] (by kernel_rfl)
 clear up h hK1 hK hL L
 revert L1
 intro L hL hK
 have HO9 := HB5
 refine ZbQ rfl rfl 42 _ _ rfl rfl B5 0 #[.slice none 0 0, .slice none 0 0, .bool false] [xz3, yz3, .bool i] 42 (Zam (hK.get rfl)) (Zam (hK.get rfl)) rfl HB5.out (Nat.le_of_ble_eq_true rfl) info42 ⟨HXz3.out.oneC, HYz3.out.oneC, rfl, trivial⟩ (fun W10 hb9 hx9 => ?_)
 replace HXz3 := hideP (HXz3.out.but HO9.out ⟨_, _, _, rfl, by decide⟩ ⟨_, _, _, rfl, by decide⟩ hb9)
 replace HYz3 := hideP (HYz3.out.but HO9.out ⟨_, _, _, rfl, by decide⟩ ⟨_, _, _, rfl, by decide⟩ hb9)
 replace HXz4 := hideP (HXz4.out.but HO9.out ⟨_, _, _, rfl, by decide⟩ ⟨_, _, _, rfl, by decide⟩ hb9)
 replace HYz4 := hideP (HYz4.out.but HO9.out ⟨_, _, _, rfl, by decide⟩ ⟨_, _, _, rfl, by decide⟩ hb9)
 replace HC3 := hideP (HC3.out.but hb9 nB5_C3)
 replace HC4 := hideP (HC4.out.but hb9 nB5_C4)
 replace HC5 := hideP (HC5.out.but hb9 nB5_C5)
 replace HC8 := hideP (HC8.out.but hb9 nB5_C8)
 replace HB1 := hideP (HB1.out.but hb9 nB5_B1)
 replace HB2 := hideP (HB2.out.but hb9 nB5_B2)
 replace HB6 := hideP (HB6.out.but hb9 (Ne.symm nB6_B5))
 replace HB := hideP (HB.out.trans (hb9.below.mono LB5.out))
 rw [show putAll _ _ _ = #[xz3, yz3, .bool i] by kernel_rfl] at hx9
 replace HB5 := hideP hx9
 clear hb9 hx9 HO9
 have HO9 := HB6
 refine ZbQ rfl rfl 42 _ _ rfl rfl B6 0 #[.slice none 0 0, .slice none 0 0, .bool false] [xz4, yz4, .bool j] 42 (Zam (hK.get rfl)) (Zam (hK.get rfl)) rfl HB6.out (Nat.le_of_ble_eq_true rfl) info42 ⟨HXz4.out.oneC, HYz4.out.oneC, rfl, trivial⟩ (fun W11 hb9 hx9 => ?_)
 replace HXz3 := hideP (HXz3.out.but HO9.out ⟨_, _, _, rfl, by decide⟩ ⟨_, _, _, rfl, by decide⟩ hb9)
 replace HYz3 := hideP (HYz3.out.but HO9.out ⟨_, _, _, rfl, by decide⟩ ⟨_, _, _, rfl, by decide⟩ hb9)
 replace HXz4 := hideP (HXz4.out.but HO9.out ⟨_, _, _, rfl, by decide⟩ ⟨_, _, _, rfl, by decide⟩ hb9)
 replace HYz4 := hideP (HYz4.out.but HO9.out ⟨_, _, _, rfl, by decide⟩ ⟨_, _, _, rfl, by decide⟩ hb9)
 replace HC3 := hideP (HC3.out.but hb9 nB6_C3)
 replace HC4 := hideP (HC4.out.but hb9 nB6_C4)
 replace HC5 := hideP (HC5.out.but hb9 nB6_C5)
 replace HC8 := hideP (HC8.out.but hb9 nB6_C8)
 replace HB1 := hideP (HB1.out.but hb9 nB6_B1)
 replace HB2 := hideP (HB2.out.but hb9 nB6_B2)
 replace HB5 := hideP (HB5.out.but hb9 nB6_B5)
 replace HB := hideP (HB.out.trans (hb9.below.mono LB6.out))
 rw [show putAll _ _ _ = #[xz4, yz4, .bool j] by kernel_rfl] at hx9
 replace HB6 := hideP hx9
 clear hb9 hx9 HO9
 refine HK2.out _ _ ?_
 clear HK2 K2
 clear HC3
 clear HC4
 replace HC := hideP (HC.out.moved HB.out)
 replace HD := hideP (HD.out.moved HB.out)
 have HBb2 := HB
 have HB : Hid (Up W11 W11) := Below.refl _ _
 refine Zae (fun K3 HK3 => ?_)
 refine Zae (fun K4 HK4 => ?_)
 have HALL : Hid (∀ (V : World) (L : List Value), Up W11 V → L.length = 113 → KS L [(5, .pointer (some ⟨C5, 0, none⟩)), (7, cv), (8, .pointer (some ⟨C8, 0, none⟩)), (9, .pointer (some ⟨B1, 0, none⟩)), (10, .pointer (some ⟨B2, 0, none⟩)), (11, .pointer (some ⟨B5, 0, none⟩)), (12, .pointer (some ⟨B6, 0, none⟩)), (52, .bool false)] → K4 { tmps := L.toArray, defers := [] } V) := by
  show ∀ (V : World) (L : List Value), _
  intro Wz L h hL hK
  have HB : Hid (Up W11 Wz) := h
  replace HC5 := hideP (HC5.out.moved h)
  replace HC8 := hideP (HC8.out.moved h)
  replace HB1 := hideP (HB1.out.moved h)
  replace HB2 := hideP (HB2.out.moved h)
  replace HB5 := hideP (HB5.out.moved h)
  replace HB6 := hideP (HB6.out.moved h)
  clear h
  refine HK4.out _ _ ?_
  clear HK4 K4
  refine Zdj hK ?_
  refine wp_skip ?_
  refine HK3.out _ _ ?_
  clear HK3 K3
  refine Zae (fun K5 HK5 => ?_)
  have up : ∀ V, Up Wz V → Up W11 V := fun _ h => HB.out.trans (h.mono HB.out.size)
  refine Zc5 6 [.ex (cv), .ex (.agg (P4.pt (lo4 a) (lo4 c) i)), .ex (.agg (P4.pt (lo4 a2) (lo4 c2) j)), .ex (.tuple #[.agg (P4.pt qA.1 qA.2.1 qA.2.2), .int .i64 eA]), .ex (.tuple #[.agg (P4.pt qA.1 qA.2.1 qA.2.2), .int .i64 eA]), .ex (.agg (P4.pt qA.1 qA.2.1 qA.2.2)), .ex (.int .i64 eA), .pr (NB Wz.heap.size (P4.pt (0) (0) false) 34)] [5, 7, 8, 9, 11, 12, 13, 58, 59] hL hK ⟨ZaH _ _ _, trivial⟩
    ⟨ok_q hK,
    ok_x [.ex (.pointer (some ⟨B1, 0, none⟩))] hK (fun V h => ⟨_, _, ZaB rfl rfl (loadC _ B1 0 34 _ _ (Zag (HB1.out.moved h).heap) P4.underA rfl (P4.infoA (P4.Zau _ _ _))), Below.refl _ _, rfl⟩),
    ok_x [.ex (.pointer (some ⟨B2, 0, none⟩))] hK (fun V h => ⟨_, _, ZaB rfl rfl (loadC _ B2 0 34 _ _ (Zag (HB2.out.moved h).heap) P4.underA rfl (P4.infoA (P4.Zau _ _ _))), Below.refl _ _, rfl⟩),
    ok_c [.ex (cv), .ex (.agg (P4.pt (lo4 a) (lo4 c) i)), .ex (.agg (P4.pt (lo4 a2) (lo4 c2) j))] (en Tryz.func38) hK (fun V h => (ladd (HC.out.moved (up V h)) (Za5 a) (Za5 c) i (Za5 a2) (Za5 c2) j heA hdA hqA).told),
    ok_q hK,
    ok_q hK,
    ok_q hK,
    ok_x [] hK (fun V h => ⟨_, _, ZaJ rfl (alP _), Zaq _ _, _, rfl, h.size, ⟨Zaf _ _⟩⟩),
    trivial⟩ ?_
  rintro W13 h _ ⟨B7, rfl, lB7, hB7⟩ hA L1 hL1 hK1
  have LB7 := hideP (Nat.le_trans HB.out.size lB7)
  have nB7_C5 : C5 ≠ B7 := by have := HC5.out.lt; omega
  have nB7_C8 : C8 ≠ B7 := by have := HC8.out.lt; omega
  have nB7_B1 : B1 ≠ B7 := by have := HB1.out.lt; omega
  have nB7_B2 : B2 ≠ B7 := by have := HB2.out.lt; omega
  have nB7_B5 : B5 ≠ B7 := by have := HB5.out.lt; omega
  have nB7_B6 : B6 ≠ B7 := by have := HB6.out.lt; omega
  clear lB7
  replace HB := hideP (up _ h)
  replace HC5 := hideP (HC5.out.moved h)
  replace HC8 := hideP (HC8.out.moved h)
  replace HB1 := hideP (HB1.out.moved h)
  replace HB2 := hideP (HB2.out.moved h)
  replace HB5 := hideP (HB5.out.moved h)
  replace HB6 := hideP (HB6.out.moved h)
  have HB7 := hideP hB7
  clear hB7
  have hK2 := hK1.to [(5, .pointer (some ⟨C5, 0, none⟩)), (7, cv), (8, .pointer (some ⟨C8, 0, none⟩)), (9, .pointer (some ⟨B1, 0, none⟩)), (11, .pointer (some ⟨B5, 0, none⟩)), (12, .pointer (some ⟨B6, 0, none⟩)), (13, .pointer (some ⟨B7, 0, none⟩)), (58, .agg (P4.pt qA.1 qA.2.1 qA.2.2)), (59, .int .i64 eA)] (by kernel_rfl)
  clear up h hK1 hK hL L
  revert L1
  intro L hL hK
  refine Zkq rfl rfl _ _ rfl rfl B7 (Zam (hK.get rfl)) (Zam (hK.get rfl)) HB7.out (fun W14 hb9 hx9 => ?_)
  replace HC5 := hideP (HC5.out.but hb9 nB7_C5)
  replace HC8 := hideP (HC8.out.but hb9 nB7_C8)
  replace HB1 := hideP (HB1.out.but hb9 nB7_B1)
  replace HB2 := hideP (HB2.out.but hb9 nB7_B2)
  replace HB5 := hideP (HB5.out.but hb9 nB7_B5)
  replace HB6 := hideP (HB6.out.but hb9 nB7_B6)
  replace HB := hideP (HB.out.trans (hb9.below.mono LB7.out))
  replace HB7 := hideP hx9
  clear hb9 hx9
  refine Zdg rfl rfl _ rfl rfl (Zam (hK.get rfl)) ⟨rfl, ?_⟩
  replace hK := (KS.setd (d := 14) (v := .int .i64 eA) (by omega) (hK.pick [(5, .pointer (some ⟨C5, 0, none⟩)), (7, cv), (8, .pointer (some ⟨C8, 0, none⟩)), (9, .pointer (some ⟨B1, 0, none⟩)), (11, .pointer (some ⟨B5, 0, none⟩)), (12, .pointer (some ⟨B6, 0, none⟩)), (13, .pointer (some ⟨B7, 0, none⟩))] (by kernel_rfl)) (by kernel_rfl)).pick [(5, .pointer (some ⟨C5, 0, none⟩)), (7, cv), (8, .pointer (some ⟨C8, 0, none⟩)), (9, .pointer (some ⟨B1, 0, none⟩)), (11, .pointer (some ⟨B5, 0, none⟩)), (12, .pointer (some ⟨B6, 0, none⟩)), (13, .pointer (some ⟨B7, 0, none⟩)), (14, .int .i64 eA)] (by kernel_rfl)
  replace hL : (List.set L 14 (.int .i64 eA)).length = _ := (List.length_set ..).trans hL
  generalize List.set L 14 (.int .i64 eA) = L1 at hK hL ⊢
  clear L
  revert L1
  intro L hK hL
  refine HK5.out _ _ ?_
  clear HK5 K5
  clear HB2
  refine Zae (fun K6 HK6 => ?_)
  have up : ∀ V, Up W14 V → Up W11 V := fun _ h => HB.out.trans (h.mono HB.out.size)
  refine Zc5 6 [.ex (.agg #[.slice ma ml mc, .int .u64 (fo : Int), .slice ta tl tc, .int .i64 1, .slice ba bl bc, .slice ra rl rc, .slice xa xl xc, .slice ya yl yc, .bool false]), .ex (.agg #[xz3, yz3, .bool i]), .ex (.agg #[xz4, yz4, .bool j]), .pr (TqE 4 (dA) (eA)), .pr (TqE 4 (dA) (eA)), .pr (TqP 4 (dA) (eA)), .ex (.int .i64 eA), .pr (NB W14.heap.size #[.slice none 0 0, .slice none 0 0, .bool false] 42)] [5, 7, 8, 9, 11, 13, 14, 15, 65, 66] hL hK ⟨Zc4 _ _ _, Zc4 _ _ _, Zf7 _ _ _, ZaH _ _ _, trivial⟩
    ⟨ZaM 0 hK (fun V h => HC8.out.moved h) Zb1 info44,
    ZaM 0 hK (fun V h => HB5.out.moved h) Zbj info42,
    ZaM 0 hK (fun V h => HB6.out.moved h) Zbj info42,
    ok_c [.ex (.agg #[.slice ma ml mc, .int .u64 (fo : Int), .slice ta tl tc, .int .i64 1, .slice ba bl bc, .slice ra rl rc, .slice xa xl xc, .slice ya yl yc, .bool false]), .ex (.agg #[xz3, yz3, .bool i]), .ex (.agg #[xz4, yz4, .bool j])] (en Tryz.func39) hK (fun V h => oadd hFM4 (HD.out.moved (up V h)) (Za5 a) (Za5 c) ⟨_, _, rfl, (HXz3.out.moved (up V h)), (HYz3.out.moved (up V h))⟩ (Za5 a2) (Za5 c2) ⟨_, _, rfl, (HXz4.out.moved (up V h)), (HYz4.out.moved (up V h))⟩ heA hdA),
    ok_x [.pr (fun zv zw => TqE 4 (dA) (eA) zv zw)] hK (fun V h u q => ⟨_, _, ZdG rfl rfl, Below.refl _ _, q⟩),
    ok_x [.pr (fun zv zw => TqE 4 (dA) (eA) zv zw)] hK (fun V h u q => Zhh rfl rfl q),
    ok_x [.pr (fun zv zw => TqE 4 (dA) (eA) zv zw)] hK (fun V h u q => Zhi rfl rfl q),
    ok_x [] hK (fun V h => ⟨_, _, ZaJ rfl (al42 _), Zaq _ _, _, rfl, h.size, ⟨Zaf _ _⟩⟩),
    trivial⟩ ?_
  rintro W15 h _ _ _ _ _ ⟨az10, bz10, iz10, rfl, hSz10, hTz10, hQz10⟩ _ ⟨B11, rfl, lB11, hB11⟩ hA L1 hL1 hK1
  have LB11 := hideP (Nat.le_trans HB.out.size lB11)
  have nB11_C5 : C5 ≠ B11 := by have := HC5.out.lt; omega
  have nB11_C8 : C8 ≠ B11 := by have := HC8.out.lt; omega
  have nB11_B1 : B1 ≠ B11 := by have := HB1.out.lt; omega
  have nB11_B5 : B5 ≠ B11 := by have := HB5.out.lt; omega
  have nB11_B6 : B6 ≠ B11 := by have := HB6.out.lt; omega
  have nB11_B7 : B7 ≠ B11 := by have := HB7.out.lt; omega
  clear lB11
  replace HB := hideP (up _ h)
  replace HC5 := hideP (HC5.out.moved h)
  replace HC8 := hideP (HC8.out.moved h)
  replace HB1 := hideP (HB1.out.moved h)
  replace HB5 := hideP (HB5.out.moved h)
  replace HB6 := hideP (HB6.out.moved h)
  replace HB7 := hideP (HB7.out.moved h)
  have HQz10 : Hid (QE W15 (.agg #[az10, bz10, .bool iz10]) 4 (dA) (eA)) := hQz10
  clear hQz10
  have HSz10 : Hid (Sh 4 az10) := hSz10
  clear hSz10
  have HTz10 : Hid (Sh 4 bz10) := hTz10
  clear hTz10
  have HB11 := hideP hB11
  clear hB11
  have hK2 := hK1.to [(5, .pointer (some ⟨C5, 0, none⟩)), (7, cv), (8, .pointer (some ⟨C8, 0, none⟩)), (9, .pointer (some ⟨B1, 0, none⟩)), (11, .pointer (some ⟨B5, 0, none⟩)), (13, .pointer (some ⟨B7, 0, none⟩)), (14, .int .i64 eA), (15, .pointer (some ⟨B11, 0, none⟩)), (65, .agg #[az10, bz10, .bool iz10]), (66, .int .i64 eA)] (by kernel_rfl)
  clear up h hK1 hK hL L
  revert L1
  intro L hL hK
  have HO9 := HB11
  refine ZbQ rfl rfl 42 _ _ rfl rfl B11 0 #[.slice none 0 0, .slice none 0 0, .bool false] [az10, bz10, .bool iz10] 42 (Zam (hK.get rfl)) (Zam (hK.get rfl)) rfl HB11.out (Nat.le_of_ble_eq_true rfl) info42 ⟨(Sh.one HSz10.out), (Sh.one HTz10.out), rfl, trivial⟩ (fun W16 hb9 hx9 => ?_)
  replace HQz10 := hideP (HQz10.out.but HO9.out ⟨_, _, _, rfl, by decide⟩ ⟨_, _, _, rfl, by decide⟩ hb9)
  replace HC5 := hideP (HC5.out.but hb9 nB11_C5)
  replace HC8 := hideP (HC8.out.but hb9 nB11_C8)
  replace HB1 := hideP (HB1.out.but hb9 nB11_B1)
  replace HB5 := hideP (HB5.out.but hb9 nB11_B5)
  replace HB6 := hideP (HB6.out.but hb9 nB11_B6)
  replace HB7 := hideP (HB7.out.but hb9 nB11_B7)
  replace HB := hideP (HB.out.trans (hb9.below.mono LB11.out))
  rw [show putAll _ _ _ = #[az10, bz10, .bool iz10] by kernel_rfl] at hx9
  replace HB11 := hideP hx9
  clear hb9 hx9 HO9
  refine Zdg rfl rfl _ rfl rfl (Zam (hK.get rfl)) ⟨rfl, ?_⟩
  replace hK := (KS.setd (d := 16) (v := .int .i64 eA) (by omega) (hK.pick [(5, .pointer (some ⟨C5, 0, none⟩)), (7, cv), (8, .pointer (some ⟨C8, 0, none⟩)), (9, .pointer (some ⟨B1, 0, none⟩)), (11, .pointer (some ⟨B5, 0, none⟩)), (13, .pointer (some ⟨B7, 0, none⟩)), (14, .int .i64 eA), (15, .pointer (some ⟨B11, 0, none⟩))] (by kernel_rfl)) (by kernel_rfl)).pick [(5, .pointer (some ⟨C5, 0, none⟩)), (7, cv), (8, .pointer (some ⟨C8, 0, none⟩)), (9, .pointer (some ⟨B1, 0, none⟩)), (11, .pointer (some ⟨B5, 0, none⟩)), (13, .pointer (some ⟨B7, 0, none⟩)), (14, .int .i64 eA), (15, .pointer (some ⟨B11, 0, none⟩)), (16, .int .i64 eA)] (by kernel_rfl)
  replace hL : (List.set L 16 (.int .i64 eA)).length = _ := (List.length_set ..).trans hL
  generalize List.set L 16 (.int .i64 eA) = L1 at hK hL ⊢
  clear L
  revert L1
  intro L hK hL
  refine HK6.out _ _ ?_
  clear HK6 K6
  clear HB6
  clear HXz4
  clear HYz4
  refine Zae (fun K7 HK7 => ?_)
  refine Zae (fun K8 HK8 => ?_)
  have up : ∀ V, Up W16 V → Up W11 V := fun _ h => HB.out.trans (h.mono HB.out.size)
  refine ZaA [.ex (.agg (P4.pt (qA.1) (qA.2.1) qA.2.2)), .ex (.agg (pn (qA.1) (0) (qA.2.1) (0) qA.2.2)), .ex (.int .i64 eA), .ex (.agg #[az10, bz10, .bool iz10]), .ex (.int .i64 eA), .ex (.bool true), .ex (.bool false)] [5, 7, 8, 9, 11, 13, 14, 15, 16, 73] hL hK trivial
    ⟨ok_x [.ex (.pointer (some ⟨B7, 0, none⟩))] hK (fun V h => ⟨_, _, ZaB rfl rfl (loadC _ B7 0 34 _ _ (Zag (HB7.out.moved h).heap) P4.underA rfl (P4.infoA (P4.Zau _ _ _))), Below.refl _ _, rfl⟩),
    ok_c [.ex (.agg (P4.pt (qA.1) (qA.2.1) qA.2.2))] (en Tryz.func15) hK (fun V h => (ZcD _ _ hlqA.1 hlqA.2 qA.2.2 _).told),
    ok_q hK,
    ZaM 0 hK (fun V h => HB11.out.moved h) Zbj info42,
    ok_q hK,
    ok_c [.ex (.agg (pn (qA.1) (0) (qA.2.1) (0) qA.2.2)), .ex (.int .i64 eA), .ex (.agg #[az10, bz10, .bool iz10]), .ex (.int .i64 eA)] (en Tryz.func40) hK (fun V h => (Zde hqA hlqA (HQz10.out.moved h)).told),
    ok_q hK,
    trivial⟩ ?_
  rintro W17 h  L1 hL1 hK1
  replace HB := hideP (up _ h)
  replace HQz10 := hideP (HQz10.out.moved h)
  replace HC5 := hideP (HC5.out.moved h)
  replace HC8 := hideP (HC8.out.moved h)
  replace HB1 := hideP (HB1.out.moved h)
  replace HB5 := hideP (HB5.out.moved h)
  replace HB7 := hideP (HB7.out.moved h)
  replace HB11 := hideP (HB11.out.moved h)
  have hK2 := hK1.to [(5, .pointer (some ⟨C5, 0, none⟩)), (7, cv), (8, .pointer (some ⟨C8, 0, none⟩)), (9, .pointer (some ⟨B1, 0, none⟩)), (11, .pointer (some ⟨B5, 0, none⟩)), (13, .pointer (some ⟨B7, 0, none⟩)), (14, .int .i64 eA), (15, .pointer (some ⟨B11, 0, none⟩)), (16, .int .i64 eA), (73, .bool false)] (by kernel_rfl)
  clear up h hK1 hK hL L
  revert L1
  intro L hL hK
  refine HK8.out _ _ ?_
  clear HK8 K8
  refine Zdj hK ?_
  refine wp_skip ?_
  refine HK7.out _ _ ?_
  clear HK7 K7
  clear HQz10
  refine Zae (fun K9 HK9 => ?_)
  have up : ∀ V, Up W17 V → Up W11 V := fun _ h => HB.out.trans (h.mono HB.out.size)
  refine Zc5 5 [.ex (cv), .ex (.agg (P4.pt (lo4 a) (lo4 c) i)), .ex (.tuple #[.agg (P4.pt qN.1 qN.2.1 qN.2.2), .int .i64 g]), .ex (.tuple #[.agg (P4.pt qN.1 qN.2.1 qN.2.2), .int .i64 g]), .ex (.agg (P4.pt qN.1 qN.2.1 qN.2.2)), .ex (.int .i64 g)] [5, 7, 8, 9, 11, 13, 15, 16, 78, 79] hL hK trivial
    ⟨ok_q hK,
    ok_x [.ex (.pointer (some ⟨B1, 0, none⟩))] hK (fun V h => ⟨_, _, ZaB rfl rfl (loadC _ B1 0 34 _ _ (Zag (HB1.out.moved h).heap) P4.underA rfl (P4.infoA (P4.Zau _ _ _))), Below.refl _ _, rfl⟩),
    ok_c [.ex (cv), .ex (.agg (P4.pt (lo4 a) (lo4 c) i))] (en Tryz.func41) hK (fun V h => (lneg (HC.out.moved (up V h)) (Za5 a) (Za5 c) i hg hdN hqN).told),
    ok_q hK,
    ok_q hK,
    ok_q hK,
    trivial⟩ ?_
  rintro W18 h hA L1 hL1 hK1
  replace HB := hideP (up _ h)
  replace HC5 := hideP (HC5.out.moved h)
  replace HC8 := hideP (HC8.out.moved h)
  replace HB1 := hideP (HB1.out.moved h)
  replace HB5 := hideP (HB5.out.moved h)
  replace HB7 := hideP (HB7.out.moved h)
  replace HB11 := hideP (HB11.out.moved h)
  have hK2 := hK1.to [(5, .pointer (some ⟨C5, 0, none⟩)), (7, cv), (8, .pointer (some ⟨C8, 0, none⟩)), (9, .pointer (some ⟨B1, 0, none⟩)), (11, .pointer (some ⟨B5, 0, none⟩)), (13, .pointer (some ⟨B7, 0, none⟩)), (15, .pointer (some ⟨B11, 0, none⟩)), (16, .int .i64 eA), (78, .agg (P4.pt qN.1 qN.2.1 qN.2.2)), (79, .int .i64 g)] (by kernel_rfl)
  clear up h hK1 hK hL L
  revert L1
  intro L hL hK
  refine Zkq rfl rfl _ _ rfl rfl B7 (Zam (hK.get rfl)) (Zam (hK.get rfl)) HB7.out (fun W19 hb9 hx9 => ?_)
  replace HC5 := hideP (HC5.out.but hb9 nB7_C5)
  replace HC8 := hideP (HC8.out.but hb9 nB7_C8)
  replace HB1 := hideP (HB1.out.but hb9 nB7_B1)
  replace HB5 := hideP (HB5.out.but hb9 nB7_B5)
  replace HB11 := hideP (HB11.out.but hb9 (Ne.symm nB11_B7))
  replace HB := hideP (HB.out.trans (hb9.below.mono LB7.out))
  replace HB7 := hideP hx9
  clear hb9 hx9
  refine Zdg rfl rfl _ rfl rfl (Zam (hK.get rfl)) ⟨rfl, ?_⟩
  replace hK := (KS.setd (d := 14) (v := .int .i64 g) (by omega) (hK.pick [(5, .pointer (some ⟨C5, 0, none⟩)), (7, cv), (8, .pointer (some ⟨C8, 0, none⟩)), (9, .pointer (some ⟨B1, 0, none⟩)), (11, .pointer (some ⟨B5, 0, none⟩)), (13, .pointer (some ⟨B7, 0, none⟩)), (15, .pointer (some ⟨B11, 0, none⟩)), (16, .int .i64 eA)] (by kernel_rfl)) (by kernel_rfl)).pick [(5, .pointer (some ⟨C5, 0, none⟩)), (7, cv), (8, .pointer (some ⟨C8, 0, none⟩)), (9, .pointer (some ⟨B1, 0, none⟩)), (11, .pointer (some ⟨B5, 0, none⟩)), (13, .pointer (some ⟨B7, 0, none⟩)), (14, .int .i64 g), (15, .pointer (some ⟨B11, 0, none⟩)), (16, .int .i64 eA)] (by kernel_rfl)
  replace hL : (List.set L 14 (.int .i64 g)).length = _ := (List.length_set ..).trans hL
  generalize List.set L 14 (.int .i64 g) = L1 at hK hL ⊢
  clear L
  revert L1
  intro L hK hL
  refine HK9.out _ _ ?_
  clear HK9 K9
  refine Zae (fun K10 HK10 => ?_)
  have up : ∀ V, Up W19 V → Up W11 V := fun _ h => HB.out.trans (h.mono HB.out.size)
  refine Zc5 5 [.ex (.agg #[.slice ma ml mc, .int .u64 (fo : Int), .slice ta tl tc, .int .i64 1, .slice ba bl bc, .slice ra rl rc, .slice xa xl xc, .slice ya yl yc, .bool false]), .ex (.agg #[xz3, yz3, .bool i]), .pr (TqE 4 (dN) (g)), .pr (TqE 4 (dN) (g)), .pr (TqP 4 (dN) (g)), .ex (.int .i64 g)] [5, 7, 8, 9, 11, 13, 14, 15, 84, 85] hL hK ⟨Zc4 _ _ _, Zc4 _ _ _, Zf7 _ _ _, trivial⟩
    ⟨ZaM 0 hK (fun V h => HC8.out.moved h) Zb1 info44,
    ZaM 0 hK (fun V h => HB5.out.moved h) Zbj info42,
    ok_c [.ex (.agg #[.slice ma ml mc, .int .u64 (fo : Int), .slice ta tl tc, .int .i64 1, .slice ba bl bc, .slice ra rl rc, .slice xa xl xc, .slice ya yl yc, .bool false]), .ex (.agg #[xz3, yz3, .bool i])] (en Tryz.func42) hK (fun V h => oneg hFM4 (HD.out.moved (up V h)) (Za5 a) (Za5 c) ⟨_, _, rfl, (HXz3.out.moved (up V h)), (HYz3.out.moved (up V h))⟩ hg hdN),
    ok_x [.pr (fun zv zw => TqE 4 (dN) (g) zv zw)] hK (fun V h u q => ⟨_, _, ZdG rfl rfl, Below.refl _ _, q⟩),
    ok_x [.pr (fun zv zw => TqE 4 (dN) (g) zv zw)] hK (fun V h u q => Zhh rfl rfl q),
    ok_x [.pr (fun zv zw => TqE 4 (dN) (g) zv zw)] hK (fun V h u q => Zhi rfl rfl q),
    trivial⟩ ?_
  rintro W20 h _ _ _ _ _ ⟨az14, bz14, iz14, rfl, hSz14, hTz14, hQz14⟩ hA L1 hL1 hK1
  replace HB := hideP (up _ h)
  replace HC5 := hideP (HC5.out.moved h)
  replace HC8 := hideP (HC8.out.moved h)
  replace HB1 := hideP (HB1.out.moved h)
  replace HB5 := hideP (HB5.out.moved h)
  replace HB7 := hideP (HB7.out.moved h)
  replace HB11 := hideP (HB11.out.moved h)
  have HQz14 : Hid (QE W20 (.agg #[az14, bz14, .bool iz14]) 4 (dN) (g)) := hQz14
  clear hQz14
  have HSz14 : Hid (Sh 4 az14) := hSz14
  clear hSz14
  have HTz14 : Hid (Sh 4 bz14) := hTz14
  clear hTz14
  have hK2 := hK1.to [(5, .pointer (some ⟨C5, 0, none⟩)), (7, cv), (8, .pointer (some ⟨C8, 0, none⟩)), (9, .pointer (some ⟨B1, 0, none⟩)), (11, .pointer (some ⟨B5, 0, none⟩)), (13, .pointer (some ⟨B7, 0, none⟩)), (14, .int .i64 g), (15, .pointer (some ⟨B11, 0, none⟩)), (84, .agg #[az14, bz14, .bool iz14]), (85, .int .i64 g)] (by kernel_rfl)
  clear up h hK1 hK hL L
  revert L1
  intro L hL hK
  have HO9 := HB11
  refine ZbQ rfl rfl 42 _ _ rfl rfl B11 0 #[az10, bz10, .bool iz10] [az14, bz14, .bool iz14] 42 (Zam (hK.get rfl)) (Zam (hK.get rfl)) rfl HB11.out (Nat.le_of_ble_eq_true rfl) info42 ⟨(Sh.one HSz14.out), (Sh.one HTz14.out), rfl, trivial⟩ (fun W21 hb9 hx9 => ?_)
  replace HQz14 := hideP (HQz14.out.but HO9.out HSz10.out HTz10.out hb9)
  replace HC5 := hideP (HC5.out.but hb9 nB11_C5)
  replace HC8 := hideP (HC8.out.but hb9 nB11_C8)
  replace HB1 := hideP (HB1.out.but hb9 nB11_B1)
  replace HB5 := hideP (HB5.out.but hb9 nB11_B5)
  replace HB7 := hideP (HB7.out.but hb9 nB11_B7)
  replace HB := hideP (HB.out.trans (hb9.below.mono LB11.out))
  rw [show putAll _ _ _ = #[az14, bz14, .bool iz14] by kernel_rfl] at hx9
  replace HB11 := hideP hx9
  clear hb9 hx9 HO9
  refine Zdg rfl rfl _ rfl rfl (Zam (hK.get rfl)) ⟨rfl, ?_⟩
  replace hK := (KS.setd (d := 16) (v := .int .i64 g) (by omega) (hK.pick [(5, .pointer (some ⟨C5, 0, none⟩)), (7, cv), (8, .pointer (some ⟨C8, 0, none⟩)), (9, .pointer (some ⟨B1, 0, none⟩)), (11, .pointer (some ⟨B5, 0, none⟩)), (13, .pointer (some ⟨B7, 0, none⟩)), (14, .int .i64 g), (15, .pointer (some ⟨B11, 0, none⟩))] (by kernel_rfl)) (by kernel_rfl)).pick [(5, .pointer (some ⟨C5, 0, none⟩)), (7, cv), (8, .pointer (some ⟨C8, 0, none⟩)), (9, .pointer (some ⟨B1, 0, none⟩)), (11, .pointer (some ⟨B5, 0, none⟩)), (13, .pointer (some ⟨B7, 0, none⟩)), (14, .int .i64 g), (15, .pointer (some ⟨B11, 0, none⟩)), (16, .int .i64 g)] (by kernel_rfl)
  replace hL : (List.set L 16 (.int .i64 g)).length = _ := (List.length_set ..).trans hL
  generalize List.set L 16 (.int .i64 g) = L1 at hK hL ⊢
  clear L
  revert L1
  intro L hK hL
  refine HK10.out _ _ ?_
  clear HK10 K10
  refine Zae (fun K11 HK11 => ?_)
  refine Zae (fun K12 HK12 => ?_)
  have up : ∀ V, Up W21 V → Up W11 V := fun _ h => HB.out.trans (h.mono HB.out.size)
  refine ZaA [.ex (.agg (P4.pt (qN.1) (qN.2.1) qN.2.2)), .ex (.agg (pn (qN.1) (0) (qN.2.1) (0) qN.2.2)), .ex (.int .i64 g), .ex (.agg #[az14, bz14, .bool iz14]), .ex (.int .i64 g), .ex (.bool true), .ex (.bool false)] [5, 7, 8, 9, 11, 13, 14, 15, 16, 92] hL hK trivial
    ⟨ok_x [.ex (.pointer (some ⟨B7, 0, none⟩))] hK (fun V h => ⟨_, _, ZaB rfl rfl (loadC _ B7 0 34 _ _ (Zag (HB7.out.moved h).heap) P4.underA rfl (P4.infoA (P4.Zau _ _ _))), Below.refl _ _, rfl⟩),
    ok_c [.ex (.agg (P4.pt (qN.1) (qN.2.1) qN.2.2))] (en Tryz.func15) hK (fun V h => (ZcD _ _ hlqN.1 hlqN.2 qN.2.2 _).told),
    ok_q hK,
    ZaM 0 hK (fun V h => HB11.out.moved h) Zbj info42,
    ok_q hK,
    ok_c [.ex (.agg (pn (qN.1) (0) (qN.2.1) (0) qN.2.2)), .ex (.int .i64 g), .ex (.agg #[az14, bz14, .bool iz14]), .ex (.int .i64 g)] (en Tryz.func40) hK (fun V h => (Zde hqN hlqN (HQz14.out.moved h)).told),
    ok_q hK,
    trivial⟩ ?_
  rintro W22 h  L1 hL1 hK1
  replace HB := hideP (up _ h)
  replace HQz14 := hideP (HQz14.out.moved h)
  replace HC5 := hideP (HC5.out.moved h)
  replace HC8 := hideP (HC8.out.moved h)
  replace HB1 := hideP (HB1.out.moved h)
  replace HB5 := hideP (HB5.out.moved h)
  replace HB7 := hideP (HB7.out.moved h)
  replace HB11 := hideP (HB11.out.moved h)
  have hK2 := hK1.to [(5, .pointer (some ⟨C5, 0, none⟩)), (7, cv), (8, .pointer (some ⟨C8, 0, none⟩)), (9, .pointer (some ⟨B1, 0, none⟩)), (11, .pointer (some ⟨B5, 0, none⟩)), (13, .pointer (some ⟨B7, 0, none⟩)), (14, .int .i64 g), (15, .pointer (some ⟨B11, 0, none⟩)), (16, .int .i64 g), (92, .bool false)] (by kernel_rfl)
  clear up h hK1 hK hL L
  revert L1
  intro L hL hK
  refine HK12.out _ _ ?_
  clear HK12 K12
  refine Zdj hK ?_
  refine wp_skip ?_
  refine HK11.out _ _ ?_
  clear HK11 K11
  clear HQz14
  refine Zae (fun K13 HK13 => ?_)
  have up : ∀ V, Up W22 V → Up W11 V := fun _ h => HB.out.trans (h.mono HB.out.size)
  refine Zc5 6 [.ex (cv), .ex (.agg (P4.pt (lo4 a) (lo4 c) i)), .ex (.agg (W4.cs (limb kk))), .ex (.tuple #[.agg (P4.pt qM.1 qM.2.1 qM.2.2), .int .i64 g]), .ex (.tuple #[.agg (P4.pt qM.1 qM.2.1 qM.2.2), .int .i64 g]), .ex (.agg (P4.pt qM.1 qM.2.1 qM.2.2)), .ex (.int .i64 g)] [5, 8, 11, 13, 15, 16, 98, 99] hL hK trivial
    ⟨ok_q hK,
    ok_x [.ex (.pointer (some ⟨B1, 0, none⟩))] hK (fun V h => ⟨_, _, ZaB rfl rfl (loadC _ B1 0 34 _ _ (Zag (HB1.out.moved h).heap) P4.underA rfl (P4.infoA (P4.Zau _ _ _))), Below.refl _ _, rfl⟩),
    ok_x [.ex (.pointer (some ⟨C5, 0, none⟩))] hK (fun V h => ⟨_, _, ZaB rfl rfl (loadC _ C5 0 65 _ _ (Zag (HC5.out.moved h).heap) undWd0 rfl (Zn1 _)), Below.refl _ _, rfl⟩),
    ok_c [.ex (cv), .ex (.agg (P4.pt (lo4 a) (lo4 c) i)), .ex (.agg (W4.cs (limb kk)))] (en Tryz.func43) hK (fun V h => (lmul (HC.out.moved (up V h)) (Za5 a) (Za5 c) i hkk hg hdM hqM).told),
    ok_q hK,
    ok_q hK,
    ok_q hK,
    trivial⟩ ?_
  rintro W23 h hA L1 hL1 hK1
  replace HB := hideP (up _ h)
  replace HC5 := hideP (HC5.out.moved h)
  replace HC8 := hideP (HC8.out.moved h)
  replace HB1 := hideP (HB1.out.moved h)
  replace HB5 := hideP (HB5.out.moved h)
  replace HB7 := hideP (HB7.out.moved h)
  replace HB11 := hideP (HB11.out.moved h)
  have hK2 := hK1.to [(5, .pointer (some ⟨C5, 0, none⟩)), (8, .pointer (some ⟨C8, 0, none⟩)), (11, .pointer (some ⟨B5, 0, none⟩)), (13, .pointer (some ⟨B7, 0, none⟩)), (15, .pointer (some ⟨B11, 0, none⟩)), (16, .int .i64 g), (98, .agg (P4.pt qM.1 qM.2.1 qM.2.2)), (99, .int .i64 g)] (by kernel_rfl)
  clear up h hK1 hK hL L
  revert L1
  intro L hL hK
  refine Zkq rfl rfl _ _ rfl rfl B7 (Zam (hK.get rfl)) (Zam (hK.get rfl)) HB7.out (fun W24 hb9 hx9 => ?_)
  replace HC5 := hideP (HC5.out.but hb9 nB7_C5)
  replace HC8 := hideP (HC8.out.but hb9 nB7_C8)
  replace HB1 := hideP (HB1.out.but hb9 nB7_B1)
  replace HB5 := hideP (HB5.out.but hb9 nB7_B5)
  replace HB11 := hideP (HB11.out.but hb9 (Ne.symm nB11_B7))
  replace HB := hideP (HB.out.trans (hb9.below.mono LB7.out))
  replace HB7 := hideP hx9
  clear hb9 hx9
  refine Zdg rfl rfl _ rfl rfl (Zam (hK.get rfl)) ⟨rfl, ?_⟩
  replace hK := (KS.setd (d := 14) (v := .int .i64 g) (by omega) (hK.pick [(5, .pointer (some ⟨C5, 0, none⟩)), (8, .pointer (some ⟨C8, 0, none⟩)), (11, .pointer (some ⟨B5, 0, none⟩)), (13, .pointer (some ⟨B7, 0, none⟩)), (15, .pointer (some ⟨B11, 0, none⟩)), (16, .int .i64 g)] (by kernel_rfl)) (by kernel_rfl)).pick [(5, .pointer (some ⟨C5, 0, none⟩)), (8, .pointer (some ⟨C8, 0, none⟩)), (11, .pointer (some ⟨B5, 0, none⟩)), (13, .pointer (some ⟨B7, 0, none⟩)), (14, .int .i64 g), (15, .pointer (some ⟨B11, 0, none⟩)), (16, .int .i64 g)] (by kernel_rfl)
  replace hL : (List.set L 14 (.int .i64 g)).length = _ := (List.length_set ..).trans hL
  generalize List.set L 14 (.int .i64 g) = L1 at hK hL ⊢
  clear L
  revert L1
  intro L hK hL
  refine HK13.out _ _ ?_
  clear HK13 K13
  refine Zae (fun K14 HK14 => ?_)
  have up : ∀ V, Up W24 V → Up W11 V := fun _ h => HB.out.trans (h.mono HB.out.size)
  refine Zc5 6 [.ex (.agg #[.slice ma ml mc, .int .u64 (fo : Int), .slice ta tl tc, .int .i64 1, .slice ba bl bc, .slice ra rl rc, .slice xa xl xc, .slice ya yl yc, .bool false]), .ex (.agg #[xz3, yz3, .bool i]), .ex (.slice (some ⟨C5, 0, none⟩) 4 4), .pr (TqE 4 (dM) (g)), .pr (TqE 4 (dM) (g)), .pr (TqP 4 (dM) (g)), .ex (.int .i64 g)] [13, 14, 15, 105, 106] hL hK ⟨Zc4 _ _ _, Zc4 _ _ _, Zf7 _ _ _, trivial⟩
    ⟨ZaM 0 hK (fun V h => HC8.out.moved h) Zb1 info44,
    ZaM 0 hK (fun V h => HB5.out.moved h) Zbj info42,
    ok_q hK,
    ok_c [.ex (.agg #[.slice ma ml mc, .int .u64 (fo : Int), .slice ta tl tc, .int .i64 1, .slice ba bl bc, .slice ra rl rc, .slice xa xl xc, .slice ya yl yc, .bool false]), .ex (.agg #[xz3, yz3, .bool i]), .ex (.slice (some ⟨C5, 0, none⟩) 4 4)] (en Tryz.func44) hK (fun V h => omul hFM4 (HD.out.moved (up V h)) (Za5 a) (Za5 c) ⟨_, _, rfl, (HXz3.out.moved (up V h)), (HYz3.out.moved (up V h))⟩ (lw_box (HC5.out.moved h)) hg hdM),
    ok_x [.pr (fun zv zw => TqE 4 (dM) (g) zv zw)] hK (fun V h u q => ⟨_, _, ZdG rfl rfl, Below.refl _ _, q⟩),
    ok_x [.pr (fun zv zw => TqE 4 (dM) (g) zv zw)] hK (fun V h u q => Zhh rfl rfl q),
    ok_x [.pr (fun zv zw => TqE 4 (dM) (g) zv zw)] hK (fun V h u q => Zhi rfl rfl q),
    trivial⟩ ?_
  rintro W25 h _ _ _ _ _ ⟨az17, bz17, iz17, rfl, hSz17, hTz17, hQz17⟩ hA L1 hL1 hK1
  replace HB := hideP (up _ h)
  replace HC5 := hideP (HC5.out.moved h)
  replace HC8 := hideP (HC8.out.moved h)
  replace HB1 := hideP (HB1.out.moved h)
  replace HB5 := hideP (HB5.out.moved h)
  replace HB7 := hideP (HB7.out.moved h)
  replace HB11 := hideP (HB11.out.moved h)
  have HQz17 : Hid (QE W25 (.agg #[az17, bz17, .bool iz17]) 4 (dM) (g)) := hQz17
  clear hQz17
  have HSz17 : Hid (Sh 4 az17) := hSz17
  clear hSz17
  have HTz17 : Hid (Sh 4 bz17) := hTz17
  clear hTz17
  have hK2 := hK1.to [(13, .pointer (some ⟨B7, 0, none⟩)), (14, .int .i64 g), (15, .pointer (some ⟨B11, 0, none⟩)), (105, .agg #[az17, bz17, .bool iz17]), (106, .int .i64 g)] (by kernel_rfl)
  clear up h hK1 hK hL L
  revert L1
  intro L hL hK
  have HO9 := HB11
  refine ZbQ rfl rfl 42 _ _ rfl rfl B11 0 #[az14, bz14, .bool iz14] [az17, bz17, .bool iz17] 42 (Zam (hK.get rfl)) (Zam (hK.get rfl)) rfl HB11.out (Nat.le_of_ble_eq_true rfl) info42 ⟨(Sh.one HSz17.out), (Sh.one HTz17.out), rfl, trivial⟩ (fun W26 hb9 hx9 => ?_)
  replace HQz17 := hideP (HQz17.out.but HO9.out HSz14.out HTz14.out hb9)
  replace HC5 := hideP (HC5.out.but hb9 nB11_C5)
  replace HC8 := hideP (HC8.out.but hb9 nB11_C8)
  replace HB1 := hideP (HB1.out.but hb9 nB11_B1)
  replace HB5 := hideP (HB5.out.but hb9 nB11_B5)
  replace HB7 := hideP (HB7.out.but hb9 nB11_B7)
  replace HB := hideP (HB.out.trans (hb9.below.mono LB11.out))
  rw [show putAll _ _ _ = #[az17, bz17, .bool iz17] by kernel_rfl] at hx9
  replace HB11 := hideP hx9
  clear hb9 hx9 HO9
  refine Zdg rfl rfl _ rfl rfl (Zam (hK.get rfl)) ⟨rfl, ?_⟩
  replace hK := (KS.setd (d := 16) (v := .int .i64 g) (by omega) (hK.pick [(13, .pointer (some ⟨B7, 0, none⟩)), (14, .int .i64 g), (15, .pointer (some ⟨B11, 0, none⟩))] (by kernel_rfl)) (by kernel_rfl)).pick [(13, .pointer (some ⟨B7, 0, none⟩)), (14, .int .i64 g), (15, .pointer (some ⟨B11, 0, none⟩)), (16, .int .i64 g)] (by kernel_rfl)
  replace hL : (List.set L 16 (.int .i64 g)).length = _ := (List.length_set ..).trans hL
  generalize List.set L 16 (.int .i64 g) = L1 at hK hL ⊢
  clear L
  revert L1
  intro L hK hL
  refine HK14.out _ _ ?_
  clear HK14 K14
  refine Zae (fun K15 HK15 => ?_)
  have up : ∀ V, Up W26 V → Up W11 V := fun _ h => HB.out.trans (h.mono HB.out.size)
  refine ZaA [.ex (.agg (P4.pt (qM.1) (qM.2.1) qM.2.2)), .ex (.agg (pn (qM.1) (0) (qM.2.1) (0) qM.2.2)), .ex (.int .i64 g), .ex (.agg #[az17, bz17, .bool iz17]), .ex (.int .i64 g), .ex (.bool true), .ex (.bool true)] [6] hL hK trivial
    ⟨ok_x [.ex (.pointer (some ⟨B7, 0, none⟩))] hK (fun V h => ⟨_, _, ZaB rfl rfl (loadC _ B7 0 34 _ _ (Zag (HB7.out.moved h).heap) P4.underA rfl (P4.infoA (P4.Zau _ _ _))), Below.refl _ _, rfl⟩),
    ok_c [.ex (.agg (P4.pt (qM.1) (qM.2.1) qM.2.2))] (en Tryz.func15) hK (fun V h => (ZcD _ _ hlqM.1 hlqM.2 qM.2.2 _).told),
    ok_q hK,
    ZaM 0 hK (fun V h => HB11.out.moved h) Zbj info42,
    ok_q hK,
    ok_c [.ex (.agg (pn (qM.1) (0) (qM.2.1) (0) qM.2.2)), .ex (.int .i64 g), .ex (.agg #[az17, bz17, .bool iz17]), .ex (.int .i64 g)] (en Tryz.func40) hK (fun V h => (Zde hqM hlqM (HQz17.out.moved h)).told),
    ok_q hK,
    trivial⟩ ?_
  rintro W27 h  L1 hL1 hK1
  replace HB := hideP (up _ h)
  replace HQz17 := hideP (HQz17.out.moved h)
  replace HC5 := hideP (HC5.out.moved h)
  replace HC8 := hideP (HC8.out.moved h)
  replace HB1 := hideP (HB1.out.moved h)
  replace HB5 := hideP (HB5.out.moved h)
  replace HB7 := hideP (HB7.out.moved h)
  replace HB11 := hideP (HB11.out.moved h)
  have hK2 := hK1.to [(6, .bool true)] (by kernel_rfl)
  clear up h hK1 hK hL L
  revert L1
  intro L hL hK
  refine HK15.out _ _ ?_
  clear HK15 K15
  refine wp_ret ?_
  exact ret2 hK ⟨rfl, (HBW.out.trans ((HBb2.out.trans (HB.out.mono HBb2.out.size)).mono HBW.out.size))⟩
 cases b8 with
 | true =>
  have up : ∀ V, Up W11 V → Up W11 V := fun _ h => HB.out.trans (h.mono HB.out.size)
  refine ZaA [.ex (cv), .ex (.agg (P4.pt (lo4 a) (lo4 c) i)), .ex (.int .i64 g), .ex (.agg #[.slice ma ml mc, .int .u64 (fo : Int), .slice ta tl tc, .int .i64 1, .slice ba bl bc, .slice ra rl rc, .slice xa xl xc, .slice ya yl yc, .bool false]), .ex (.agg #[xz3, yz3, .bool i]), .ex (.int .i64 g), .ex (.bool false), .ex (.bool false), .ex (.pointer (some ⟨C5, 0, none⟩)), .ex (.int .u64 (limb kk 0 : Nat)), .ex (.int .u64 (limb kk 0 % 8 : Nat)), .ex (.bool true), .ex (.bool true), .ex (cv), .ex (.agg (P4.pt (lo4 a) (lo4 c) i)), .ex (.int .i64 gr), .ex (.agg #[.slice ma ml mc, .int .u64 (fo : Int), .slice ta tl tc, .int .i64 1, .slice ba bl bc, .slice ra rl rc, .slice xa xl xc, .slice ya yl yc, .bool false]), .ex (.agg #[xz3, yz3, .bool i]), .ex (.int .i64 gr), .ex (.bool false), .ex (.bool false), .ex (.bool false)] [5, 7, 8, 9, 10, 11, 12, 52] hL hK trivial
    ⟨ok_q hK,
    ok_x [.ex (.pointer (some ⟨B1, 0, none⟩))] hK (fun V h => ⟨_, _, ZaB rfl rfl (loadC _ B1 0 34 _ _ (Zag (HB1.out.moved h).heap) P4.underA rfl (P4.infoA (P4.Zau _ _ _))), Below.refl _ _, rfl⟩),
    ok_c [.ex (cv), .ex (.agg (P4.pt (lo4 a) (lo4 c) i))] (en Tryz.func35) hK (fun V h => (lgood (HC.out.moved (up V h)) (Za5 a) (Za5 c) i hg).told),
    ZaM 0 hK (fun V h => HC8.out.moved h) Zb1 info44,
    ZaM 0 hK (fun V h => HB5.out.moved h) Zbj info42,
    ok_c [.ex (.agg #[.slice ma ml mc, .int .u64 (fo : Int), .slice ta tl tc, .int .i64 1, .slice ba bl bc, .slice ra rl rc, .slice xa xl xc, .slice ya yl yc, .bool false]), .ex (.agg #[xz3, yz3, .bool i])] (en Tryz.func36) hK (fun V h => (ogood hFM4 (HD.out.moved (up V h)) (Za5 a) (Za5 c) ⟨_, _, rfl, (HXz3.out.moved (up V h)), (HYz3.out.moved (up V h))⟩ hg).told),
    ok_x [.ex (.int .i64 g), .ex (.int .i64 g)] hK (fun V h => ⟨_, _, Zhj rfl rfl rfl _, Below.refl _ _, rfl⟩),
    ok_q hK,
    ok_q hK,
    ok_x [.ex (.pointer (some ⟨C5, 0, none⟩))] hK (fun V h => ⟨_, _, ZaB rfl rfl (ld1 (by kernel_rfl) (Zac (HC5.out.moved h).heap rfl)), Below.refl _ _, rfl⟩),
    ok_x [.ex (.int .u64 (limb kk 0 : Nat)), .ex (.int .u64 8)] hK (fun V h => ⟨_, _, Zkp rfl rfl rfl _, Below.refl _ _, rfl⟩),
    ok_x [.ex (.int .u64 (limb kk 0 % 8 : Nat)), .ex (.int .u64 0)] hK (fun V h => ⟨_, _, Zml h8 rfl rfl rfl _, Below.refl _ _, rfl⟩),
    ok_q hK,
    ok_q hK,
    ok_x [.ex (.pointer (some ⟨B1, 0, none⟩))] hK (fun V h => ⟨_, _, ZaB rfl rfl (loadC _ B1 0 34 _ _ (Zag (HB1.out.moved h).heap) P4.underA rfl (P4.infoA (P4.Zau _ _ _))), Below.refl _ _, rfl⟩),
    ok_c [.ex (cv), .ex (.agg (P4.pt (lo4 a) (lo4 c) i))] (en Tryz.func28) hK (fun V h => (lgroup (HC.out.moved (up V h)) (Za5 a) (Za5 c) i hg hgr).told),
    ZaM 0 hK (fun V h => HC8.out.moved h) Zb1 info44,
    ZaM 0 hK (fun V h => HB5.out.moved h) Zbj info42,
    ok_c [.ex (.agg #[.slice ma ml mc, .int .u64 (fo : Int), .slice ta tl tc, .int .i64 1, .slice ba bl bc, .slice ra rl rc, .slice xa xl xc, .slice ya yl yc, .bool false]), .ex (.agg #[xz3, yz3, .bool i])] (en Tryz.func37) hK (fun V h => (ogroup hFM4 (HD.out.moved (up V h)) (Za5 a) (Za5 c) ⟨_, _, rfl, (HXz3.out.moved (up V h)), (HYz3.out.moved (up V h))⟩ hg hgr).told),
    ok_x [.ex (.int .i64 gr), .ex (.int .i64 gr)] hK (fun V h => ⟨_, _, Zhj rfl rfl rfl _, Below.refl _ _, rfl⟩),
    ok_q hK,
    ok_q hK,
    trivial⟩ ?_
  rintro W12 h  L1 hL1 hK1
  replace HB := hideP (up _ h)
  replace HC5 := hideP (HC5.out.moved h)
  replace HC8 := hideP (HC8.out.moved h)
  replace HB1 := hideP (HB1.out.moved h)
  replace HB2 := hideP (HB2.out.moved h)
  replace HB5 := hideP (HB5.out.moved h)
  replace HB6 := hideP (HB6.out.moved h)
  have hK2 := hK1.to [(5, .pointer (some ⟨C5, 0, none⟩)), (7, cv), (8, .pointer (some ⟨C8, 0, none⟩)), (9, .pointer (some ⟨B1, 0, none⟩)), (10, .pointer (some ⟨B2, 0, none⟩)), (11, .pointer (some ⟨B5, 0, none⟩)), (12, .pointer (some ⟨B6, 0, none⟩)), (52, .bool false)] (by kernel_rfl)
  clear up h hK1 hK hL L
  revert L1
  intro L hL hK
  exact HALL.out _ _ HB.out hL hK
 | false =>
  have up : ∀ V, Up W11 V → Up W11 V := fun _ h => HB.out.trans (h.mono HB.out.size)
  refine ZaA [.ex (cv), .ex (.agg (P4.pt (lo4 a) (lo4 c) i)), .ex (.int .i64 g), .ex (.agg #[.slice ma ml mc, .int .u64 (fo : Int), .slice ta tl tc, .int .i64 1, .slice ba bl bc, .slice ra rl rc, .slice xa xl xc, .slice ya yl yc, .bool false]), .ex (.agg #[xz3, yz3, .bool i]), .ex (.int .i64 g), .ex (.bool false), .ex (.bool false), .ex (.pointer (some ⟨C5, 0, none⟩)), .ex (.int .u64 (limb kk 0 : Nat)), .ex (.int .u64 (limb kk 0 % 8 : Nat)), .ex (.bool false), .ex (.bool false), .ex (undef), .ex (undef), .ex (undef), .ex (undef), .ex (undef), .ex (undef), .ex (undef), .ex (.bool false), .ex (.bool false)] [5, 7, 8, 9, 10, 11, 12, 52] hL hK trivial
    ⟨ok_q hK,
    ok_x [.ex (.pointer (some ⟨B1, 0, none⟩))] hK (fun V h => ⟨_, _, ZaB rfl rfl (loadC _ B1 0 34 _ _ (Zag (HB1.out.moved h).heap) P4.underA rfl (P4.infoA (P4.Zau _ _ _))), Below.refl _ _, rfl⟩),
    ok_c [.ex (cv), .ex (.agg (P4.pt (lo4 a) (lo4 c) i))] (en Tryz.func35) hK (fun V h => (lgood (HC.out.moved (up V h)) (Za5 a) (Za5 c) i hg).told),
    ZaM 0 hK (fun V h => HC8.out.moved h) Zb1 info44,
    ZaM 0 hK (fun V h => HB5.out.moved h) Zbj info42,
    ok_c [.ex (.agg #[.slice ma ml mc, .int .u64 (fo : Int), .slice ta tl tc, .int .i64 1, .slice ba bl bc, .slice ra rl rc, .slice xa xl xc, .slice ya yl yc, .bool false]), .ex (.agg #[xz3, yz3, .bool i])] (en Tryz.func36) hK (fun V h => (ogood hFM4 (HD.out.moved (up V h)) (Za5 a) (Za5 c) ⟨_, _, rfl, (HXz3.out.moved (up V h)), (HYz3.out.moved (up V h))⟩ hg).told),
    ok_x [.ex (.int .i64 g), .ex (.int .i64 g)] hK (fun V h => ⟨_, _, Zhj rfl rfl rfl _, Below.refl _ _, rfl⟩),
    ok_q hK,
    ok_q hK,
    ok_x [.ex (.pointer (some ⟨C5, 0, none⟩))] hK (fun V h => ⟨_, _, ZaB rfl rfl (ld1 (by kernel_rfl) (Zac (HC5.out.moved h).heap rfl)), Below.refl _ _, rfl⟩),
    ok_x [.ex (.int .u64 (limb kk 0 : Nat)), .ex (.int .u64 8)] hK (fun V h => ⟨_, _, Zkp rfl rfl rfl _, Below.refl _ _, rfl⟩),
    ok_x [.ex (.int .u64 (limb kk 0 % 8 : Nat)), .ex (.int .u64 0)] hK (fun V h => ⟨_, _, Zml h8 rfl rfl rfl _, Below.refl _ _, rfl⟩),
    ok_q hK,
    Zdk,
    Zdk,
    Zdk,
    Zdk,
    Zdk,
    Zdk,
    Zdk,
    ok_q hK,
    ok_q hK,
    trivial⟩ ?_
  rintro W12 h  L1 hL1 hK1
  replace HB := hideP (up _ h)
  replace HC5 := hideP (HC5.out.moved h)
  replace HC8 := hideP (HC8.out.moved h)
  replace HB1 := hideP (HB1.out.moved h)
  replace HB2 := hideP (HB2.out.moved h)
  replace HB5 := hideP (HB5.out.moved h)
  replace HB6 := hideP (HB6.out.moved h)
  have hK2 := hK1.to [(5, .pointer (some ⟨C5, 0, none⟩)), (7, cv), (8, .pointer (some ⟨C8, 0, none⟩)), (9, .pointer (some ⟨B1, 0, none⟩)), (10, .pointer (some ⟨B2, 0, none⟩)), (11, .pointer (some ⟨B5, 0, none⟩)), (12, .pointer (some ⟨B6, 0, none⟩)), (52, .bool false)] (by kernel_rfl)
  clear up h hK1 hK hL L
  revert L1
  intro L hL hK
  exact HALL.out _ _ HB.out hL hK
theorem R256 : W4.R = 2 ^ 256 := by decide +kernel
theorem Zkr {k : Nat} (hk : k < W4.R) : shortN k < 2 ^ 256 := by
  rw [R256] at hk
  unfold shortN
  split
  · exact hk
  · exact Nat.lt_of_le_of_lt (Nat.mod_le _ _) hk
theorem Zks {x y : Nat} {i : Bool} {q : P3} (h : x < nBnP ∧ y < nBnP → q.1 < nBnP ∧ q.2.1 < nBnP) : (resP (goodD nBnP x y 3 i) q).1 < W4.R ∧ (resP (goodD nBnP x y 3 i) q).2.1 < W4.R :=
  Zko fun h0 => by
    have := h (Zbr h0)
    exact ⟨lt_R this.1, lt_R this.2⟩
theorem Zgr (a b c d : Nat) (i : Bool) (a2 b2 c2 d2 : Nat) (j : Bool) (k : Nat) (hk : k < W4.R) (w : World) : Calls Tryz.prog 4 #[.agg (pn a b c d i), .agg (pn a2 b2 c2 d2 j), W4.wv k] w fun r w' => r = .returned (.bool true) ∧ Below w.heap.size w w' := by
  have hm : 0 < nBnP := by decide +kernel
  refine law_A rfl (Zkr hk) rfl rfl rfl rfl rfl rfl rfl rfl rfl rfl (Zko fun h0 => ?_) (Zks fun h => ?_) (Zks fun h => Zel hm h) w
  · by_cases hg : goodD nBnP (lo4 a) (lo4 c) 3 i = 0
    · rw [if_pos hg] at h0
      have := Zn0 (i := i) (j := j) (Zbr hg) (Zbr h0)
      exact ⟨lt_R this.1, lt_R this.2⟩
    · rw [if_neg hg] at h0
      exact absurd h0 hg
  · unfold dNeg
    split
    · exact h
    · exact ⟨h.1, Nat.mod_lt _ hm⟩
end Go.Proofs.YtcbdbnfgnonacaaGreat
namespace Go.Proofs.YtcbdbnfgnonacaaGreat
open Go.ChangeShapes Go.WideShapes Go.ChangeAt Go.RowKit Go.Shelf
theorem Tryz.own : ownKnob Tryz.prog.godebug = none := by kernel_rfl
theorem Tryz.laidOut : laidOutB Tryz.prog = true := by kernel_rfl
theorem Tryz.cellsWd : Tryz.prog.cellsOf 65 = 4 := by kernel_rfl
theorem Tryz.cells6 : Tryz.prog.cellsOf 28 = 6 := by kernel_rfl
theorem Tryz.cellsU : Tryz.prog.cellsOf 27 = 1 := by kernel_rfl
theorem Tryz.cellsB : Tryz.prog.cellsOf 4 = 1 := by kernel_rfl
theorem Tryz.cellsPn : Tryz.prog.cellsOf 30 = 25 := by kernel_rfl
theorem Tryz.undWd : Tryz.prog.underlying 65 = some (.array 4 27) := by kernel_rfl
theorem Tryz.und6 : Tryz.prog.underlying 28 = some (.array 6 27) := by kernel_rfl
theorem Tryz.undU : Tryz.prog.underlying 27 = some (.int .u64) := by kernel_rfl
theorem Tryz.undBo : Tryz.prog.underlying 4 = some .bool := by kernel_rfl
theorem Zia {α : Type} {cs : Array α} (h : cs.size = 4) : ∃ c0 c1 c2 c3, cs = #[c0, c1, c2, c3] := by
  match cs, h with
  | ⟨[c0, c1, c2, c3]⟩, _ => exact ⟨c0, c1, c2, c3, rfl⟩
theorem Zl0 {α : Type} {cs : List α} (h : cs.length = 6) : ∃ c0 c1 c2 c3 c4 c5, cs = [c0, c1, c2, c3, c4, c5] := by
  match cs, h with
  | [c0, c1, c2, c3, c4, c5], _ => exact ⟨c0, c1, c2, c3, c4, c5, rfl⟩
theorem Zkt {n : Int} (h : (Lit.int .u64 n).wf = true) : ∃ k : Nat, n = k ∧ k < 18446744073709551616 := by
  have := bounds_u64 h
  exact ⟨n.toNat, by omega, by omega⟩
theorem Zgs {P : Program} {w : World} {r : Reach} {base n : Nat} {t e : TypeId} {v : Value} (ht : P.underlying t = some (.array n e)) (h : Value.okWide P w r base t v) : ∃ cs, v = .agg cs ∧ cs.size = P.cellsOf t := by
  unfold Value.okWide at h
  rw [ht] at h
  obtain ⟨cs, h1, h2, _⟩ := h
  exact ⟨cs, h1, h2⟩
theorem Zf8 {P : Program} {w : World} {r : Reach} {base : Nat} {t : TypeId} {fs : Array Field} {v : Value} (ht : P.underlying t = some (.struct fs)) (h : Value.okWide P w r base t v) : ∃ cs, v = .agg cs ∧ cs.size = P.cellsOf t := by
  unfold Value.okWide at h
  rw [ht] at h
  obtain ⟨cs, h1, h2, _⟩ := h
  exact ⟨cs, h1, h2⟩
section
variable {H : Type} {enc : TypeId × Value → H} {W : World}
theorem Zib {base : Nat} {v : Value} {d : DataW H} {p : List MemPlace} (hok : Value.okWide Tryz.prog W .any base 65 v) (h : DataW.Trod enc Tryz.prog W 0 (fun _ => true) true 65 v d p) : ∃ X : Nat, v = W4.wv X ∧ X < W4.R := by
  obtain ⟨cs, rfl, hsz⟩ := Zgs Tryz.undWd hok
  obtain ⟨c0, c1, c2, c3, rfl⟩ := Zia (hsz.trans Tryz.cellsWd)
  obtain ⟨fuel, hf⟩ := h
  obtain ⟨xs, m, _, hx, _, hl, hi⟩ := DataW.trod_array Tryz.undWd hf
  have g : ∀ i, i < 4 → ∃ n : Nat, n < 18446744073709551616 ∧ ((#[c0, c1, c2, c3] : Array Value).toList.drop i).take 1 = [.int .u64 n] := by
    intro i hi4
    have := hi i hi4
    rw [Tryz.cellsU, Nat.mul_one, List.getElem?_eq_getElem (by omega)] at this
    obtain ⟨n, hn, _, hw⟩ := DataW.trod_int Tryz.undU this
    obtain ⟨k, rfl, hk⟩ := Zkt hw
    exact ⟨k, hk, hn⟩
  obtain ⟨n0, b0, e0⟩ := g 0 (by omega)
  obtain ⟨n1, b1, e1⟩ := g 1 (by omega)
  obtain ⟨n2, b2, e2⟩ := g 2 (by omega)
  obtain ⟨n3, b3, e3⟩ := g 3 (by omega)
  simp only [List.drop_zero, List.drop_succ_cons, List.take_succ_cons, List.take_zero, List.cons.injEq, and_true] at e0 e1 e2 e3
  subst e0 e1 e2 e3
  have hlt : ∀ j, j < 4 → (fun j => if j = 0 then n0 else if j = 1 then n1 else if j = 2 then n2 else n3) j < 18446744073709551616 := fun j _ => by
    simp only
    repeat' split
    all_goals assumption
  exact ⟨val (fun j => if j = 0 then n0 else if j = 1 then n1 else if j = 2 then n2 else n3) 4, W4.Zcf hlt, W4.Zbn hlt⟩
theorem ZhA {fuel : Nat} {l : List Value} {x : DataW H × List MemPlace} (h : DataW.trod enc Tryz.prog W 0 (fun _ => true) true fuel 28 l = some x) : ∃ X : Nat, l = (W6.cs (limb X)).toList ∧ X < W6.R := by
  obtain ⟨xs, m, _, hx, hlen, hl, hi⟩ := DataW.trod_array Tryz.und6 h
  obtain ⟨c0, c1, c2, c3, c4, c5, rfl⟩ := Zl0 (hlen.trans Tryz.cells6)
  have g : ∀ i, i < 6 → ∃ n : Nat, n < 18446744073709551616 ∧ (([c0, c1, c2, c3, c4, c5] : List Value).drop i).take 1 = [.int .u64 n] := by
    intro i hi4
    have := hi i hi4
    rw [Tryz.cellsU, Nat.mul_one, List.getElem?_eq_getElem (by omega)] at this
    obtain ⟨n, hn, _, hw⟩ := DataW.trod_int Tryz.undU this
    obtain ⟨k, rfl, hk⟩ := Zkt hw
    exact ⟨k, hk, hn⟩
  obtain ⟨n0, b0, e0⟩ := g 0 (by omega)
  obtain ⟨n1, b1, e1⟩ := g 1 (by omega)
  obtain ⟨n2, b2, e2⟩ := g 2 (by omega)
  obtain ⟨n3, b3, e3⟩ := g 3 (by omega)
  obtain ⟨n4, b4, e4⟩ := g 4 (by omega)
  obtain ⟨n5, b5, e5⟩ := g 5 (by omega)
  simp only [List.drop_zero, List.drop_succ_cons, List.take_succ_cons, List.take_zero, List.cons.injEq, and_true] at e0 e1 e2 e3 e4 e5
  subst e0 e1 e2 e3 e4 e5
  have hlt : ∀ j, j < 6 → (fun j => if j = 0 then n0 else if j = 1 then n1 else if j = 2 then n2 else if j = 3 then n3 else if j = 4 then n4 else n5) j < 18446744073709551616 := fun j _ => by
    simp only
    repeat' split
    all_goals assumption
  have hv : (Value.agg #[.int .u64 n0, .int .u64 n1, .int .u64 n2, .int .u64 n3, .int .u64 n4, .int .u64 n5]) = W6.wv (val (fun j => if j = 0 then n0 else if j = 1 then n1 else if j = 2 then n2 else if j = 3 then n3 else if j = 4 then n4 else n5) 6) := W6.Zcf hlt
  refine ⟨_, ?_, W6.Zbn hlt⟩
  have h2 := congrArg (fun v => v.cells.toList) hv
  exact h2
theorem cut25 {α : Type} (l : List α) : l = (l.drop 0).take 6 ++ ((l.drop 6).take 6 ++ ((l.drop 12).take 6 ++ ((l.drop 18).take 6 ++ l.drop 24))) := by
  have h1 := List.take_append_drop 6 (l.drop 18)
  have h2 := List.take_append_drop 6 (l.drop 12)
  have h3 := List.take_append_drop 6 (l.drop 6)
  have h4 := List.take_append_drop 6 l
  rw [List.drop_drop] at h1 h2 h3
  rw [h1, h2, h3, List.drop_zero, h4]
theorem ZeI {base : Nat} {v : Value} {d : DataW H} {p : List MemPlace} (hok : Value.okWide Tryz.prog W .any base 30 v) (h : DataW.Trod enc Tryz.prog W 0 (fun _ => true) true 30 v d p) : ∃ (a b c e : Nat) (i : Bool), v = .agg (pn a b c e i) ∧ a < W6.R ∧ b < W6.R ∧ c < W6.R ∧ e < W6.R := by
  obtain ⟨cs, rfl, hsz⟩ := Zf8 Zf3 hok
  obtain ⟨fuel, hf⟩ := h
  obtain ⟨xs, m, _, hx, hl, hlen, hi⟩ := DataW.trod_struct Zf3 hf
  have hl5 : xs.length = 5 := hlen.trans (by kernel_rfl)
  have t0 : ((fsOf (Tryz.prog.underlying 30))[0]!).type = 28 ∧ ((fsOf (Tryz.prog.underlying 30))[0]!).offset = 0 := ⟨by kernel_rfl, by kernel_rfl⟩
  have t1 : ((fsOf (Tryz.prog.underlying 30))[1]!).type = 28 ∧ ((fsOf (Tryz.prog.underlying 30))[1]!).offset = 6 := ⟨by kernel_rfl, by kernel_rfl⟩
  have t2 : ((fsOf (Tryz.prog.underlying 30))[2]!).type = 28 ∧ ((fsOf (Tryz.prog.underlying 30))[2]!).offset = 12 := ⟨by kernel_rfl, by kernel_rfl⟩
  have t3 : ((fsOf (Tryz.prog.underlying 30))[3]!).type = 28 ∧ ((fsOf (Tryz.prog.underlying 30))[3]!).offset = 18 := ⟨by kernel_rfl, by kernel_rfl⟩
  have t4 : ((fsOf (Tryz.prog.underlying 30))[4]!).type = 4 ∧ ((fsOf (Tryz.prog.underlying 30))[4]!).offset = 24 := ⟨by kernel_rfl, by kernel_rfl⟩
  have f0 := hi 0 ((fsOf (Tryz.prog.underlying 30))[0]!) (by kernel_rfl)
  have f1 := hi 1 ((fsOf (Tryz.prog.underlying 30))[1]!) (by kernel_rfl)
  have f2 := hi 2 ((fsOf (Tryz.prog.underlying 30))[2]!) (by kernel_rfl)
  have f3 := hi 3 ((fsOf (Tryz.prog.underlying 30))[3]!) (by kernel_rfl)
  have f4 := hi 4 ((fsOf (Tryz.prog.underlying 30))[4]!) (by kernel_rfl)
  rw [t0.1, t0.2, Tryz.cells6, List.getElem?_eq_getElem (by omega)] at f0
  rw [t1.1, t1.2, Tryz.cells6, List.getElem?_eq_getElem (by omega)] at f1
  rw [t2.1, t2.2, Tryz.cells6, List.getElem?_eq_getElem (by omega)] at f2
  rw [t3.1, t3.2, Tryz.cells6, List.getElem?_eq_getElem (by omega)] at f3
  rw [t4.1, t4.2, Tryz.cellsB, List.getElem?_eq_getElem (by omega)] at f4
  obtain ⟨a, ea, ha⟩ := ZhA f0
  obtain ⟨b, eb, hb⟩ := ZhA f1
  obtain ⟨c, ec, hc⟩ := ZhA f2
  obtain ⟨e, ee, he⟩ := ZhA f3
  obtain ⟨i, ei, _⟩ := DataW.trod_bool Tryz.undBo f4
  refine ⟨a, b, c, e, i, ?_, ha, hb, hc, he⟩
  have hlen25 : (Value.agg cs).cells.toList.length = 25 := hl.trans Tryz.cellsPn
  have h24 : (Value.agg cs).cells.toList.drop 24 = [.bool i] := by
    rw [← ei, List.take_of_length_le (by rw [List.length_drop]; omega)]
  have hcut := cut25 (Value.agg cs).cells.toList
  rw [ea, eb, ec, ee, h24] at hcut
  congr 1
  rw [Zcg]
  apply Array.ext'
  simp only [Array.toList_append]
  exact hcut
end
end Go.Proofs.YtcbdbnfgnonacaaGreat
namespace Go.Proofs.YtcbdbnfgnonacaaGreat
open Go.ChangeShapes Go.WideShapes Go.ChangeAt Go.RowKit Go.Shelf
theorem Zer (os : Os) (started : os.Started) (H : Type) (enc : TypeId × Value → H) :
    ReturnsInHanded {} Tryz.checked os 4 .any (Rows.curveBn1Spec.pre6 enc Tryz.prog Tryz.f4 Rows.curveBn1Row.domain false) (Rows.curveBn1Spec.post enc Tryz.prog Tryz.f4 false true false false) := by
  refine returnsInHanded_of_change_sized (C := Tryz.checked) Tryz.own started (by kernel_rfl) Tryz.func4
    (ChangeSpec.witness6 (enc := enc) (C := Tryz.checked) false ⟨#[], #[.agg #[.int .u64 0, .int .u64 0, .int .u64 0, .int .u64 0, .int .u64 0, .int .u64 0, .int .u64 0, .int .u64 0, .int .u64 0, .int .u64 0, .int .u64 0, .int .u64 0, .int .u64 0, .int .u64 0, .int .u64 0, .int .u64 0, .int .u64 0, .int .u64 0, .int .u64 0, .int .u64 0, .int .u64 0, .int .u64 0, .int .u64 0, .int .u64 0, .bool false], .agg #[.int .u64 0, .int .u64 0, .int .u64 0, .int .u64 0, .int .u64 0, .int .u64 0, .int .u64 0, .int .u64 0, .int .u64 0, .int .u64 0, .int .u64 0, .int .u64 0, .int .u64 0, .int .u64 0, .int .u64 0, .int .u64 0, .int .u64 0, .int .u64 0, .int .u64 0, .int .u64 0, .int .u64 0, .int .u64 0, .int .u64 0, .int .u64 0, .bool false], .agg #[.int .u64 0, .int .u64 0, .int .u64 0, .int .u64 0]], []⟩ 8 (by kernel_rfl) (by kernel_rfl) (by kernel_rfl) (by kernel_rfl)) ?_
  intro W base args ds gs before hval0 hW hcnd hsz0 _
  have hval : ∀ (j : Nat) t v, Tryz.f4.params[j]? = some t → args[j]? = some v → Value.okWide Tryz.prog W .any base t v := hval0
  have hW' := hW
  obtain ⟨p, q, hA0, hV, rfl, hfz, hnd⟩ := hW
  have hA : DataW.TrodAll enc Tryz.prog W 0 (fun _ => true) true Tryz.f4.params.toList args.toList ds p := hA0
  rw [Tryz.params4] at hA hval
  obtain ⟨v0, vs0, d0, ds0, p0, q0, hargs0, rfl, rfl, h0, r0⟩ := trodAll_cons hA
  obtain ⟨v1, vs1, d1, ds1, p1, q1, hargs1, rfl, rfl, h1, r1⟩ := trodAll_cons r0
  obtain ⟨v2, vs2, d2, ds2, p2, q2, hargs2, rfl, rfl, h2, r2⟩ := trodAll_cons r1
  obtain ⟨rfl, rfl, rfl⟩ := trodAll_nil r2
  obtain ⟨rfl, rfl⟩ := trodVars_none hV
  subst hargs2
  subst hargs1
  obtain rfl : args = #[v0, v1, v2] := by cases args; simp_all
  obtain ⟨a0, b0, c0, e0, z0, rfl, _, _, _, _⟩ := ZeI (hval 0 30 v0 rfl rfl) h0
  obtain ⟨a1, b1, c1, e1, z1, rfl, _, _, _, _⟩ := ZeI (hval 1 30 v1 rfl rfl) h1
  obtain ⟨X2, rfl, hX2⟩ := Zib (hval 2 65 v2 rfl rfl) h2
  have hlt : ∀ x ∈ p0 ++ (p1 ++ (p2 ++ ([]))), x.block < W.heap.size := fun x hx => by simpa using hW'.lt x (by simpa using hx)
  have hcall := Zgr a0 b0 c0 e0 z0 a1 b1 c1 e1 z1 X2 hX2 W 
  simp only [List.append_nil] at hW'
  refine hcall.mono fun e W' ⟨he, hb⟩ => ?_
  subst he
  refine ⟨_, rfl, [d0, d1, d2], [], _, [], p0 ++ (p1 ++ (p2 ++ ([]))), [], hW', trodAll_mk1 (shut_bool Tryz.underlying4 true), (trodAll_cons_mk (Below.trod Tryz.laidOut (by kernel_rfl) (of_decide_eq_true (by kernel_rfl)) h0 hb (fun x hx => hlt x (by simp [hx]))) (trodAll_cons_mk (Below.trod Tryz.laidOut (by kernel_rfl) (of_decide_eq_true (by kernel_rfl)) h1 hb (fun x hx => hlt x (by simp [hx]))) (trodAll_cons_mk (Below.trod Tryz.laidOut (by kernel_rfl) (of_decide_eq_true (by kernel_rfl)) h2 hb (fun x hx => hlt x (by simp [hx]))) trodAll_mk0))), rfl, hb.frame _, fun h => by cases h⟩
theorem curveBn1_holds : Rows.CurveBn1Said :=
  OpenClaim.holds_of_wide 4 Tryz.f4 rfl rfl rfl rfl rfl rfl rfl ⟨rfl, rfl, rfl, rfl, rfl⟩ rfl rfl rfl rfl rfl (by kernel_rfl) Tryz.func4 (by kernel_rfl)
    (of_decide_eq_true (by kernel_rfl)) (by unfold Func.isWrapper; first | (rw [if_pos (by decide +kernel)]; kernel_rfl) | (rw [if_neg (by decide +kernel)]; exact ⟨rfl, rfl⟩))
    (fun os started H enc _ => Zer os started H enc)
end Go.Proofs.YtcbdbnfgnonacaaGreat
