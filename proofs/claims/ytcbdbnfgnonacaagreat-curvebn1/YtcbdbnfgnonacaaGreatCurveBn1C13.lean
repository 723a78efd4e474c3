/-
 Sums of points by numbers.
-/
import Derived.Test.YtcbdbnfgnonacaaGreatCurveBn1C12
set_option maxHeartbeats 4000000
set_option maxRecDepth 100000
namespace Go.Proofs.YtcbdbnfgnonacaaGreat.W4
open Go.RowKit Go.Shelf
theorem ZmA {X Y m : Nat} (hX : X < m) (hY : Y < m) (hm : m < R) : (X + (m - Y)) % m = if less1 X Y = 1 then (X + R * less1 X Y - Y + m) % R else X + R * less1 X Y - Y := by
 unfold less1
 by_cases h : X < Y
 ·
  simp only [h, if_true]
  rw [Nat.mod_eq_of_lt (by omega), show X + R * 1 - Y + m = X + (m - Y) + R by omega, Nat.add_mod_right, Nat.mod_eq_of_lt (by omega)]
 ·
  simp only [h, if_false]
  rw [show X + (m - Y) = X - Y + m by omega, Nat.add_mod_right, Nat.mod_eq_of_lt (by omega)]
  simp
theorem ZfU {p m f o r : Nat} {w : World} (hr : RingAt w p m f o r) (h : MF m f) (X Y : Nat) (hX : X < m) (hY : Y < m) :
  Calls Tryz.prog 284 #[.pointer (some ⟨p, 0, none⟩), wv X, wv Y] w fun e w' => e = .returned (wv ((X + (m - Y)) % m)) ∧ Below w.heap.size w w' := by
 have hp : p < w.heap.size := hr.lt
 have hm := h.lt
 have HC := hideP (fun w => Zb7 X Y (by omega) (by omega) w)
 have HP := hideP (fun w => Zd0 (X + R * less1 X Y - Y) m (ZkC (by omega) (by omega)) hm w)
 rw [ZmA hX hY hm]
 have hl1 : less1 X Y = 0 ∨ less1 X Y = 1 := by unfold less1; split <;> simp
 have HR := hideP hr
 clear hr h hm hX hY
 generalize X + R * less1 X Y - Y = D at *
 generalize (D + m) % R = E at *
 generalize (D + m) / R = cE at *
 generalize less1 X Y = b at *
 unfold wv at HC HP ⊢
 have HRES : Hid (Value.agg (cs (limb (if b = 1 then E else D))) = if b = 1 then .agg (cs (limb E)) else .agg (cs (limb D))) := by
  show _ = _
  split <;> rfl
 rw [HRES.out]
 rw [show cs (limb X) = #[.int .u64 (limb X 0), .int .u64 (limb X 1), .int .u64 (limb X 2), .int .u64 (limb X 3)] from rfl, show cs (limb Y) = #[.int .u64 (limb Y 0), .int .u64 (limb Y 1), .int .u64 (limb Y 2), .int .u64 (limb Y 3)] from rfl] at HC ⊢
 rw [show cs (limb D) = #[.int .u64 (limb D 0), .int .u64 (limb D 1), .int .u64 (limb D 2), .int .u64 (limb D 3)] from rfl] at HC
 clear HRES
 go_enter Tryz.func284, Tryz.ntmps284
 go_wp2_with fail
 rename_i Q' KA hKA KB hKB
 have HKA := hideP hKA
 clear hKA
 refine ZcS (fun W0 hW0 => ?_)
 have hD : W0.heap[w.heap.size + 1 + 1]? = some (.cells (cs (fun _ => 0)) 32 (0, 0)) := by
  rw [hW0]
  exact ZaG _ _ _ _
 have HBW : Hid (Below w.heap.size w W0) := by
  show Below _ _ _
  rw [hW0]
  repeat first | exact Below.refl _ _ | (refine Below.alloc ?_ (by simp <;> omega) _)
 clear hW0
 refine (HC.out _).mono ?_
 rintro e w1 ⟨rfl, hb⟩
 have HR1 := hideP (HR.out.belowN hp (HBW.out.trans (hb.mono HBW.out.size)))
 have HD1 := hideP ((hb.block _ (Zab hD)).trans hD)
 have HB1 := hideP (HBW.out.trans (hb.mono HBW.out.size))
 clear hb hD HBW HC HR
 go_wp2_with fail
 refine ZfT (fun W1 hW1 => ?_)
 have h7 : W1.heap[w1.heap.size]? = some (.cells (cs (limb D)) 32 (0, 0)) := by
  rw [hW1]
  exact Zaf _ _
 have hb1 : Below w1.heap.size w1 W1 := by
  rw [hW1]
  exact (Below.refl _ _).alloc (Nat.le_refl _) _
 have HR2 := hideP (HR1.out.below hb1)
 have HD2 := hideP ((hb1.block _ (Zab HD1.out)).trans HD1.out)
 have HB2 := hideP (HB1.out.trans (hb1.mono HB1.out.size))
 have H7 := hideP h7
 have n7 : p ≠ w1.heap.size := by have := HR1.out.lt; omega
 have nD : w.heap.size + 1 + 1 ≠ w1.heap.size := by have := Zab HD1.out; omega
 have nW : w.heap.size ≤ w1.heap.size := HB1.out.size
 clear hW1 hb1 h7 HR1 HD1 HB1
 generalize w1.heap.size = b7 at *
 refine HKA.out _ _ ?_
 refine Zae (fun K1 HK1 => ?_)
 refine Zae (fun K2 HK2 => ?_)
 rcases hl1 with rfl | rfl
 ·
  go_wp2_with fail
  refine HK2.out _ _ ?_
  refine wp_cond_false rfl (wp_skip ?_)
  refine HK1.out _ _ ?_
  refine Za4 (fun _ _ h => h) rfl rfl rfl (by decide) (by show 26 < 27; decide) rfl under rfl (info _) (one _) (Zag H7.out) (Zar HD2.out _) ?_
  intro wS hBut
  exact ⟨by rw [if_neg (show ¬ (0 = 1) by decide)], HB2.out.trans (hBut.below.mono (by omega))⟩
 ·
  go_wp2_with fail
  refine HK2.out _ _ ?_
  refine wp_cond_true rfl ?_
  refine Zai (S := fun V => KP W1 b7 V) (by kernel_rfl) (KP.init H7.out) (fun hS => ?_)
  refine tkG 1 hS ?_
  simp only [Zaa, Zs, Zz]
  refine tkG 2 hS ?_
  simp only [Zaa, Zs, Zz]
  refine tkG 3 hS ?_
  simp only [Zaa, Zs, Zz]
  refine Zak (i := 4) (v := .agg (cs (limb m))) rfl (by kernel_rfl) (by kernel_rfl) (by kernel_rfl) (fun _ _ _ h => h) (yieldsIf_load_mid (by kernel_rfl) 32 _ rfl (p) (0) rfl (cs (limb m)).toList _ (fun V hV => (hV.ring HR2.out n7).mod) under rfl (info _)) hS ?_
  simp only [Zaa, Zs, Zz]
  refine rd1 0 (fun K hK => ?_)
  refine Za7 (by kernel_rfl) ?_
  refine Za8 32 (.tmp 7) 18 rfl rfl (b7) (0) (cs (limb D)) rfl _ (Zag H7.out) under rfl (info _) ?_
  refine hK.out _ _ hS (fun hS => ?_)
  clear hK K
  simp only [Zs, Zz]
  refine rd1 5 (fun K hK => ?_)
  go_simp
  refine (HP.out _).mono ?_
  rintro e w2 ⟨rfl, hbc⟩
  refine hK.out _ _ (hS.call hbc) (fun hS => ?_)
  clear hK K
  clear hbc
  refine tkG 6 hS ?_
  simp only [Zaa, Zs, Zz]
  refine tkG 7 hS ?_
  simp only [Zaa, Zs, Zz]
  refine tkG 8 hS ?_
  simp only [Zaa, Zs, Zz]
  refine rd1 9 (fun K hK => ?_)
  refine Za7 (by kernel_rfl) ?_
  refine Zan 32 (.tmp 7) (.tmp 24) rfl rfl (b7) 0 (cs (limb E)) rfl rfl (hS.there _) (info _) (one _) ?_
  have g1 := hS.put ((limb E))
  have hS9 := hS.store ((limb E))
  clear hS
  generalize World.setCells _ (b7) 0 (cs (limb E)).toList = w3 at g1 hS9 ⊢
  refine hK.out _ _ hS9 (fun hS => ?_)
  clear hK K hS9
  refine wpAnyH_done (by kernel_rfl) ?_ _
  (try simp only [Zas])
  refine HK1.out _ _ ?_
  refine Za4 (fun _ _ h => h) rfl rfl rfl (by decide) (by show 26 < 27; decide) rfl under rfl (info _) (one _) (Zag g1) (Zar (hS.box HD2.out nD) _) ?_
  intro wS hBut
  exact ⟨by rw [if_pos rfl], HB2.out.trans ((hS.below.mono nW).trans (hBut.below.mono (by omega)))⟩
theorem ZcM {m P Q c : Nat} (hQ : Q < m) (hle : P ≤ Q) (h : (P + c) % m = (Q + c) % m) : P = Q := by
 have h1 := Nat.sub_mod_eq_zero_of_mod_eq h.symm
 rw [Nat.add_sub_add_right, Nat.mod_eq_of_lt (by omega)] at h1
 omega
theorem ZhK {m P Q c : Nat} (hP : P < m) (hQ : Q < m) (h : (P + c) % m = (Q + c) % m) : P = Q := by
 rcases Nat.le_total P Q with hle | hle
 ·
  exact ZcM hQ hle h
 ·
  exact (ZcM hP hle h.symm).symm
theorem ZiX (m X k : Nat) : el m (X + m * k) = el m X := by
 rw [← ZlE m (X + m * k), Nat.add_mul_mod_self_left, ZlE]
theorem el_sub {m f : Nat} (h : MF m f) (X Y : Nat) : (el m X + (m - el m Y)) % m = el m (X + (m - Y % m)) := by
 have hy := ZbO h Y
 refine ZhK (c := el m Y) (Nat.mod_lt _ h.pos) (ZbO h _) ?_
 rw [Nat.mod_add_mod, ZlF, show el m X + (m - el m Y) + el m Y = el m X + m by omega, Nat.add_mod_right, Nat.mod_eq_of_lt (ZbO h X)]
 have hY := Nat.mod_add_div Y m
 have hl := Nat.mod_lt Y h.pos
 have e : X + (m - Y % m) + Y = X + m * (Y / m + 1) := by
  rw [Nat.mul_add, Nat.mul_one]
  omega
 rw [e, ZiX]
theorem ZlI {p m f o r : Nat} {w : World} (hr : RingAt w p m f o r) (h : MF m f) (X Y : Nat) :
  Calls Tryz.prog 284 #[.pointer (some ⟨p, 0, none⟩), wv (el m X), wv (el m Y)] w fun e w' => e = .returned (wv (el m (X + (m - Y % m)))) ∧ Below w.heap.size w w' := by
 have := ZfU hr h (el m X) (el m Y) (ZbO h X) (ZbO h Y)
 rw [el_sub h] at this
 exact this
theorem ZmB (m : Nat) : el m 0 = 0 := by unfold el; rw [Nat.zero_mul, Nat.zero_mod]
theorem ZkJ {p m : Nat} {w : World} (hgood : Good w p m) (X Y : Nat) : Calls Tryz.prog 280 #[.pointer (some ⟨p, 0, none⟩), wv (el m X), wv (el m Y)] w fun e w' => e = .returned (wv (el m (X + (m - Y % m)))) ∧ Below w.heap.size w w' := by
 have hp := hgood.lt
 obtain ⟨f, hMF, hr⟩ := hgood.ex
 have HIS := hideP (fun w (hr : RingAt w p m f (el m 1) (el m R)) => ZaS hr hMF)
 have HMF := hideP hMF
 have HR := hideP hr
 clear hr hMF hgood
 unfold wv
 unfold cs
 go_enter Tryz.func280, Tryz.ntmps280
 refine Zae (fun K0 HK0 => ?_)
 go_wp2_with fail
 refine HK0.out _ _ ?_
 clear HK0 K0
 refine Zaj (fun W0 hW0 => ?_)
 have hA : W0.heap[w.heap.size]? = some (.cells (cs (limb (el m X))) 32 (0, 0)) := by
  rw [hW0]
  exact ((Zah _ _ (by simp <;> omega)).trans ((Zah _ _ (by simp <;> omega)).trans (Zaf _ _)))
 have hB : W0.heap[w.heap.size + 1]? = some (.cells (cs (limb (el m Y))) 32 (0, 0)) := by
  rw [hW0]
  exact ((Zah _ _ (by simp <;> omega)).trans (Zat _ _ _))
 have hD : W0.heap[w.heap.size + 1 + 1]? = some (.cells (cs (fun _ => 0)) 32 (0, 0)) := by
  rw [hW0]
  exact ZaG _ _ _ _ 
 have HBW : Hid (Below w.heap.size w W0) := by
  show Below _ _ _
  rw [hW0]
  repeat first | exact Below.refl _ _ | (refine Below.alloc ?_ (by simp <;> omega) _)
 clear hW0
 have HR0 := hideP (HR.out.belowN hp HBW.out)
 have HA := hideP hA
 have HB := hideP hB
 have HD := hideP hD
 clear HR hA hB hD
 have nP : p ≠ w.heap.size + 1 + 1 := by omega
 have nA : w.heap.size ≠ w.heap.size + 1 + 1 := by omega
 have nB : w.heap.size + 1 ≠ w.heap.size + 1 + 1 := by omega
 have nR : w.heap.size ≤ w.heap.size + 1 + 1 := by omega
 generalize hRR : w.heap.size + 1 + 1 = R0 at *
 refine Zae (fun K1 HK1 => ?_)
 refine Zae (fun K2 HK2 => ?_)
 go_wp2_with (go_at_call 281; refine (HIS.out _ HR0.out).mono ?_; rintro e w' ⟨rfl, rfl⟩)
 refine HK2.out _ _ ?_
 clear HK2 K2
 refine wp_cond_true rfl ?_
 obtain ⟨qa0, qa1, qa2, qa3⟩ := cells HA.out
 obtain ⟨qb0, qb1, qb2, qb3⟩ := cells HB.out
 have HC := hideP (ZlI HR0.out HMF.out X Y)
 unfold wv cs at HC
 go_wp2_with fail
 rename_i hKB
 refine HC.out.mono ?_
 rintro e w1 ⟨rfl, hbc⟩
 refine hKB _ _ ?_
 have hS1 := (KP.start HD.out).call hbc
 refine wpList_store_mid rfl 32 (.tmp 6) (.tmp 12) rfl R0 0 (cs (limb (el m (X + (m - Y % m))))) rfl rfl (hS1.there _) (info _) (one _) ?_
 refine wpList_nil ?_
 simp only [Zas]
 have g1 := hS1.put (limb (el m (X + (m - Y % m))))
 have hS := hS1.store (limb (el m (X + (m - Y % m))))
 generalize World.setCells w1 R0 0 (cs (limb (el m (X + (m - Y % m))))).toList = w2 at g1 hS ⊢
 refine HK1.out _ _ ?_
 refine Za4 (fun _ _ h => h) rfl rfl rfl (by decide) (by show 13 < 14; decide) rfl under rfl (info _) (one _) (Zag g1) (Zar g1 _) ?_
 intro wS hBut
 exact ⟨rfl, HBW.out.trans ((hS.below.mono nR).trans (hBut.below.mono nR))⟩
theorem ZmC {p m : Nat} {w : World} (hgood : Good w p m) (X : Nat) : Calls Tryz.prog 277 #[.pointer (some ⟨p, 0, none⟩), wv (el m X)] w fun e w' => e = .returned (wv (el m (m - X % m))) ∧ Below w.heap.size w w' := by
 have hp := hgood.lt
 obtain ⟨f, hMF, hr⟩ := hgood.ex
 have HIS := hideP (fun w (hr : RingAt w p m f (el m 1) (el m R)) => ZaS hr hMF)
 have HMF := hideP hMF
 have HR := hideP hr
 clear hr hMF hgood
 unfold wv
 unfold cs
 go_enter Tryz.func277, Tryz.ntmps277
 refine Zae (fun K0 HK0 => ?_)
 go_wp2_with fail
 refine HK0.out _ _ ?_
 clear HK0 K0
 refine Zaj (fun W0 hW0 => ?_)
 have hA : W0.heap[w.heap.size]? = some (.cells (cs (limb (el m X))) 32 (0, 0)) := by
  rw [hW0]
  exact ((Zah _ _ (by simp <;> omega)).trans (Zaf _ _))
 have hD : W0.heap[w.heap.size + 1]? = some (.cells (cs (fun _ => 0)) 32 (0, 0)) := by
  rw [hW0]
  exact Zat _ _ _ 
 have HBW : Hid (Below w.heap.size w W0) := by
  show Below _ _ _
  rw [hW0]
  repeat first | exact Below.refl _ _ | (refine Below.alloc ?_ (by simp <;> omega) _)
 clear hW0
 have HR0 := hideP (HR.out.belowN hp HBW.out)
 have HA := hideP hA
 have HD := hideP hD
 clear HR hA hD
 have nP : p ≠ w.heap.size + 1 := by omega
 have nA : w.heap.size ≠ w.heap.size + 1 := by omega
 have nR : w.heap.size ≤ w.heap.size + 1 := by omega
 generalize hRR : w.heap.size + 1 = R0 at *
 refine Zae (fun K1 HK1 => ?_)
 refine Zae (fun K2 HK2 => ?_)
 go_wp2_with (go_at_call 281; refine (HIS.out _ HR0.out).mono ?_; rintro e w' ⟨rfl, rfl⟩)
 refine HK2.out _ _ ?_
 clear HK2 K2
 refine wp_cond_true rfl ?_
 refine Zai (S := fun V => KP W0 R0 V) (by kernel_rfl) (KP.init HD.out) (fun hS => ?_)
 refine tkG 0 hS ?_
 simp only [Zaa, Zs, Zz]
 refine Zak (i := 2) (v := .agg (cs (limb (el m X)))) rfl (by kernel_rfl) (by kernel_rfl) (by kernel_rfl) (fun _ _ _ h => h) (yieldsIf_load_mid (by kernel_rfl) 32 _ rfl (w.heap.size) (0) rfl (cs (limb (el m X))).toList _ (fun V hV => Zag (hV.box HA.out nA)) under rfl (info _)) hS ?_
 simp only [Zaa, Zs, Zz]
 have HS1 : Hid (∀ w, Calls Tryz.prog 148 #[.int .u64 (0 : Int)] w fun e w' => e = .returned (wv 0) ∧ Below w.heap.size w w') := fun w => ZbP 0 (by decide) w
 unfold wv at HS1
 refine rd1 1 (fun K hK => ?_)
 go_simp
 refine (HS1.out _).mono ?_
 rintro e w1 ⟨rfl, hbc⟩
 refine hK.out _ _ (hS.call hbc) (fun hS => ?_)
 clear hK K
 clear hbc
 have HC := hideP (ZlI (hS.ring HR0.out nP) HMF.out 0 X)
 rw [ZmB, Nat.zero_add] at HC
 unfold wv at HC
 refine rd1 3 (fun K hK => ?_)
 go_simp
 refine HC.out.mono ?_
 rintro e w1 ⟨rfl, hbc⟩
 refine hK.out _ _ (hS.call hbc) (fun hS => ?_)
 clear hK K
 clear hbc
 refine rd1 4 (fun K hK => ?_)
 refine Za7 (by kernel_rfl) ?_
 refine Zan 32 (.tmp 4) (.tmp 10) rfl rfl (R0) 0 (cs (limb (el m (m - X % m)))) rfl rfl (hS.there _) (info _) (one _) ?_
 have g1 := hS.put ((limb (el m (m - X % m))))
 have hS9 := hS.store ((limb (el m (m - X % m))))
 clear hS
 generalize World.setCells _ (R0) 0 (cs (limb (el m (m - X % m)))).toList = w2 at g1 hS9 ⊢
 refine hK.out _ _ hS9 (fun hS => ?_)
 clear hK K hS9
 refine wpAnyH_done (by kernel_rfl) ?_ _
 (try simp only [Zas])
 refine HK1.out _ _ ?_
 refine Za4 (fun _ _ h => h) rfl rfl rfl (by decide) (by show 11 < 12; decide) rfl under rfl (info _) (one _) (Zag g1) (Zar g1 _) ?_
 intro wS hBut
 exact ⟨rfl, HBW.out.trans ((hS.below.mono nR).trans (hBut.below.mono nR))⟩
end Go.Proofs.YtcbdbnfgnonacaaGreat.W4
namespace Go.Proofs.YtcbdbnfgnonacaaGreat.P4
open Go.RowKit Go.Shelf
abbrev K := Nat
noncomputable def ev (m : Nat) (x : K) : Array Value := Classical.choose (⟨_, rfl⟩ : ∃ C : Array Value, C = W4.cs (limb (W4.el m x)))
theorem Zb0 (m : Nat) (x : K) : ev m x = W4.cs (limb (W4.el m x)) := Classical.choose_spec (⟨_, rfl⟩ : ∃ C : Array Value, C = W4.cs (limb (W4.el m x)))
noncomputable def nv (A : K) : Array Value := Classical.choose (⟨_, rfl⟩ : ∃ C : Array Value, C = W4.cs (limb A))
theorem Za3 (A : K) : nv A = W4.cs (limb A) := Classical.choose_spec (⟨_, rfl⟩ : ∃ C : Array Value, C = W4.cs (limb A))
def Fits (A : K) : Prop := A < W4.R
def rest (m : Nat) (x : K) : K := x % m
def kadd (_m : Nat) (x y : K) : K := x + y
def ksub (m : Nat) (x y : K) : K := x + (m - y % m)
def kneg (m : Nat) (x : K) : K := m - x % m
def kmul (_m : Nat) (x y : K) : K := x * y
def kinv (m : Nat) (x : K) : K := x ^ (m - 2)
theorem ZaF (m : Nat) (x : K) : (ev m x).size = 4 := by rw [Zb0]; rfl
theorem Zao (A : K) : (nv A).size = 4 := by rw [Za3]; rfl
theorem Zb4 (m : Nat) (x : K) : (ev m x).all (·.oneCell') = true := by rw [Zb0]; exact W4.one _
theorem Zba (A : K) : (nv A).all (·.oneCell') = true := by rw [Za3]; exact W4.one _
def ifv (p : Nat) : Value := .iface 113 (.pointer (some ⟨p, 0, none⟩))
def rcv (p : Nat) : Value := .pointer (some ⟨p, 0, none⟩)
abbrev FOK (w : World) (p m : Nat) : Prop := W4.Good w p m
theorem _root_.Go.Proofs.YtcbdbnfgnonacaaGreat.W4.Good.of_same {w w' : World} {p m : Nat} (h : W4.Good w p m) (hp : w'.heap[p]? = w.heap[p]?) : W4.Good w' p m := by
 obtain ⟨f, h1, h2⟩ := h.ex
 exact ⟨f, h1, ⟨hp.trans h2.heap⟩⟩
def k0 : K := 0
def k1 : K := 1
section
variable (p : Nat) (a b : Value) (w : World)
set_option maxRecDepth 100000
theorem cm_Add : (callMethod (ifv p) "Add" #[a, b]).run Tryz.prog w = .ok (.enter 273 #[rcv p, a, b]) w := by kernel_rfl
theorem cm_Sub : (callMethod (ifv p) "Sub" #[a, b]).run Tryz.prog w = .ok (.enter 280 #[rcv p, a, b]) w := by kernel_rfl
theorem cm_Mul : (callMethod (ifv p) "Mul" #[a, b]).run Tryz.prog w = .ok (.enter 276 #[rcv p, a, b]) w := by kernel_rfl
theorem cm_Neg : (callMethod (ifv p) "Neg" #[a]).run Tryz.prog w = .ok (.enter 277 #[rcv p, a]) w := by kernel_rfl
theorem cm_Inv : (callMethod (ifv p) "Inv" #[a]).run Tryz.prog w = .ok (.enter 275 #[rcv p, a]) w := by kernel_rfl
theorem ZgF : (callMethod (ifv p) "In" #[a]).run Tryz.prog w = .ok (.enter 274 #[rcv p, a]) w := by kernel_rfl
theorem na_Add : (nilAhead (Tryz.prog.types.size + Made.depth) 113 (rcv p) "Add").run Tryz.prog w = .ok (some false) w := by kernel_rfl
theorem na_Sub : (nilAhead (Tryz.prog.types.size + Made.depth) 113 (rcv p) "Sub").run Tryz.prog w = .ok (some false) w := by kernel_rfl
theorem na_Mul : (nilAhead (Tryz.prog.types.size + Made.depth) 113 (rcv p) "Mul").run Tryz.prog w = .ok (some false) w := by kernel_rfl
theorem na_Neg : (nilAhead (Tryz.prog.types.size + Made.depth) 113 (rcv p) "Neg").run Tryz.prog w = .ok (some false) w := by kernel_rfl
theorem na_Inv : (nilAhead (Tryz.prog.types.size + Made.depth) 113 (rcv p) "Inv").run Tryz.prog w = .ok (some false) w := by kernel_rfl
theorem ZgG : (nilAhead (Tryz.prog.types.size + Made.depth) 113 (rcv p) "In").run Tryz.prog w = .ok (some false) w := by kernel_rfl
theorem na_Out : (nilAhead (Tryz.prog.types.size + Made.depth) 113 (rcv p) "Out").run Tryz.prog w = .ok (some false) w := by kernel_rfl
theorem cm_Out : (callMethod (ifv p) "Out" #[a]).run Tryz.prog w = .ok (.enter 278 #[rcv p, a]) w := by kernel_rfl
end
section
variable {w : World} {p m : Nat} (hg : FOK w p m) (x y : K)
include hg
theorem c_Add : Calls Tryz.prog 273 #[rcv p, .agg (ev m x), .agg (ev m y)] w fun e w' => e = .returned (.agg (ev m (kadd m x y))) ∧ Below w.heap.size w w' := by
 simp only [Zb0]
 exact W4.ZkF hg x y
theorem c_Sub : Calls Tryz.prog 280 #[rcv p, .agg (ev m x), .agg (ev m y)] w fun e w' => e = .returned (.agg (ev m (ksub m x y))) ∧ Below w.heap.size w w' := by
 simp only [Zb0]
 exact W4.ZkJ hg x y
theorem c_Mul : Calls Tryz.prog 276 #[rcv p, .agg (ev m x), .agg (ev m y)] w fun e w' => e = .returned (.agg (ev m (kmul m x y))) ∧ Below w.heap.size w w' := by
 simp only [Zb0]
 exact W4.ZkE hg x y
theorem c_Neg : Calls Tryz.prog 277 #[rcv p, .agg (ev m x)] w fun e w' => e = .returned (.agg (ev m (kneg m x))) ∧ Below w.heap.size w w' := by
 simp only [Zb0]
 exact W4.ZmC hg x
theorem c_Inv : Calls Tryz.prog 275 #[rcv p, .agg (ev m x)] w fun e w' => e = .returned (.agg (ev m (kinv m x))) ∧ Below w.heap.size w w' := by
 simp only [Zb0]
 exact W4.Zm9 hg x
theorem c_In (hx : Fits x) : Calls Tryz.prog 274 #[rcv p, .agg (nv x)] w fun e w' => e = .returned (.agg (ev m x)) ∧ Below w.heap.size w w' := by
 simp only [Zb0, Za3]
 exact W4.ZiU hg x hx
theorem c_Out : Calls Tryz.prog 278 #[rcv p, .agg (ev m x)] w fun e w' => e = .returned (.agg (nv (rest m x))) ∧ Below w.heap.size w w' := by
 simp only [Zb0, Za3]
 exact W4.ZgE hg x
end
theorem eq_u (d : Nat) (x y : Int) (W : World) : (Op.equalIn (d + 1) 27 (.int .u64 x) (.int .u64 y)).run Tryz.prog W = .ok (x == y) W := by
 unfold Op.equalIn
 simp [go_sem]
theorem eq_l (d : Nat) (a0 a1 a2 a3 b0 b1 b2 b3 : Int) (W : World) : (Op.equalIn (d + 2) 32 (.agg #[.int .u64 a0, .int .u64 a1, .int .u64 a2, .int .u64 a3]) (.agg #[.int .u64 b0, .int .u64 b1, .int .u64 b2, .int .u64 b3])).run Tryz.prog W = .ok (a0 == b0 && (a1 == b1 && (a2 == b2 && (a3 == b3)))) W := by
 unfold Op.equalIn
 simp [go_sem, List.range', eq_u]
 by_cases h0 : a0 = b0 <;> by_cases h1 : a1 = b1 <;> by_cases h2 : a2 = b2 <;> by_cases h3 : a3 = b3 <;> simp [go_sem, h0, h1, h2, h3]
theorem eqv (d : Nat) {X Y : Nat} (hX : X < W4.R) (hY : Y < W4.R) (W : World) : (Op.equalIn (d + 2) 32 (.agg (nv X)) (.agg (nv Y))).run Tryz.prog W = .ok (decide (X = Y)) W := by
 rw [Za3, Za3]
 refine (eq_l d (limb X 0 : Int) (limb X 1 : Int) (limb X 2 : Int) (limb X 3 : Int) (limb Y 0 : Int) (limb Y 1 : Int) (limb Y 2 : Int) (limb Y 3 : Int) W).trans ?_
 congr 1
 rw [Bool.eq_iff_iff, decide_eq_true_eq]
 simp only [Bool.and_eq_true, beq_iff_eq]
 constructor
 ·
  rintro ⟨h0, h1, h2, h3⟩
  rw [← W4.Zal hX, ← W4.Zal hY]
  refine Za0 _ (fun j hj => ?_)
  match j, hj with
  | 0, _ => omega
  | 1, _ => omega
  | 2, _ => omega
  | 3, _ => omega
  | k + 4, h => exact absurd h (by omega)
 ·
  rintro rfl
  exact ⟨rfl, rfl, rfl, rfl⟩
def Like (m : Nat) (x y : K) : Prop := W4.el m x = W4.el m y
instance (m : Nat) (x y : K) : Decidable (Like m x y) := inferInstanceAs (Decidable (_ = _))
theorem ZiY {w : World} {p m : Nat} (hg : FOK w p m) (x : K) : W4.el m x < W4.R := by
 obtain ⟨f, h1, h2⟩ := hg.ex
 exact Nat.lt_of_lt_of_le (W4.ZbO h1 x) (Nat.le_of_lt h1.lt)
theorem eqE (d : Nat) {w : World} {p m : Nat} (hg : FOK w p m) (x y : K) (W : World) : (Op.equalIn (d + 2) 32 (.agg (ev m x)) (.agg (ev m y))).run Tryz.prog W = .ok (decide (Like m x y)) W := by
 have h := eqv d (ZiY hg x) (ZiY hg y) W
 rw [Za3, Za3] at h
 rw [Zb0, Zb0]
 exact h
theorem ZkK {w : World} {p m : Nat} (hg : FOK w p m) (x : K) : Fits (rest m x) := by
 obtain ⟨f, h1, h2⟩ := hg.ex
 have h3 := W4.ZbO h1 x
 exact Nat.lt_trans (Nat.mod_lt _ (by omega)) h1.lt
theorem ZgH (m : Nat) (x : K) : ev m (rest m x) = ev m x := by
 rw [Zb0, Zb0]
 unfold rest W4.el
 rw [Nat.mod_mul_mod]
theorem Zfl : Fits k0 := Nat.pos_of_ne_zero (by decide +kernel)
theorem eqN (d : Nat) {x y : K} (hx : Fits x) (hy : Fits y) (W : World) : (Op.equalIn (d + 2) 32 (.agg (nv x)) (.agg (nv y))).run Tryz.prog W = .ok (decide (x = y)) W := eqv d hx hy W
theorem underE : Tryz.prog.underlying 32 = some (.array 4 27) := by kernel_rfl
theorem infoE {C : Array Value} (h : C.size = 4) : (Tryz.prog.info? 32).map (·.size) = some C.size := by rw [h]; kernel_rfl
structure GAt (w : World) (g p m : Nat) (b : K) : Prop where
 fld : w.cell? ⟨g, 0, none⟩ = some (ifv p)
 zero : w.rangeAt g 1 (ev m k0).toList
 one : w.rangeAt g (1 + 4) (ev m k1).toList
 b : w.rangeAt g (1 + 2 * 4) (ev m b).toList
 ok : FOK w p m
 glt : g < w.heap.size
 plt : p < w.heap.size
theorem Zay {w w' : World} {g o : Nat} {l : List Value} (h : w'.heap[g]? = w.heap[g]?) (hr : w.rangeAt g o l) : w'.rangeAt g o l := fun j v hv => by
 have := hr j v hv
 unfold World.cell? at this ⊢
 rw [h]
 exact this
theorem GAt.same {w w' : World} {g p m : Nat} {b : K} (h : GAt w g p m b) (hg : w'.heap[g]? = w.heap[g]?) (hp : w'.heap[p]? = w.heap[p]?) (hs : w.heap.size ≤ w'.heap.size) : GAt w' g p m b :=
 ⟨by have := h.fld; unfold World.cell? at this ⊢; rw [hg]; exact this, Zay hg h.zero, Zay hg h.one, Zay hg h.b, h.ok.of_same hp, Nat.lt_of_lt_of_le h.glt hs, Nat.lt_of_lt_of_le h.plt hs⟩
theorem GAt.below {w w' : World} {g p m : Nat} {b : K} (h : GAt w g p m b) (hb : Below w.heap.size w w') : GAt w' g p m b := h.same (hb.block _ h.glt) (hb.block _ h.plt) hb.size
theorem GAt.kq {W V : World} {R0 n ty g p m : Nat} {b : K} (h : GAt W g p m b) (hS : KQ W R0 n ty V) (h1 : g ≠ R0) (h2 : p ≠ R0) : GAt V g p m b := h.same (hS.same _ h.glt h1) (hS.same _ h.plt h2) hS.size
def zn : Array Value := Array.replicate 4 (.int .u64 0)
theorem Zfm : zn.size = 4 := rfl
noncomputable def pl (m : Nat) (x y : K) : Array Value := Classical.choose (⟨_, rfl⟩ : ∃ C : Array Value, C = ev m x ++ ev m y)
theorem ZfV (m : Nat) (x y : K) : pl m x y = ev m x ++ ev m y := Classical.choose_spec (⟨_, rfl⟩ : ∃ C : Array Value, C = ev m x ++ ev m y)
noncomputable def sc (m : Nat) (x y z : K) : Array Value := Classical.choose (⟨_, rfl⟩ : ∃ C : Array Value, C = pl m x y ++ ev m z)
theorem ZiZ (m : Nat) (x y z : K) : sc m x y z = pl m x y ++ ev m z := Classical.choose_spec (⟨_, rfl⟩ : ∃ C : Array Value, C = pl m x y ++ ev m z)
noncomputable def pt (x y : K) (i : Bool) : Array Value := Classical.choose (⟨_, rfl⟩ : ∃ C : Array Value, C = nv x ++ (nv y ++ #[.bool i]))
theorem Zbh (x y : K) (i : Bool) : pt x y i = nv x ++ (nv y ++ #[.bool i]) := Classical.choose_spec (⟨_, rfl⟩ : ∃ C : Array Value, C = nv x ++ (nv y ++ #[.bool i]))
theorem Zdb (m : Nat) (x y : K) : (pl m x y).size = 2 * 4 := by rw [ZfV, Array.size_append, ZaF, ZaF]
theorem Zec (m : Nat) (x y z : K) : (sc m x y z).size = 3 * 4 := by rw [ZiZ, Array.size_append, Zdb, ZaF]
theorem Zau (x y : K) (i : Bool) : (pt x y i).size = 2 * 4 + 1 := by rw [Zbh, Array.size_append, Array.size_append, Zao, Zao]; rfl
theorem Zbb {A B : Array Value} (h1 : A.all (·.oneCell') = true) (h2 : B.all (·.oneCell') = true) : (A ++ B).all (·.oneCell') = true := by
 rw [Array.all_append, h1, h2]; rfl
theorem ZlJ (m : Nat) (x y : K) : (pl m x y).all (·.oneCell') = true := by
 rw [ZfV]
 exact Zbb (Zb4 _ _) (Zb4 _ _)
theorem ZlK (m : Nat) (x y z : K) : (sc m x y z).all (·.oneCell') = true := by
 rw [ZiZ]
 exact Zbb (ZlJ _ _ _) (Zb4 _ _)
theorem Zdm (x y : K) (i : Bool) : (pt x y i).all (·.oneCell') = true := by
 rw [Zbh]
 exact Zbb (Zba _) (Zbb (Zba _) (by simp [Value.oneCell']))
theorem ZmD : Tryz.prog.underlying 262 = some (.struct (fsOf (Tryz.prog.underlying 262))) := by kernel_rfl
theorem Zfn : Tryz.prog.underlying 264 = some (.struct (fsOf (Tryz.prog.underlying 264))) := by kernel_rfl
theorem Zed : Tryz.prog.underlying 125 = some (.struct (fsOf (Tryz.prog.underlying 125))) := by kernel_rfl
theorem infoPl {C : Array Value} (h : C.size = 2 * 4) : (Tryz.prog.info? 262).map (·.size) = some C.size := by rw [h]; kernel_rfl
theorem infoSc {C : Array Value} (h : C.size = 3 * 4) : (Tryz.prog.info? 264).map (·.size) = some C.size := by rw [h]; kernel_rfl
theorem infoPt {C : Array Value} (h : C.size = 2 * 4 + 1) : (Tryz.prog.info? 125).map (·.size) = some C.size := by rw [h]; kernel_rfl
section
variable {w : World} {b t m : Nat} {x y z : K} {i : Bool}
theorem pt_x (h : w.heap[b]? = some (.cells (pt x y i) t (0, 0))) : w.rangeAt b 0 (nv x).toList := by
 refine Zbt (A := #[]) (C := nv y ++ #[.bool i]) (t := t) ?_ rfl
 rw [h, Zbh, Array.empty_append]
theorem pt_y (h : w.heap[b]? = some (.cells (pt x y i) t (0, 0))) : w.rangeAt b 4 (nv y).toList := by
 refine Zbt (A := nv x) (C := #[.bool i]) (t := t) ?_ (Zao _)
 rw [h, Zbh]
theorem pt_i (h : w.heap[b]? = some (.cells (pt x y i) t (0, 0))) : w.cell? ⟨b, 2 * 4, none⟩ = some (.bool i) := by
 have := Zbt (w := w) (b := b) (t := t) (A := nv x ++ nv y) (B := #[.bool i]) (C := #[]) (o := 2 * 4) (by rw [h, Zbh, Array.append_empty, Array.append_assoc]) (by rw [Array.size_append, Zao, Zao])
 exact this 0 _ rfl
end
theorem ZcB : nv k0 = zn := by first | (rw [Za3]; rfl) | (rw [Za3, P4.Za3, P4.Za3]; rfl)
theorem gqE : Tryz.prog.eqGuardType Tryz.prog.depth 32 = false := by kernel_rfl
theorem gqPl : Tryz.prog.eqGuardType Tryz.prog.depth 262 = false := by kernel_rfl
theorem eqPl {w : World} {p m : Nat} (hg : FOK w p m) (x y x' y' : K) (W : World) : (Op.equalIn 10000 262 (.agg (pl m x y)) (.agg (pl m x' y'))).run Tryz.prog W = .ok (decide (Like m x x') && decide (Like m y y')) W := by
 have iE : (Tryz.prog.info? 32).map (·.size) = some 4 := by rw [infoE (ZaF m x), ZaF]
 rw [ZfV, ZfV]
 exact ZiR (f1 := (fsOf (Tryz.prog.underlying 262))[0]!) (f2 := (fsOf (Tryz.prog.underlying 262))[1]!) (e1 := 32) (e2 := 32) (d := 9999) (n1 := 4) (n2 := 4) (by kernel_rfl) (by kernel_rfl) (by decide +kernel) (by decide +kernel) (by kernel_rfl) (by kernel_rfl) (by kernel_rfl) (by kernel_rfl)
  underE rfl iE underE rfl iE (ZaF _ _) (ZaF _ _) (ZaF _ _) (ZaF _ _) (eqE 9997 hg x x' W) (eqE 9997 hg y y' W)
theorem gqPt : Tryz.prog.eqGuardType Tryz.prog.depth 125 = false := by kernel_rfl
theorem eqB (d : Nat) (a b : Bool) (W : World) : (Op.equalIn (d + 1) 4 (.bool a) (.bool b)).run Tryz.prog W = .ok (a == b) W := by
 unfold Op.equalIn
 simp [go_sem]
theorem eqPt {x y x' y' : K} (hx : Fits x) (hy : Fits y) (hx' : Fits x') (hy' : Fits y') (i i' : Bool) (W : World) : (Op.equalIn 10000 125 (.agg (pt x y i)) (.agg (pt x' y' i'))).run Tryz.prog W = .ok (decide (x = x') && (decide (y = y') && (i == i'))) W := by
 have iE : (Tryz.prog.info? 32).map (·.size) = some 4 := by rw [infoE (Zao x), Zao]
 rw [Zbh, Zbh]
 exact ZdP (f1 := (fsOf (Tryz.prog.underlying 125))[0]!) (f2 := (fsOf (Tryz.prog.underlying 125))[1]!) (f3 := (fsOf (Tryz.prog.underlying 125))[2]!) (e1 := 32) (e2 := 32) (e3 := 4) (d := 9999) (n1 := 4) (n2 := 4) (by kernel_rfl) (by kernel_rfl) (by decide +kernel) (by decide +kernel) (by decide +kernel) (by kernel_rfl) (by kernel_rfl) (by kernel_rfl) (by kernel_rfl) (by kernel_rfl) (by kernel_rfl)
  underE rfl iE underE rfl iE (by kernel_rfl) (Zao _) (Zao _) (Zao _) (Zao _) (eqN 9997 hx hx' W) (eqN 9997 hy hy' W) (eqB 9998 i i' W)
def sz : Nat → Nat
 | 2 => 4
 | _ => 4
noncomputable def likeB (m : Nat) (x y : K) : Bool := Classical.choose (⟨_, rfl⟩ : ∃ c : Bool, c = decide (Like m x y))
theorem ZaP (m : Nat) (x y : K) : likeB m x y = decide (Like m x y) := Classical.choose_spec (⟨_, rfl⟩ : ∃ c : Bool, c = decide (Like m x y))
structure Dt where
 m : Nat
 g : Nat
 p : Nat
 b : K
 bx : K
 bY : K
 kw : Nat
 v : Nat → K
 bo : Nat → Bool
 cv : Nat
noncomputable abbrev al (D : Dt) : Al sz where
 K := K
 v := D.v
 c := fun k => match k with
  | 0 => k0
  | 1 => k1
  | 2 => D.b
  | 3 => D.bx
  | _ => D.bY
 u := fun k x => match k with
  | 0 => kneg D.m x
  | 1 => kinv D.m x
  | _ => rest D.m x
 b := fun k x y => match k with
  | 0 => kadd D.m x y
  | 1 => ksub D.m x y
  | _ => kmul D.m x y
 cells := fun k x => match k with
  | 0 => ev D.m x
  | 2 => W4.cs (limb D.kw)
  | _ => nv x
 hs := fun k x => match k with
  | 0 => ZaF D.m x
  | 1 => Zao x
  | 2 => rfl
  | _ + 3 => Zao x
 h1 := fun k x => match k with
  | 0 => Zb4 D.m x
  | 1 => Zba x
  | 2 => W4.one _
  | _ + 3 => Zba x
 lk := fun k x y => match k with
  | 0 => likeB D.m x y
  | _ => decide (x = y)
 bo := D.bo
 xb := fun i => match i with
  | 0 => D.g
  | _ => D.cv
 ov := fun _ => ifv D.p
 ho := fun _ => ⟨rfl, rfl⟩
def ft (fl : Nat → Bool) : EX → Bool
 | .v i => fl i
 | .c 0 => true
 | .u 2 _ => true
 | _ => false
def bq : CX → CX → Option CX
 | x, .lit true => some x
 | x, .lit false => some (.no x)
 | .lit true, y => some y
 | .lit false, y => some (.no y)
 | _, _ => none
def eI (fl : Nat → Bool) (s : String) (xs : List SV) : Option SV := match xs with
 | [.one (.ov _), .row [.e 0 x], .row [.e 0 y]] => if s = "Add" then some (.row [.e 0 (.b 0 x y)]) else if s = "Sub" then some (.row [.e 0 (.b 1 x y)]) else if s = "Mul" then some (.row [.e 0 (.b 2 x y)]) else none
 | [.one (.ov _), .row [.e 0 x]] => if s = "Neg" then some (.row [.e 0 (.u 0 x)]) else if s = "Inv" then some (.row [.e 0 (.u 1 x)]) else if s = "Out" then some (.row [.e 1 (.u 2 x)]) else none
 | [.one (.ov _), .row [.e 1 x]] => if s = "In" ∧ ft fl x = true then some (.row [.e 0 x]) else none
 | _ => none
def eX0 (o t : Nat) : Option SV := if o = 0 ∧ t = 232 then some (.one (.ov 0)) else if o = 1 ∧ t = 32 then some (.row [.e 0 (.c 0)]) else if o = 1 + 4 ∧ t = 32 then some (.row [.e 0 (.c 1)]) else if o = 1 + 2 * 4 ∧ t = 32 then some (.row [.e 0 (.c 2)]) else none
def eX (XL : Nat → Nat → Nat → Option SV) (i o t : Nat) : Option SV := match XL i o t with
 | some y => some y
 | none => match i with
  | 0 => eX0 o t
  | _ => none
abbrev zE : Ch := .e 1 (.c 0)
abbrev fE : Ch := .s (.cx (.lit false))
abbrev zI : Ch := .s (.v (.int .u64 0))
def eZ (t : Nat) : Option (List Ch) := if t = 32 then some [zE] else if t = 262 then some [zE, zE] else if t = 264 then some [zE, zE, zE] else if t = 125 then some [zE, zE, fE] else if t = 34 then some [zE, zE, fE] else if t = 127 then some [zE, zE, zE, zE, fE, zI, zI, zI, zI] else if t = 235 then some [.s (.v .nilIface), zE, zE, zE, zE, zE, fE, zI, zI, zI, zI] else none
def eE (fl : Nat → Bool) (t : Nat) (l m : List Ch) : Option CX := match l, m with
 | [.e 0 x], [.e 0 y] => if t = 32 then some (.lk 0 x y) else none
 | [.e 1 x], [.e 1 y] => if t = 32 ∧ ft fl x = true ∧ ft fl y = true then some (.lk 1 x y) else none
 | [.e 0 x, .e 0 y], [.e 0 z, .e 0 u] => if t = 262 then some (.an (.lk 0 x z) (.lk 0 y u)) else none
 | [.e 1 x, .e 1 y, .s (.cx i)], [.e 1 z, .e 1 u, .s (.cx j)] => if t = 125 ∧ ft fl x = true ∧ ft fl y = true ∧ ft fl z = true ∧ ft fl u = true then (bq i j).map fun q => .an (.lk 1 x z) (.an (.lk 1 y u) q) else none
 | _, _ => none
structure FAt (w : World) (p m : Nat) : Prop where
 ok : FOK w p m
 plt : p < w.heap.size
theorem FAt.below {w w' : World} {p m : Nat} (h : FAt w p m) (hb : Below w.heap.size w w') : FAt w' p m := ⟨h.ok.of_same (hb.block _ h.plt), Nat.lt_of_lt_of_le h.plt hb.size⟩
def envF (fl : Nat → Bool) (G : List (CX × Bool)) (X : Nat → List SV → Option SV) (XL : Nat → Nat → Nat → Option SV) (T : Nat → List SV → Option SV) : Env := ⟨aheadT X T, eI fl, XL, eZ, eE fl, G, fun s _ => s == "Add" || (s == "Sub" || (s == "Mul" || (s == "Neg" || (s == "Inv" || (s == "In" || s == "Out")))))⟩
def env (fl : Nat → Bool) (G : List (CX × Bool)) (X : Nat → List SV → Option SV) (XL : Nat → Nat → Nat → Option SV) (T : Nat → List SV → Option SV) : Env := envF fl G X (eX XL) T
theorem Zdc {w : World} {D : Dt} {fl : Nat → Bool} (HG : FOK w D.p D.m) (hv : ∀ i, fl i = true → Fits (D.v i)) {x : EX} (h : ft fl x = true) : Fits ((al D).d x) := by
 unfold ft at h
 split at h
 ·
  exact hv _ h
 ·
  exact Zfl
 ·
  exact ZkK HG _
 ·
  cases h
theorem bq_ok {A : Al sz} {x y q : CX} (h : bq x y = some q) : A.cx q = (A.cx x == A.cx y) := by
 unfold bq at h
 split at h
 ·
  cases h; simp [Al.cx]
 ·
  cases h; simp [Al.cx]
 ·
  cases h; simp [Al.cx]
 ·
  cases h; simp [Al.cx]
 ·
  cases h
section
variable {D : Dt} {β : Nat → Nat}
theorem rw_e (x : EX) : ((al D).rw β [.e 0 x]).toArray = ev D.m ((al D).d x) := by simp [Al.rw, Al.ch, al]
theorem rw_n (x : EX) : ((al D).rw β [.e 1 x]).toArray = nv ((al D).d x) := by simp [Al.rw, Al.ch, al]
theorem ZgI (x y : EX) : ((al D).rw β [.e 0 x, .e 0 y]).toArray = pl D.m ((al D).d x) ((al D).d y) := by
 rw [ZfV]
 apply Array.toList_inj.1
 simp [Al.rw, Al.ch, al]
theorem ZcN (x y z : EX) : ((al D).rw β [.e 0 x, .e 0 y, .e 0 z]).toArray = sc D.m ((al D).d x) ((al D).d y) ((al D).d z) := by
 rw [ZiZ, ZfV]
 apply Array.toList_inj.1
 simp [Al.rw, Al.ch, al]
theorem Zbo (x y : EX) (i : CX) : ((al D).rw β [.e 1 x, .e 1 y, .s (.cx i)]).toArray = pt ((al D).d x) ((al D).d y) ((al D).cx i) := by
 rw [Zbh]
 apply Array.toList_inj.1
 simp [Al.rw, Al.ch, al, Al.sc]
theorem rw_w (x : EX) : ((al D).rw β [.e 2 x]).toArray = W4.cs (limb D.kw) := by simp [Al.rw, Al.ch]
theorem sv_e (x : EX) : (al D).sv β (.row [.e 0 x]) = .agg (ev D.m ((al D).d x)) := by rw [Al.sv, rw_e]
end
theorem x_ok {w : World} {D : Dt} (HG : GAt w D.g D.p D.m D.b) {q t : Nat} {y : SV} (β : Nat → Nat) {V : World} (hV : Below w.heap.size w V) (h : eX0 q t = some y) : (loadVar t ⟨D.g, q, none⟩).run Tryz.prog V = .ok ((al D).sv β y) V := by
 have H := HG.below hV
 unfold eX0 at h
 split at h
 ·
  rename_i hc
  obtain ⟨rfl, rfl⟩ := hc
  cases h
  exact ld1 (by kernel_rfl) H.fld
 ·
  split at h
  ·
   rename_i hc
   obtain ⟨rfl, rfl⟩ := hc
   cases h
   rw [sv_e]
   exact loadC V D.g _ _ _ _ H.zero underE rfl (infoE (ZaF _ _))
  ·
   split at h
   ·
    rename_i hc
    obtain ⟨rfl, rfl⟩ := hc
    cases h
    rw [sv_e]
    exact loadC V D.g _ _ _ _ H.one underE rfl (infoE (ZaF _ _))
   ·
    split at h
    ·
     rename_i hc
     obtain ⟨rfl, rfl⟩ := hc
     cases h
     rw [sv_e]
     exact loadC V D.g _ _ _ _ H.b underE rfl (infoE (ZaF _ _))
    ·
     cases h
def XLOK {sz : Nat → Nat} (A : Al sz) (XL : Nat → Nat → Nat → Option SV) (w : World) : Prop := ∀ i q t y β V, XL i q t = some y → Below w.heap.size w V → (loadVar t ⟨A.xb i, q, none⟩).run Tryz.prog V = .ok (A.sv β y) V
theorem XLOK.mono {sz : Nat → Nat} {A : Al sz} {XL : Nat → Nat → Nat → Option SV} {w V : World} (h : XLOK A XL w) (hV : Below w.heap.size w V) : XLOK A XL V := fun i q t y β U e hU => h i q t y β U e (hV.trans (hU.mono hV.size))
theorem z_ok {D : Dt} {t : Nat} {l : List Ch} (β : Nat → Nat) (V : World) (h : eZ t = some l) : ∃ z, (zeroValue t).run Tryz.prog V = .ok z V ∧ z.cells = ((al D).rw β l).toArray := by
 have hz : ((al D).ch β zE) = zn.toList := by
  show (nv k0).toList = _
  rw [ZcB]
 unfold eZ at h
 split at h
 ·
  rename_i hc
  subst hc
  cases h
  refine ⟨.agg zn, by kernel_rfl, ?_⟩
  simp only [Al.rw, hz]
  rfl
 rename_i hc
 clear hc
 split at h
 ·
  rename_i hc
  subst hc
  cases h
  refine ⟨.agg (zn ++ zn), by kernel_rfl, ?_⟩
  simp only [Al.rw, hz]
  rfl
 rename_i hc
 clear hc
 split at h
 ·
  rename_i hc
  subst hc
  cases h
  refine ⟨.agg (zn ++ zn ++ zn), by kernel_rfl, ?_⟩
  simp only [Al.rw, hz]
  rfl
 rename_i hc
 clear hc
 split at h
 ·
  rename_i hc
  subst hc
  cases h
  refine ⟨.agg (zn ++ zn ++ #[.bool false]), by kernel_rfl, ?_⟩
  simp only [Al.rw, hz]
  rfl
 rename_i hc
 clear hc
 split at h
 ·
  rename_i hc
  subst hc
  cases h
  refine ⟨.agg (zn ++ zn ++ #[.bool false]), by kernel_rfl, ?_⟩
  simp only [Al.rw, hz]
  rfl
 rename_i hc
 clear hc
 split at h
 ·
  rename_i hc
  subst hc
  cases h
  refine ⟨.agg (zn ++ zn ++ zn ++ zn ++ #[.bool false] ++ Array.replicate 4 (.int .u64 0)), by kernel_rfl, ?_⟩
  simp only [Al.rw, hz]
  rfl
 rename_i hc
 clear hc
 split at h
 ·
  rename_i hc
  subst hc
  cases h
  refine ⟨.agg (#[.nilIface] ++ zn ++ zn ++ zn ++ zn ++ zn ++ #[.bool false] ++ Array.replicate 4 (.int .u64 0)), by kernel_rfl, ?_⟩
  simp only [Al.rw, hz]
  rfl
 rename_i hc
 clear hc
 cases h
theorem e_ok {w : World} {D : Dt} {fl : Nat → Bool} (HG : FOK w D.p D.m) (hv : ∀ i, fl i = true → Fits (D.v i)) {t : Nat} {l k : List Ch} {c : CX} (β : Nat → Nat) (V : World) (h : eE fl t l k = some c) : Tryz.prog.eqGuardType Tryz.prog.depth t = false ∧ (Op.equalIn 10000 t (.agg ((al D).rw β l).toArray) (.agg ((al D).rw β k).toArray)).run Tryz.prog V = .ok ((al D).cx c) V := by
 have hF := HG
 unfold eE at h
 split at h
 ·
  split at h
  ·
   rename_i hc
   subst hc
   cases h
   rw [rw_e, rw_e]
   exact ⟨gqE, (eqE 9998 hF _ _ V).trans (by rw [← ZaP]; rfl)⟩
  ·
   cases h
 ·
  split at h
  ·
   rename_i hc
   obtain ⟨rfl, h1, h2⟩ := hc
   cases h
   rw [rw_n, rw_n]
   exact ⟨gqE, eqN 9998 (Zdc HG hv h1) (Zdc HG hv h2) V⟩
  ·
   cases h
 ·
  split at h
  ·
   rename_i hc
   subst hc
   cases h
   rw [ZgI, ZgI]
   exact ⟨gqPl, (eqPl hF _ _ _ _ V).trans (by rw [← ZaP, ← ZaP]; rfl)⟩
  ·
   cases h
 ·
  split at h
  ·
   rename_i hc
   obtain ⟨rfl, h1, h2, h3, h4⟩ := hc
   obtain ⟨q, hq, rfl⟩ := Option.map_eq_some_iff.1 h
   rw [Zbo, Zbo]
   refine ⟨gqPt, (eqPt (Zdc HG hv h1) (Zdc HG hv h2) (Zdc HG hv h3) (Zdc HG hv h4) _ _ V).trans ?_⟩
   simp only [Al.cx, bq_ok hq]
  ·
   cases h
 ·
  cases h
theorem Zb9 {w : World} {D : Dt} {fl : Nat → Bool} {G : List (CX × Bool)} {X T : Nat → List SV → Option SV} {XL : Nat → Nat → Nat → Option SV} (HG : FAt w D.p D.m) (hv : ∀ i, fl i = true → Fits (D.v i)) (hG : ∀ x ∈ G, (al D).cx x.1 = x.2) (hX : TOK Tryz.prog (al D) X w) (hL : XLOK (al D) XL w) (hT : TOK Tryz.prog (al D) T w) : EnvOK Tryz.prog (al D) (envF fl G X XL T) w where
 G := hG
 F := fun s i h => by
  refine ⟨_, _, rfl, fun V => ?_⟩
  simp only [envF, Bool.or_eq_true, beq_iff_eq] at h
  rcases h with rfl | rfl | rfl | rfl | rfl | rfl | rfl
  ·
   exact na_Add D.p V
  ·
   exact na_Sub D.p V
  ·
   exact na_Mul D.p V
  ·
   exact na_Neg D.p V
  ·
   exact na_Inv D.p V
  ·
   exact ZgG D.p V
  ·
   exact na_Out D.p V
 T := Zdy hX hT
 I := fun s xs y β V h hV => by
  have hF := (HG.below hV).ok
  have h : eI fl s xs = some y := h
  unfold eI at h
  split at h
  ·
   split at h
   ·
    cases h; rename_i hs; subst hs; exact ⟨_, _, cm_Add D.p _ _ V, by simpa [Al.sv, Al.rw, Al.ch, al, Al.d] using c_Add hF _ _⟩
   ·
    split at h
    ·
     cases h; rename_i hs; subst hs; exact ⟨_, _, cm_Sub D.p _ _ V, by simpa [Al.sv, Al.rw, Al.ch, al, Al.d] using c_Sub hF _ _⟩
    ·
     split at h
     ·
      cases h; rename_i hs; subst hs; exact ⟨_, _, cm_Mul D.p _ _ V, by simpa [Al.sv, Al.rw, Al.ch, al, Al.d] using c_Mul hF _ _⟩
     ·
      cases h
  ·
   split at h
   ·
    cases h; rename_i hs; subst hs; exact ⟨_, _, cm_Neg D.p _ V, by simpa [Al.sv, Al.rw, Al.ch, al, Al.d] using c_Neg hF _⟩
   ·
    split at h
    ·
     cases h; rename_i hs; subst hs; exact ⟨_, _, cm_Inv D.p _ V, by simpa [Al.sv, Al.rw, Al.ch, al, Al.d] using c_Inv hF _⟩
    ·
     split at h
     ·
      cases h; rename_i hs; subst hs; exact ⟨_, _, cm_Out D.p _ V, by simpa [Al.sv, Al.rw, Al.ch, al, Al.d] using c_Out hF _⟩
     ·
      cases h
  ·
   split at h
   ·
    cases h; rename_i hs; obtain ⟨rfl, hx⟩ := hs; exact ⟨_, _, ZgF D.p _ V, by simpa [Al.sv, Al.rw, Al.ch, al, Al.d] using c_In hF _ (Zdc HG.ok hv hx)⟩
   ·
    cases h
  ·
   cases h
 X := hL
 Z := fun t l β V h => z_ok β V h
 E := fun t l k c β V h => e_ok HG.ok hv β V h
theorem eX_ok {w : World} {D : Dt} {XL : Nat → Nat → Nat → Option SV} (HG : GAt w D.g D.p D.m D.b) (hL : XLOK (al D) XL w) : XLOK (al D) (eX XL) w := fun i q t y β V h hV => by
 unfold eX at h
 split at h
 ·
  rename_i z hz
  cases h
  exact hL i q t y β V hz hV
 ·
  split at h
  ·
   exact x_ok HG β hV h
  ·
   cases h
noncomputable def ens : List (TEn Tryz.prog) := [⟨238, Tryz.f238, Tryz.func238, enters_of Tryz.func238 (by kernel_rfl) rfl⟩,
 ⟨174, Tryz.f174, Tryz.func174, enters_of Tryz.func174 (by kernel_rfl) rfl⟩,
 ⟨182, Tryz.f182, Tryz.func182, enters_of Tryz.func182 (by kernel_rfl) rfl⟩,
 ⟨228, Tryz.f228, Tryz.func228, enters_of Tryz.func228 (by kernel_rfl) rfl⟩,
 ⟨173, Tryz.f173, Tryz.func173, enters_of Tryz.func173 (by kernel_rfl) rfl⟩,
 ⟨230, Tryz.f230, Tryz.func230, enters_of Tryz.func230 (by kernel_rfl) rfl⟩,
 ⟨179, Tryz.f179, Tryz.func179, enters_of Tryz.func179 (by kernel_rfl) rfl⟩,
 ⟨181, Tryz.f181, Tryz.func181, enters_of Tryz.func181 (by kernel_rfl) rfl⟩,
 ⟨180, Tryz.f180, Tryz.func180, enters_of Tryz.func180 (by kernel_rfl) rfl⟩,
 ⟨111, Tryz.f111, Tryz.func111, enters_of Tryz.func111 (by kernel_rfl) rfl⟩,
 ⟨85, Tryz.f85, Tryz.func85, enters_of Tryz.func85 (by kernel_rfl) rfl⟩,
 ⟨102, Tryz.f102, Tryz.func102, enters_of Tryz.func102 (by kernel_rfl) rfl⟩,
 ⟨117, Tryz.f117, Tryz.func117, enters_of Tryz.func117 (by kernel_rfl) rfl⟩,
 ⟨122, Tryz.f122, Tryz.func122, enters_of Tryz.func122 (by kernel_rfl) rfl⟩,
 ⟨103, Tryz.f103, Tryz.func103, enters_of Tryz.func103 (by kernel_rfl) rfl⟩,
 ⟨83, Tryz.f83, Tryz.func83, enters_of Tryz.func83 (by kernel_rfl) rfl⟩,
 ⟨84, Tryz.f84, Tryz.func84, enters_of Tryz.func84 (by kernel_rfl) rfl⟩,
 ⟨162, Tryz.f162, Tryz.func162, enters_of Tryz.func162 (by kernel_rfl) rfl⟩,
 ⟨178, Tryz.f178, Tryz.func178, enters_of Tryz.func178 (by kernel_rfl) rfl⟩]
noncomputable def tab : Nat → Option Func := tabL ens
theorem Zee : TabOK Tryz.prog tab := Zg8 ens
theorem mixed : Tryz.prog.follows .mixedOrders = true := by kernel_rfl
noncomputable abbrev runG (fl : Nat → Bool) (G : List (CX × Bool)) (X : Nat → List SV → Option SV) (XL : Nat → Nat → Nat → Option SV) (fn : Func) (args : List SV) : Option SV := runS Tryz.prog sz (env fl G X XL (Tk Tryz.prog sz (env fl G X XL) tab 6)) fn 100 args
theorem ZfW {w : World} {D : Dt} {fl : Nat → Bool} {G : List (CX × Bool)} {X : Nat → List SV → Option SV} {XL : Nat → Nat → Nat → Option SV} (HG : FAt w D.p D.m) (hv : ∀ i, fl i = true → Fits (D.v i)) (hG : ∀ x ∈ G, (al D).cx x.1 = x.2) (hX : TOK Tryz.prog (al D) X w) (hL : XLOK (al D) XL w) : EnvOK Tryz.prog (al D) (envF fl G X XL (Tk Tryz.prog sz (envF fl G X XL) tab 6)) w :=
 Zb9 HG hv hG hX hL (ZiM (A := al D) mixed Zee (fun _ _ hV hT => Zb9 (HG.below hV) hv hG (hX.mono hV) (hL.mono hV) hT) 6 w (Below.refl _ _))
theorem Zh0 {w : World} (D : Dt) (fl : Nat → Bool) (G : List (CX × Bool)) {X : Nat → List SV → Option SV} {XL : Nat → Nat → Nat → Option SV} (HG : GAt w D.g D.p D.m D.b) (hv : ∀ i, fl i = true → Fits (D.v i)) (hG : ∀ x ∈ G, (al D).cx x.1 = x.2) (hX : TOK Tryz.prog (al D) X w) (hL : XLOK (al D) XL w) {f : Nat} {fn : Func} (hf : Tryz.prog.funcs[f]? = some fn) {args : List SV} {y : SV} (h : runG fl G X XL fn args = some y) (β : Nat → Nat) :
  Calls Tryz.prog f (args.map ((al D).sv β)).toArray w fun e w' => e = .returned ((al D).sv β y) ∧ Below w.heap.size w w' :=
 ZfQ mixed (ZfW ⟨HG.ok, HG.plt⟩ hv hG hX (eX_ok HG hL)) hf h
theorem noL {A : Al sz} (w : World) : XLOK A (fun _ _ _ => none) w := fun _ _ _ _ _ _ h => by cases h
abbrev T3 := K × K × K
noncomputable def scS (m : Nat) (s : T3) : Array Value := sc m s.1 s.2.1 s.2.2
def red (m : Nat) (s : T3) : T3 := (rest m s.1, rest m s.2.1, rest m s.2.2)
theorem Zfo (m : Nat) (s : T3) : scS m (red m s) = scS m s := by
 unfold scS red
 rw [ZiZ, ZiZ, ZfV, ZfV, ZgH, ZgH, ZgH]
def dblS (m : Nat) (s : T3) : T3 :=
 let x := s.1
 let y := s.2.1
 let z := s.2.2
 let sq := kmul m y y
 let t1 := kmul m x sq
 let t2 := kadd m t1 t1
 let mid := kadd m t2 t2
 let sl0 := kmul m x x
 let sl := kadd m sl0 (kadd m sl0 sl0)
 let X := ksub m (kmul m sl sl) (kadd m mid mid)
 let q1 := kmul m sq sq
 let q2 := kadd m q1 q1
 let q3 := kadd m q2 q2
 let Y := ksub m (kmul m sl (ksub m mid X)) (kadd m q3 q3)
 (X, Y, kadd m (kmul m y z) (kmul m y z))
def addS (m : Nat) (s : T3) (q : K × K) : T3 :=
 let x := s.1
 let y := s.2.1
 let z := s.2.2
 let sq := kmul m z z
 let X := kmul m q.1 sq
 let Y := kmul m q.2 (kmul m sq z)
 let across := ksub m X x
 let up := ksub m Y y
 let sq2 := kmul m across across
 let cube := kmul m sq2 across
 let mid := kmul m x sq2
 let X3 := ksub m (ksub m (kmul m up up) cube) (kadd m mid mid)
 let Y3 := ksub m (kmul m up (ksub m mid X3)) (kmul m y cube)
 (X3, Y3, kmul m z across)
def plusS (m : Nat) (s : T3) (q : K × K) : T3 :=
 if Like m s.2.2 k0 then (q.1, q.2, k1)
 else if Like m (kmul m q.1 (kmul m s.2.2 s.2.2)) s.1 ∧ Like m (kmul m q.2 (kmul m (kmul m s.2.2 s.2.2) s.2.2)) s.2.1 then dblS m s
 else addS m s q
def nofit : Nat → Bool := fun _ => false
def fit2 : Nat → Bool
 | 0 => true
 | 1 => true
 | _ => false
def noX : Nat → Nat → Nat → Option SV := fun _ _ _ => none
abbrev gp0 : SV := .one (.xp 0 0)
abbrev ptE (x y : EX) (i : CX) : SV := .row [.e 1 x, .e 1 y, .s (.cx i)]
abbrev plE (x y : EX) : SV := .row [.e 0 x, .e 0 y]
abbrev v5 (x y z u t : K) : Nat → K
 | 0 => x
 | 1 => y
 | 2 => z
 | 3 => u
 | _ => t
theorem fits2 {x y z u t : K} (hx : Fits x) (hy : Fits y) : ∀ i, fit2 i = true → Fits (v5 x y z u t i)
 | 0, _ => hx
 | 1, _ => hy
 | _ + 2, h => by cases h
abbrev dt (m g p : Nat) (b : K) (v : Nat → K) (i : Bool) : Dt := ⟨m, g, p, b, b, b, 0, v, fun _ => i, 0⟩
section
variable {w : World} {g p m : Nat} {b : K} (HG : GAt w g p m b) (x y z : K)
include HG
theorem Zdn (v : Nat → K) (G : List (CX × Bool)) (hG : ∀ x ∈ G, (al (dt m g p b v false)).cx x.1 = x.2) {f : Nat} {fn : Func} (hf : Tryz.prog.funcs[f]? = some fn) {args : List SV} {y : SV} (h : runG nofit G noT noX fn args = some y) :
  Calls Tryz.prog f (args.map ((al (dt m g p b v false)).sv fun _ => 0)).toArray w fun e w' => e = .returned ((al (dt m g p b v false)).sv (fun _ => 0) y) ∧ Below w.heap.size w w' := Zh0 (dt m g p b v false) nofit G HG (fun _ h => by cases h) hG (ZdN w) (noL w) hf h _
theorem Zh1 (v : Nat → K) (i : Bool) (hv : ∀ i, fit2 i = true → Fits (v i)) (G : List (CX × Bool)) (hG : ∀ x ∈ G, (al (dt m g p b v i)).cx x.1 = x.2) {f : Nat} {fn : Func} (hf : Tryz.prog.funcs[f]? = some fn) {args : List SV} {y : SV} (h : runG fit2 G noT noX fn args = some y) :
  Calls Tryz.prog f (args.map ((al (dt m g p b v i)).sv fun _ => 0)).toArray w fun e w' => e = .returned ((al (dt m g p b v i)).sv (fun _ => 0) y) ∧ Below w.heap.size w w' := Zh0 (dt m g p b v i) fit2 G HG hv hG (ZdN w) (noL w) hf h _
set_option maxRecDepth 100000
theorem Zbq : Calls Tryz.prog 230 #[.pointer (some ⟨g, 0, none⟩), .agg (sc m x y z)] w fun e w' => e = .returned (.agg (scS m (dblS m (x, y, z)))) ∧ Below w.heap.size w w' := by
 have := Zdn HG (v5 x y z x x) [] (fun _ h => by cases h) Tryz.func230 (args := [gp0, scE (.v 0, .v 1, .v 2)]) (y := scE (dblE (.v 0) (.v 1) (.v 2))) (by kernel_rfl)
 simp only [scE, Al.sv, List.map_cons, List.map_nil, ZcN] at this
 exact this
theorem Zd0 (a c : K) : Calls Tryz.prog 180 #[.pointer (some ⟨g, 0, none⟩), .agg (sc m x y z), .agg (pl m a c)] w fun e w' => e = .returned (.agg (scS m (plusS m (x, y, z) (a, c)))) ∧ Below w.heap.size w w' := by
 unfold plusS
 by_cases hz : Like m z k0
 ·
  rw [if_pos hz]
  have := Zdn HG (v5 x y z a c) [(.lk 0 (.v 2) (.c 0), true)] (fun q h => by simp only [List.mem_singleton] at h; subst h; exact (ZaP _ _ _).trans (decide_eq_true hz)) Tryz.func180 (args := [gp0, scE (.v 0, .v 1, .v 2), plE (.v 3) (.v 4)]) (y := scE (.v 3, .v 4, .c 1)) (by kernel_rfl)
  simp only [scE, Al.sv, List.map_cons, List.map_nil, ZcN, ZgI] at this
  exact this
 ·
  rw [if_neg hz]
  by_cases hq : Like m (kmul m a (kmul m z z)) x ∧ Like m (kmul m c (kmul m (kmul m z z) z)) y
  ·
   rw [if_pos hq]
   have := Zdn HG (v5 x y z a c) [(.lk 0 (.v 2) (.c 0), false), (.lk 0 (.mu (.v 3) (.mu (.v 2) (.v 2))) (.v 0), true), (.lk 0 (.mu (.v 4) (.mu (.mu (.v 2) (.v 2)) (.v 2))) (.v 1), true)] (fun q h => by
    simp only [List.mem_cons, List.not_mem_nil, or_false] at h
    rcases h with rfl | rfl | rfl
    ·
     exact (ZaP _ _ _).trans (decide_eq_false hz)
    ·
     exact (ZaP _ _ _).trans (decide_eq_true hq.1)
    ·
     exact (ZaP _ _ _).trans (decide_eq_true hq.2)) Tryz.func180 (args := [gp0, scE (.v 0, .v 1, .v 2), plE (.v 3) (.v 4)]) (y := scE (dblE (.v 0) (.v 1) (.v 2))) (by kernel_rfl)
   simp only [scE, Al.sv, List.map_cons, List.map_nil, ZcN, ZgI] at this
   exact this
  ·
   rw [if_neg hq]
   have := Zdn HG (v5 x y z a c) [(.lk 0 (.v 2) (.c 0), false), (.an (.lk 0 (.mu (.v 3) (.mu (.v 2) (.v 2))) (.v 0)) (.lk 0 (.mu (.v 4) (.mu (.mu (.v 2) (.v 2)) (.v 2))) (.v 1)), false)] (fun q h => by
    simp only [List.mem_cons, List.not_mem_nil, or_false] at h
    rcases h with rfl | rfl
    ·
     exact (ZaP _ _ _).trans (decide_eq_false hz)
    ·
     show (likeB m _ _ && likeB m _ _) = false
     rw [ZaP, ZaP, ← Bool.decide_and]
     exact decide_eq_false hq) Tryz.func180 (args := [gp0, scE (.v 0, .v 1, .v 2), plE (.v 3) (.v 4)]) (y := scE (addE (.v 0) (.v 1) (.v 2) (.v 3) (.v 4))) (by kernel_rfl)
   simp only [scE, Al.sv, List.map_cons, List.map_nil, ZcN, ZgI] at this
   exact this
theorem at_any (i : Bool) (hx : Fits x) (hy : Fits y) : Calls Tryz.prog 182 #[.pointer (some ⟨g, 0, none⟩), .agg (pt x y i)] w fun e w' => e = .returned (.agg (pl m x y)) ∧ Below w.heap.size w w' := by
 have := Zh1 HG (v5 x y x x x) i (fits2 hx hy) [] (fun _ h => by cases h) Tryz.func182 (args := [gp0, ptE (.v 0) (.v 1) (.at_ 0)]) (y := plE (.v 0) (.v 1)) (by kernel_rfl)
 simp only [Al.sv, List.map_cons, List.map_nil, ZgI, Zbo] at this
 exact this
theorem ZgJ : Calls Tryz.prog 228 #[.pointer (some ⟨g, 0, none⟩)] w fun e w' => e = .returned (.agg (sc m k1 k1 k0)) ∧ Below w.heap.size w w' := by
 have := Zdn HG (v5 b b b b b) [] (fun _ h => by cases h) Tryz.func228 (args := [gp0]) (y := scE (.c 1, .c 1, .c 0)) (by kernel_rfl)
 simp only [scE, Al.sv, List.map_cons, List.map_nil, ZcN] at this
 exact this
theorem Zja : Calls Tryz.prog 181 #[.pointer (some ⟨g, 0, none⟩), .agg (pt x y true)] w fun e w' => e = .returned (.agg (sc m k1 k1 k0)) ∧ Below w.heap.size w w' := by
 have := Zdn HG (v5 x y x x x) [] (fun _ h => by cases h) Tryz.func181 (args := [gp0, ptE (.v 0) (.v 1) (.lit true)]) (y := scE (.c 1, .c 1, .c 0)) (by kernel_rfl)
 simp only [scE, Al.sv, List.map_cons, List.map_nil, ZcN, Zbo] at this
 exact this
theorem Zjb (hx : Fits x) (hy : Fits y) : Calls Tryz.prog 181 #[.pointer (some ⟨g, 0, none⟩), .agg (pt x y false)] w fun e w' => e = .returned (.agg (sc m x y k1)) ∧ Below w.heap.size w w' := by
 have := Zh1 HG (v5 x y x x x) false (fits2 hx hy) [] (fun _ h => by cases h) Tryz.func181 (args := [gp0, ptE (.v 0) (.v 1) (.lit false)]) (y := scE (.v 0, .v 1, .c 1)) (by kernel_rfl)
 simp only [scE, Al.sv, List.map_cons, List.map_nil, ZcN, Zbo] at this
 exact this
theorem ZkL (hz : Like m z k0) : Calls Tryz.prog 179 #[.pointer (some ⟨g, 0, none⟩), .agg (sc m x y z)] w fun e w' => e = .returned (.agg (pt k0 k0 true)) ∧ Below w.heap.size w w' := by
 have := Zdn HG (v5 x y z x x) [(.lk 0 (.v 2) (.c 0), true)] (fun q h => by simp only [List.mem_singleton] at h; subst h; exact (ZaP _ _ _).trans (decide_eq_true hz)) Tryz.func179 (args := [gp0, scE (.v 0, .v 1, .v 2)]) (y := ptE (.c 0) (.c 0) (.lit true)) (by kernel_rfl)
 simp only [scE, Al.sv, List.map_cons, List.map_nil, ZcN, Zbo] at this
 exact this
theorem ZgE (hz : ¬ Like m z k0) : Calls Tryz.prog 179 #[.pointer (some ⟨g, 0, none⟩), .agg (sc m x y z)] w fun e w' => e = .returned (.agg (pt (rest m (kmul m x (kmul m (kinv m z) (kinv m z)))) (rest m (kmul m y (kmul m (kmul m (kinv m z) (kinv m z)) (kinv m z)))) false)) ∧ Below w.heap.size w w' := by
 have := Zdn HG (v5 x y z x x) [(.lk 0 (.v 2) (.c 0), false)] (fun q h => by simp only [List.mem_singleton] at h; subst h; exact (ZaP _ _ _).trans (decide_eq_false hz)) Tryz.func179 (args := [gp0, scE (.v 0, .v 1, .v 2)]) (y := ptE (.u 2 (.mu (.v 0) (.mu (.u 1 (.v 2)) (.u 1 (.v 2))))) (.u 2 (.mu (.v 1) (.mu (.mu (.u 1 (.v 2)) (.u 1 (.v 2))) (.u 1 (.v 2))))) (.lit false)) (by kernel_rfl)
 simp only [scE, Al.sv, List.map_cons, List.map_nil, ZcN, Zbo] at this
 exact this
def goodN (m : Nat) (b x y : K) (i : Bool) : Int :=
 if i = true then (if (decide (x = k0) && (decide (y = k0) && (true == true))) = true then 0 else 70)
 else if rest m x = x then (if rest m y = y then (if Like m (kmul m y y) (kadd m (kmul m (kmul m x x) x) b) then 0 else 71) else 70) else 70
theorem Ze8 (hx : Fits x) (hy : Fits y) (i : Bool) (G : List (CX × Bool)) (k : Int) (hG : ∀ q ∈ G, (al (dt m g p b (v5 x y x x x) i)).cx q.1 = q.2) (h : runG fit2 G noT noX Tryz.f111 [gp0, ptE (.v 0) (.v 1) (.lit i)] = some (.one (.v (.int .i64 k)))) :
  Calls Tryz.prog 111 #[.pointer (some ⟨g, 0, none⟩), .agg (pt x y i)] w fun e w' => e = .returned (.int .i64 k) ∧ Below w.heap.size w w' := by
 have := Zh1 HG (v5 x y x x x) i (fits2 hx hy) G hG Tryz.func111 h
 simp only [Al.sv, List.map_cons, List.map_nil, Zbo] at this
 exact this
theorem ZkM (hx : Fits x) (hy : Fits y) (i : Bool) : Calls Tryz.prog 111 #[.pointer (some ⟨g, 0, none⟩), .agg (pt x y i)] w fun e w' => e = .returned (.int .i64 (goodN m b x y i)) ∧ Below w.heap.size w w' := by
 unfold goodN
 cases i with
 | true =>
  rw [if_pos rfl]
  by_cases h : (decide (x = k0) && (decide (y = k0) && (true == true))) = true
  ·
   rw [if_pos h]
   have h' : x = k0 ∧ y = k0 := by simpa using h
   exact Ze8 HG x y hx hy true [(.lk 1 (.v 0) (.c 0), true), (.lk 1 (.v 1) (.c 0), true)] 0 (fun q hq => by
    simp only [List.mem_cons, List.not_mem_nil, or_false] at hq
    rcases hq with rfl | rfl
    ·
     exact decide_eq_true h'.1
    ·
     exact decide_eq_true h'.2) (by kernel_rfl)
  ·
   rw [if_neg h]
   have h' : ¬ (x = k0 ∧ y = k0) := by simpa using h
   exact Ze8 HG x y hx hy true [(.an (.lk 1 (.v 0) (.c 0)) (.lk 1 (.v 1) (.c 0)), false)] 70 (fun q hq => by
    simp only [List.mem_singleton] at hq
    subst hq
    show (decide (x = k0) && decide (y = k0)) = false
    rw [← Bool.decide_and]
    exact decide_eq_false h') (by kernel_rfl)
 | false =>
  rw [if_neg (by decide)]
  by_cases h1 : rest m x = x
  ·
   rw [if_pos h1]
   by_cases h2 : rest m y = y
   ·
    rw [if_pos h2]
    by_cases h3 : Like m (kmul m y y) (kadd m (kmul m (kmul m x x) x) b)
    ·
     rw [if_pos h3]
     exact Ze8 HG x y hx hy false [(.lk 1 (.u 2 (.v 0)) (.v 0), true), (.lk 1 (.u 2 (.v 1)) (.v 1), true), (.lk 0 (.mu (.v 1) (.v 1)) (.ad (.mu (.mu (.v 0) (.v 0)) (.v 0)) (.c 2)), true)] 0 (fun q hq => by
      simp only [List.mem_cons, List.not_mem_nil, or_false] at hq
      rcases hq with rfl | rfl | rfl
      ·
       exact decide_eq_true h1
      ·
       exact decide_eq_true h2
      ·
       exact (ZaP _ _ _).trans (decide_eq_true h3)) (by kernel_rfl)
    ·
     rw [if_neg h3]
     exact Ze8 HG x y hx hy false [(.lk 1 (.u 2 (.v 0)) (.v 0), true), (.lk 1 (.u 2 (.v 1)) (.v 1), true), (.lk 0 (.mu (.v 1) (.v 1)) (.ad (.mu (.mu (.v 0) (.v 0)) (.v 0)) (.c 2)), false)] 71 (fun q hq => by
      simp only [List.mem_cons, List.not_mem_nil, or_false] at hq
      rcases hq with rfl | rfl | rfl
      ·
       exact decide_eq_true h1
      ·
       exact decide_eq_true h2
      ·
       exact (ZaP _ _ _).trans (decide_eq_false h3)) (by kernel_rfl)
   ·
    rw [if_neg h2]
    exact Ze8 HG x y hx hy false [(.lk 1 (.u 2 (.v 0)) (.v 0), true), (.lk 1 (.u 2 (.v 1)) (.v 1), false)] 70 (fun q hq => by
     simp only [List.mem_cons, List.not_mem_nil, or_false] at hq
     rcases hq with rfl | rfl
     ·
      exact decide_eq_true h1
     ·
      exact decide_eq_false h2) (by kernel_rfl)
  ·
   rw [if_neg h1]
   exact Ze8 HG x y hx hy false [(.lk 1 (.u 2 (.v 0)) (.v 0), false)] 70 (fun q hq => by
    simp only [List.mem_singleton] at hq
    subst hq
    exact decide_eq_false h1) (by kernel_rfl)
end
end Go.Proofs.YtcbdbnfgnonacaaGreat.P4
namespace Go.Proofs.YtcbdbnfgnonacaaGreat
open Go.RowKit Go.Shelf
attribute [local go_sem] Oper.semAt_some
def bl (k : Nat) : Nat := if k = 0 then 0 else k.log2 + 1
theorem ZfX (k i : Nat) : i < bl k ↔ 2 ^ i ≤ k := by
 unfold bl
 by_cases h : k = 0
 ·
  subst h
  rw [if_pos rfl]
  have := Nat.two_pow_pos i
  omega
 ·
  rw [if_neg h, ← Nat.le_log2 h]
  omega
theorem bl_lt (k : Nat) : k < 2 ^ bl k := by
 rcases Nat.lt_or_ge k (2 ^ bl k) with h | h
 ·
  exact h
 ·
  exact absurd ((ZfX k (bl k)).2 h) (Nat.lt_irrefl _)
theorem bl_le {k n : Nat} (h : k < 2 ^ n) : bl k ≤ n := by
 rcases Nat.lt_or_ge n (bl k) with h' | h'
 ·
  exact absurd ((ZfX k n).1 h') (by omega)
 ·
  exact h'
def bitq (k q : Nat) : Bool := decide (k / 2 ^ (bl k - 1 - q) % 2 = 1)
theorem Zjc (k i : Nat) : limb k (i / 64) / 2 ^ (i % 64) % 2 = k / 2 ^ i % 2 := by
 unfold limb
 have e : (18446744073709551616 : Nat) = 2 ^ 64 := by decide
 have h : i = 64 * (i / 64) + i % 64 := by omega
 have hm : i % 64 < 64 := Nat.mod_lt _ (by decide)
 generalize i / 64 = a at *
 generalize i % 64 = b at *
 subst h
 rw [e, ← Nat.pow_mul, Nat.pow_add, ← Nat.div_div_eq_div_mul]
 generalize k / 2 ^ (64 * a) = x
 have e2 : (2 : Nat) ^ 64 = 2 ^ b * (2 * 2 ^ (63 - b)) := by rw [← Nat.mul_assoc, Nat.mul_comm (2 ^ b) 2, ← Nat.pow_succ', ← Nat.pow_add]; congr 1; omega
 rw [e2, Nat.mod_mul_right_div_self, Nat.mod_mul_right_mod]
theorem ZmE {k n : Nat} (h : k < 2 ^ (n + 1)) : k / 2 ^ n % 2 = 1 ↔ n < bl k := by
 rw [ZfX]
 have h2 : k / 2 ^ n < 2 := (Nat.div_lt_iff_lt_mul (Nat.two_pow_pos n)).2 (by rw [Nat.pow_succ] at h; omega)
 rw [Nat.mod_eq_of_lt h2]
 constructor
 ·
  intro h1
  have := Nat.div_mul_le_self k (2 ^ n)
  rw [h1] at this
  omega
 ·
  intro h1
  have : 1 ≤ k / 2 ^ n := (Nat.le_div_iff_mul_le (Nat.two_pow_pos n)).2 (by omega)
  omega
def RowK (B k : Nat) (W : World) : Prop := W.heap[B]? = some (.cells (W4.cs (limb k)) 65 (0, 0))
def KpK (B k : Nat) (W W' : World) : Prop := RowK B k W → RowK B k W'
theorem Zjd (m : Nat) (hm : 1 ≤ m) (l B k : Nat) (hk : k < 2 ^ 256) (J : Nat → World → Prop) (Jx : World → Prop)
  (hY : ∀ (q : Nat) (V : World), q < bl k → J q V → YieldAt Fence.wide (m - 1) Tryz.prog l #[.bool (bitq k q)] V fun e V' => (e = .returned (.bool true) ∧ J (q + 1) V' ∧ KpK B k V V') ∨ (e = .returned (.bool false) ∧ Jx V'))
  (W : World) (hr : RowK B k W) (h0 : J 0 W) :
  CallsIn Fence.wide m Tryz.prog 251 #[.func (.yield l) #[] #[], .pointer (some ⟨B, 0, none⟩)] W fun e W' => (∃ v, e = .returned v) ∧ (J (bl k) W' ∨ Jx W') := by
 have HR := hideP hr
 have HY := hideP hY
 have HL := hideP (bl_le hk)
 clear hY hr hk
 refine callsIn_of_wp Tryz.func251 rfl trivial ?_ rfl
 simp only [Tryz.ntmps251, List.size_toArray, List.length_cons, List.length_nil, Nat.reduceAdd, Nat.reduceSub, Array.replicate_succ, Array.replicate_zero, List.push_toArray, List.append_toArray, List.nil_append, List.cons_append]
 gi_wp2
 gi_loopw [3, 4] (fun b i wr => ∃ n : Nat, n ≤ 256 ∧ b = .bool (decide (n < bl k)) ∧ i = .int .i64 ((n : Int) - 1) ∧ J (bl k - n) wr ∧ Hid (RowK B k wr)) (fun _ i _ => (intOf i + 1).toNat)
 case atStart =>
  have := HL.out
  exact ⟨256, Nat.le_refl _, by rw [decide_eq_false (by omega)], rfl, by rw [show bl k - 256 = 0 by omega]; exact h0, HR⟩
 case round =>
  obtain ⟨n, hn, rfl, rfl, hJ, hR⟩ := hrel
  cases n with
  | zero =>
   have HJ := hideP hJ
   clear hJ
   gi_wp2
   go_end0
   exact ⟨⟨_, rfl⟩, .inl HJ.out⟩
  | succ i =>
   have hi : ((i + 1 : Nat) : Int) - 1 = (i : Int) := by omega
   rw [hi]
   have hcell : wr.cell? ⟨B, i / 64, none⟩ = some (.int .u64 (limb k (i / 64))) := by
    have h4 : i / 64 < 4 := by omega
    refine Zac hR.out ?_
    match i / 64, h4 with
    | 0, _ => rfl
    | 1, _ => rfl
    | 2, _ => rfl
    | 3, _ => rfl
   have hge : (0 : Int) ≤ (i : Int) := by omega
   have hw1 : wrap64 ((i : Int) / 64) = ((i / 64 : Nat) : Int) := by unfold wrap64; omega
   have hw3 : IntKind.i64.wrap ((i : Int) - 1) = (i : Int) - 1 := by rw [IntKind.wrap_i64]; omega
   have hix : ((i / 64 : Nat) : Int) < 4 := by omega
   have hset : (Int.tmod ((limb k (i / 64) : Int) / 2 ^ (i % 64)) 2 == (1 : Int)) = decide (k / 2 ^ i % 2 = 1) := by
    have e : ((limb k (i / 64) : Int) / 2 ^ (i % 64)) = ((limb k (i / 64) / 2 ^ (i % 64) : Nat) : Int) := by simp
    rw [e, Int.tmod_eq_emod_of_nonneg (Int.natCast_nonneg _), ← Zjc, Bool.eq_iff_iff, beq_iff_eq, decide_eq_true_eq]
    omega
   have HN : Hid (i ≤ 256) := Nat.le_of_succ_le hn
   have HMJ : Hid (i + 1 ≤ 256) := hn
   have HTB := hideP (fun h : bl k ≤ i + 1 => ZmE (n := i) (Nat.lt_of_lt_of_le (bl_lt k) (Nat.pow_le_pow_right (by decide) h)))
   have HEX : Hid (((i : Int) - 1) = ((i : Nat) : Int) - 1) := rfl
   generalize limb k (i / 64) = x at *
   generalize hqq : i / 64 = q at *
   have HQQ := hideP hqq
   clear hqq hn
   rcases Nat.lt_or_ge i (bl k) with hc | hc
   ·
    have hyy := HY.out (bl k - (i + 1)) wr (by omega) hJ
    have hbq : bitq k (bl k - (i + 1)) = decide (k / 2 ^ i % 2 = 1) := by unfold bitq; rw [show bl k - 1 - (bl k - (i + 1)) = i by omega]
    rw [hbq] at hyy
    obtain ⟨fn, tmps, assign, body, hy, hRd⟩ := hyy
    have HC := hideP hc
    have H1 : Hid (decide (i < bl k) = true) := decide_eq_true hc
    have H2 : Hid (bl k - (i + 1) + 1 = bl k - i) := (by omega : bl k - (i + 1) + 1 = bl k - i)
    have hb2 : (decide (i + 1 < bl k) = true) ∨ (decide (i + 1 < bl k) = false ∧ decide (k / 2 ^ i % 2 = 1) = true) := by
     rcases Nat.lt_or_ge (i + 1) (bl k) with h | h
     ·
      exact .inl (decide_eq_true h)
     ·
      exact .inr ⟨decide_eq_false (by omega), decide_eq_true ((HTB.out h).2 hc)⟩
    clear HTB hbq hJ hc
    generalize decide (k / 2 ^ i % 2 = 1) = bb at *
    generalize decide (i + 1 < bl k) = bg at *
    have fin : ∀ (e : Ending) (W3 : World), ((e = .returned (.bool true) ∧ J (bl k - (i + 1) + 1) W3 ∧ KpK B k wr W3) ∨ (e = .returned (.bool false) ∧ Jx W3)) → True := fun _ _ _ => trivial
    clear fin
    rcases hb2 with rfl | ⟨rfl, rfl⟩
    ·
     gi_wp2
     refine hRd.mono ?_
     rintro e W3 (⟨rfl, hJ3, hk3⟩ | ⟨rfl, hJx3⟩)
     ·
      have HR3 := hideP (hk3 hR.out)
      have HJ3 := hideP hJ3
      clear hJ3 hk3 hRd hcell
      gi_wp2
      exact ⟨⟨i, HN.out, by rw [H1.out], rfl, by rw [← H2.out]; exact HJ3.out, HR3⟩, by simp [intOf]⟩
     ·
      gi_wp2
      refine bodyPost_ret (results_none rfl _ _ _) rfl ?_
      exact ⟨⟨_, rfl⟩, .inr hJx3⟩
    ·
     gi_wp2
     refine hRd.mono ?_
     rintro e W3 (⟨rfl, hJ3, hk3⟩ | ⟨rfl, hJx3⟩)
     ·
      have HR3 := hideP (hk3 hR.out)
      have HJ3 := hideP hJ3
      clear hJ3 hk3 hRd hcell
      gi_wp2
      exact ⟨⟨i, HN.out, by rw [H1.out], rfl, by rw [← H2.out]; exact HJ3.out, HR3⟩, by simp [intOf]⟩
     ·
      gi_wp2
      refine bodyPost_ret (results_none rfl _ _ _) rfl ?_
      exact ⟨⟨_, rfl⟩, .inr hJx3⟩
   ·
    have h1 : decide (i + 1 < bl k) = false := decide_eq_false (by omega)
    have h2 : decide (k / 2 ^ i % 2 = 1) = false := decide_eq_false (fun h => by have := (HTB.out (by omega)).1 h; omega)
    have H1 : Hid (decide (i < bl k) = false) := decide_eq_false (by omega)
    have H2 : Hid (bl k - (i + 1) = bl k - i) := (by omega : bl k - (i + 1) = bl k - i)
    have HJ := hideP hJ
    rw [h2] at hset
    rw [h1]
    clear h1 h2 HTB hJ hc
    gi_wp2
    refine ⟨fun f h => (by cases h), ?_⟩
    gi_wp2
    exact ⟨⟨i, HN.out, by rw [H1.out], rfl, by rw [← H2.out]; exact HJ.out, hR⟩, by simp [intOf]⟩
theorem ZhL (m : Nat) (hm : 1 ≤ m) (B k : Nat) (hk : k < 2 ^ 256) (w : World) (hr : RowK B k w) :
  Gives m Tryz.prog 251 #[.pointer (some ⟨B, 0, none⟩)] (fun q => #[.bool (bitq k q)]) (bl k) (KpK B k) w := by
 intro l J Jx W hW _ _ hY h0
 exact Zjd m hm l B k hk J Jx hY W (Zb8 hW hr) h0
theorem ZkN (k : Nat) (w : World) : Calls Tryz.prog 229 #[.agg (W4.cs (limb k))] w fun e w' => e = .returned (.func (.func 251) #[] #[.pointer (some ⟨w.heap.size, 0, none⟩)]) ∧ w' = w.alloc (.cells (W4.cs (limb k)) 65) := by
 rw [show W4.cs (limb k) = #[.int .u64 (limb k 0), .int .u64 (limb k 1), .int .u64 (limb k 2), .int .u64 (limb k 3)] from rfl]
 go_enter Tryz.func229, Tryz.ntmps229
 go_wp2
 go_ret
 exact ⟨rfl, rfl⟩
end Go.Proofs.YtcbdbnfgnonacaaGreat
namespace Go.Proofs.YtcbdbnfgnonacaaGreat.P4
open Go.RowKit Go.Shelf
theorem ZkO {w : World} {g p m : Nat} {b : K} (hG : GAt w g p m b) (s : T3) : Calls Tryz.prog 230 #[.pointer (some ⟨g, 0, none⟩), .agg (scS m s)] w fun e w' => e = .returned (.agg (scS m (dblS m s))) ∧ Below w.heap.size w w' :=
 Zbq hG s.1 s.2.1 s.2.2
theorem plus_S {w : World} {g p m : Nat} {b : K} (hG : GAt w g p m b) (s : T3) (q : K × K) : Calls Tryz.prog 180 #[.pointer (some ⟨g, 0, none⟩), .agg (scS m s), .agg (pl m q.1 q.2)] w fun e w' => e = .returned (.agg (scS m (plusS m s q))) ∧ Below w.heap.size w w' :=
 Zd0 hG s.1 s.2.1 s.2.2 q.1 q.2
def stepS (m : Nat) (q : K × K) (bit : Bool) (s : T3) : T3 := red m (if bit = true then plusS m (red m (dblS m s)) q else dblS m s)
def timesJ (m : Nat) (q : K × K) (k : Nat) : Nat → T3
 | 0 => (k1, k1, k0)
 | j + 1 => stepS m q (bitq k j) (timesJ m q k j)
def timesS (m : Nat) (q : K × K) (k : Nat) : T3 := timesJ m q k (bl k)
end Go.Proofs.YtcbdbnfgnonacaaGreat.P4
