/-
  The document's times over a prime field: its boxes; is it 0, the point at infinity.
-/
import Derived.Test.YtcbdbnfgnonacaaGreatCurveBn1C19
namespace Go.Proofs.YtcbdbnfgnonacaaGreat.P4
open Go.RowKit Go.Shelf
def mulP (m : Nat) (b x y : K) (i : Bool) (k : Nat) : P3 := if goodN m b x y i = 0 then outS m (timesP m x y i k) else (k0, k0, false)
def addN (m : Nat) (b x y : K) (i : Bool) (x2 y2 : K) (i2 : Bool) : Int := if goodN m b x y i = 0 then goodN m b x2 y2 i2 else goodN m b x y i
def addP (m : Nat) (b x y : K) (i : Bool) (x2 y2 : K) (i2 : Bool) : P3 := if addN m b x y i x2 y2 i2 = 0 then (if i2 = true then (x, y, i) else outS m (plusS m (scaleS x y i) (x2, y2))) else (k0, k0, false)
def Zc3 (m : Nat) (b x y : K) (i : Bool) (kk : Nat) : Int := if goodN m b x y i = 0 then (if Like m (timesP m x y i kk).2.2 k0 then 0 else 72) else goodN m b x y i
abbrev cp0 : SV := .one (.xp 1 0)
abbrev wdE : SV := .row [.e 2 (.c 0)]
abbrev iE (e : Int) : SV := .one (.v (.int .i64 e))
abbrev P0 : SV := ptE (.v 0) (.v 1) (.at_ 0)
abbrev PJ (j : CX) : SV := ptE (.v 7) (.v 8) j
abbrev S2 : EX × EX × EX := (.v 2, .v 3, .v 4)
abbrev S9 : EX × EX × EX := (.v 9, .v 10, .v 11)
def vA (x y x2 y2 : K) (s u : T3) (q : P3) : Nat → K
  | 0 => x
  | 1 => y
  | 2 => s.1
  | 3 => s.2.1
  | 4 => s.2.2
  | 5 => q.1
  | 6 => q.2.1
  | 7 => x2
  | 8 => y2
  | 9 => u.1
  | 10 => u.2.1
  | _ => u.2.2
def bA (i : Bool) (q : P3) (i2 : Bool) : Nat → Bool
  | 0 => i
  | 1 => q.2.2
  | _ => i2
def fitA : Nat → Bool
  | 0 => true
  | 1 => true
  | 7 => true
  | 8 => true
  | _ => false
theorem fitsA {x y x2 y2 : K} {s u : T3} {q : P3} (hx : Fits x) (hy : Fits y) (hx2 : Fits x2) (hy2 : Fits y2) (i : Nat) (h : fitA i = true) : Fits (vA x y x2 y2 s u q i) := by
  unfold fitA at h
  split at h
  · exact hx
  · exact hy
  · exact hx2
  · exact hy2
  · cases h
def xlC (o : Bool) (i q t : Nat) : Option SV := match i with
  | 0 => if q = 1 + 3 * 4 ∧ t = 125 then some (ptE (.c 3) (.c 4) (.lit false)) else if o = true ∧ q = 2 + 5 * 4 ∧ t = 65 then some wdE else none
  | _ + 1 => if q = 1 ∧ t = 114 then some gp0 else none
section
variable {w : World} {D : Dt} (HG : GAt w D.g D.p D.m D.b)
include HG
theorem ZbT (X Y : EX) (C : CX) (hX : Fits ((al D).d X)) (hY : Fits ((al D).d Y)) {e : Int} (h : goodN D.m D.b ((al D).d X) ((al D).d Y) ((al D).cx C) = e) : FactOK Tryz.prog (al D) w (111, [gp0, ptE X Y C], iE e) :=
  ⟨en Tryz.func111, fun β V hV => by
    simp only [Al.sv, List.map_cons, List.map_nil, Zbo]
    exact ZjF (HG.below hV) _ _ hX hY _ h⟩
theorem Znb (X Y : EX) (C : CX) (S : EX × EX × EX) (hX : Fits ((al D).d X)) (hY : Fits ((al D).d Y)) (h : scaleS ((al D).d X) ((al D).d Y) ((al D).cx C) = ((al D).d S.1, (al D).d S.2.1, (al D).d S.2.2)) : FactOK Tryz.prog (al D) w (181, [gp0, ptE X Y C], scE S) :=
  ⟨en Tryz.func181, fun β V hV => by
    have := ZmV (HG.below hV) _ _ ((al D).cx C) hX hY
    rw [h] at this
    simp only [scE, Al.sv, List.map_cons, List.map_nil, Zbo, ZcN]
    exact this⟩
theorem plus_f (S : EX × EX × EX) (X Y : EX) (R : EX × EX × EX) (h : plusS D.m ((al D).d S.1, (al D).d S.2.1, (al D).d S.2.2) ((al D).d X, (al D).d Y) = ((al D).d R.1, (al D).d R.2.1, (al D).d R.2.2)) : FactOK Tryz.prog (al D) w (180, [gp0, scE S, plE X Y], scE R) :=
  ⟨en Tryz.func180, fun β V hV => by
    have := Zd0 (HG.below hV) ((al D).d S.1) ((al D).d S.2.1) ((al D).d S.2.2) ((al D).d X) ((al D).d Y)
    rw [h] at this
    simp only [scE, Al.sv, List.map_cons, List.map_nil, ZgI, ZcN]
    exact this⟩
theorem ZjI (hk : D.kw < 2 ^ 256) (X Y : EX) (C : CX) (S : EX × EX × EX) (hX : Fits ((al D).d X)) (hY : Fits ((al D).d Y)) (h : timesP D.m ((al D).d X) ((al D).d Y) ((al D).cx C) D.kw = ((al D).d S.1, (al D).d S.2.1, (al D).d S.2.2)) : FactOK Tryz.prog (al D) w (169, [gp0, ptE X Y C, wdE], scE S) :=
  ⟨en Tryz.func169, fun β V hV => by
    have := ZmW (HG.below hV) _ _ hX hY ((al D).cx C) D.kw hk
    rw [h] at this
    clear h
    simp only [scE, Al.sv, List.map_cons, List.map_nil, Zbo, ZcN, rw_w]
    exact this⟩
theorem out_f (S : EX × EX × EX) (X Y : EX) (C : CX) (h : outS D.m ((al D).d S.1, (al D).d S.2.1, (al D).d S.2.2) = ((al D).d X, (al D).d Y, (al D).cx C)) : FactOK Tryz.prog (al D) w (179, [gp0, scE S], ptE X Y C) :=
  ⟨en Tryz.func179, fun β V hV => by
    have := out_S (HG.below hV) ((al D).d S.1, (al D).d S.2.1, (al D).d S.2.2)
    rw [h] at this
    clear h
    simp only [scE, Al.sv, List.map_cons, List.map_nil, Zbo, ZcN]
    exact this⟩
end
section
variable {w : World} {c g p m : Nat} {b bx bY : K} {kk : Nat} (hG : CAt w c g p m b bx bY kk)
include hG
theorem xlC_ok {kw : Nat} {v : Nat → K} {bo : Nat → Bool} {o : Bool} (ho : o = true → kw = kk) : XLOK (al ⟨m, g, p, b, bx, bY, kw, v, bo, c⟩) (xlC o) w := fun i q t y β V h hV => by
  have H := hG.below hV
  unfold xlC at h
  split at h
  · split at h
    · rename_i e
      obtain ⟨rfl, rfl⟩ := e
      cases h
      rw [Al.sv, Zbo]
      exact loadC V g _ _ _ _ H.gb.base Zed rfl (infoPt (Zau _ _ _))
    · split at h
      · rename_i e
        obtain ⟨ho', rfl, rfl⟩ := e
        cases h
        rw [Al.sv, rw_w, ho ho']
        exact loadC V g _ _ _ _ H.gb.ord ZjC rfl (infoWd (W4.Za6 _))
      · cases h
  · split at h
    · rename_i e
      obtain ⟨rfl, rfl⟩ := e
      cases h
      exact ld1 (by kernel_rfl) H.at_
    · cases h
theorem Zcp (kw : Nat) (v : Nat → K) (bo : Nat → Bool) (hv : ∀ i, fitA i = true → Fits (v i)) (o : Bool) (ho : o = true → kw = kk) (G : List (CX × Bool)) (gOK : GsOK (al ⟨m, g, p, b, bx, bY, kw, v, bo, c⟩) G) (F : List Fact) (hF : Zcm Tryz.prog (al ⟨m, g, p, b, bx, bY, kw, v, bo, c⟩) w F) {f : Nat} {fn : Func} (hf : Tryz.prog.funcs[f]? = some fn) {args : List SV} {y : SV} (h : runG fitA G (factT F) (xlC o) fn args = some y) :
    Calls Tryz.prog f (args.map ((al ⟨m, g, p, b, bx, bY, kw, v, bo, c⟩).sv fun _ => 0)).toArray w fun e w' => e = .returned ((al ⟨m, g, p, b, bx, bY, kw, v, bo, c⟩).sv (fun _ => 0) y) ∧ Below w.heap.size w w' :=
  Zh0 ⟨m, g, p, b, bx, bY, kw, v, bo, c⟩ fitA G hG.ga hv gOK.all (Zcy hF) (xlC_ok hG ho) hf h _
set_option maxRecDepth 100000
theorem Zll : Calls Tryz.prog 16 #[.pointer (some ⟨c, 0, none⟩)] w fun e w' => e = .returned (.agg (pt bx bY false)) ∧ Below w.heap.size w w' := by
  have := Zcp hG 0 (fun _ => k0) (fun _ => false) (fun _ _ => Zfl) false (fun h => by cases h) [] trivial [] trivial Tryz.func16 (args := [cp0]) (y := ptE (.c 3) (.c 4) (.lit false)) (by kernel_rfl)
  simp only [Al.sv, List.map_cons, List.map_nil, Zbo] at this
  exact this
variable (x y : K) (hx : Fits x) (hy : Fits y)
include hx hy
theorem Zf0 (i : Bool) : Calls Tryz.prog 35 #[.pointer (some ⟨c, 0, none⟩), .agg (pt x y i)] w fun e w' => e = .returned (.int .i64 (goodN m b x y i)) ∧ Below w.heap.size w w' := by
  have := Zcp hG 0 (vA x y x y (k0, k0, k0) (k0, k0, k0) (k0, k0, i)) (bA i (k0, k0, i) i) (fitsA hx hy hx hy) false (fun h => by cases h) [] trivial [(111, [gp0, P0], iE (goodN m b x y i))] ⟨ZbT hG.ga (.v 0) (.v 1) (.at_ 0) (by exact hx) (by exact hy) rfl, trivial⟩ Tryz.func35 (args := [cp0, P0]) (y := iE (goodN m b x y i)) (by kernel_rfl)
  simp only [Al.sv, List.map_cons, List.map_nil, Zbo] at this
  exact this
theorem ZjJ (hk : kk < 2 ^ 256) (i : Bool) : Calls Tryz.prog 28 #[.pointer (some ⟨c, 0, none⟩), .agg (pt x y i)] w fun e w' => e = .returned (.int .i64 (Zc3 m b x y i kk)) ∧ Below w.heap.size w w' := by
  unfold Zc3
  have bad : ∀ e0 : Int, goodN m b x y i = e0 → runG fitA [] (factT [(111, [gp0, P0], iE e0)]) (xlC false) Tryz.f28 [cp0, P0] = some (iE e0) → Calls Tryz.prog 28 #[.pointer (some ⟨c, 0, none⟩), .agg (pt x y i)] w fun e w' => e = .returned (.int .i64 e0) ∧ Below w.heap.size w w' := fun e0 he h => by
    have := Zcp hG 0 (vA x y x y (k0, k0, k0) (k0, k0, k0) (k0, k0, i)) (bA i (k0, k0, i) i) (fitsA hx hy hx hy) false (fun h => by cases h) [] trivial [(111, [gp0, P0], iE e0)] ⟨ZbT hG.ga (.v 0) (.v 1) (.at_ 0) (by exact hx) (by exact hy) he, trivial⟩ Tryz.func28 h
    simp only [Al.sv, List.map_cons, List.map_nil, Zbo] at this
    exact this
  rcases ZbC m b x y i with he | he | he
  · rw [he, if_pos rfl]
    have main : ∀ s : T3, timesP m x y i kk = s → Calls Tryz.prog 28 #[.pointer (some ⟨c, 0, none⟩), .agg (pt x y i)] w fun e w' => e = .returned (.int .i64 (if Like m s.2.2 k0 then 0 else 72)) ∧ Below w.heap.size w w' := fun s hs => by
      have hF : Zcm Tryz.prog (al ⟨m, g, p, b, bx, bY, kk, vA x y x y s (k0, k0, k0) (k0, k0, i), bA i (k0, k0, i) i, c⟩) w [(111, [gp0, P0], iE 0), (169, [gp0, P0, wdE], scE S2)] := ⟨ZbT hG.ga (.v 0) (.v 1) (.at_ 0) (by exact hx) (by exact hy) he, ZjI hG.ga hk (.v 0) (.v 1) (.at_ 0) S2 (by exact hx) (by exact hy) hs, trivial⟩
      by_cases hz : Like m s.2.2 k0
      · rw [if_pos hz]
        have := Zcp hG kk _ _ (fitsA hx hy hx hy) true (fun _ => rfl) [(.lk 0 (.v 4) (.c 0), true)] ⟨(ZaP _ _ _).trans (decide_eq_true hz), trivial⟩ _ hF Tryz.func28 (args := [cp0, P0]) (y := iE 0) (by kernel_rfl)
        simp only [Al.sv, List.map_cons, List.map_nil, Zbo] at this
        exact this
      · rw [if_neg hz]
        have := Zcp hG kk _ _ (fitsA hx hy hx hy) true (fun _ => rfl) [(.lk 0 (.v 4) (.c 0), false)] ⟨(ZaP _ _ _).trans (decide_eq_false hz), trivial⟩ _ hF Tryz.func28 (args := [cp0, P0]) (y := iE 72) (by kernel_rfl)
        simp only [Al.sv, List.map_cons, List.map_nil, Zbo] at this
        exact this
    exact main _ rfl
  · rw [he]
    exact bad 70 he (by kernel_rfl)
  · rw [he]
    exact bad 71 he (by kernel_rfl)
theorem ZjK (i : Bool) (k : Nat) (hk : k < 2 ^ 256) : Calls Tryz.prog 43 #[.pointer (some ⟨c, 0, none⟩), .agg (pt x y i), .agg (W4.cs (limb k))] w fun e w' => e = .returned (.tuple #[.agg (ptS (mulP m b x y i k)), .int .i64 (goodN m b x y i)]) ∧ Below w.heap.size w w' := by
  unfold mulP
  have bad : ∀ e0 : Int, goodN m b x y i = e0 → runG fitA [] (factT [(111, [gp0, P0], iE e0)]) (xlC false) Tryz.f43 [cp0, P0, wdE] = some (.tup (ptE (.c 0) (.c 0) (.lit false)) (iE e0)) → Calls Tryz.prog 43 #[.pointer (some ⟨c, 0, none⟩), .agg (pt x y i), .agg (W4.cs (limb k))] w fun e w' => e = .returned (.tuple #[.agg (ptS (k0, k0, false)), .int .i64 e0]) ∧ Below w.heap.size w w' := fun e0 he h => by
    have := Zcp hG k (vA x y x y (k0, k0, k0) (k0, k0, k0) (k0, k0, i)) (bA i (k0, k0, i) i) (fitsA hx hy hx hy) false (fun h => by cases h) [] trivial [(111, [gp0, P0], iE e0)] ⟨ZbT hG.ga (.v 0) (.v 1) (.at_ 0) (by exact hx) (by exact hy) he, trivial⟩ Tryz.func43 h
    simp only [Al.sv, List.map_cons, List.map_nil, Zbo, rw_w] at this
    exact this
  rcases ZbC m b x y i with he | he | he
  · rw [he, if_pos rfl]
    have main : ∀ (s : T3) (q : P3), timesP m x y i k = s → outS m s = q → Calls Tryz.prog 43 #[.pointer (some ⟨c, 0, none⟩), .agg (pt x y i), .agg (W4.cs (limb k))] w fun e w' => e = .returned (.tuple #[.agg (ptS q), .int .i64 0]) ∧ Below w.heap.size w w' := fun s q hs hq => by
      have hF : Zcm Tryz.prog (al ⟨m, g, p, b, bx, bY, k, vA x y x y s (k0, k0, k0) q, bA i q i, c⟩) w [(111, [gp0, P0], iE 0), (169, [gp0, P0, wdE], scE S2), (179, [gp0, scE S2], ptE (.v 5) (.v 6) (.at_ 1))] := ⟨ZbT hG.ga (.v 0) (.v 1) (.at_ 0) (by exact hx) (by exact hy) he, ZjI hG.ga hk (.v 0) (.v 1) (.at_ 0) S2 (by exact hx) (by exact hy) hs, out_f hG.ga S2 (.v 5) (.v 6) (.at_ 1) hq, trivial⟩
      have := Zcp hG k _ _ (fitsA hx hy hx hy) false (fun h => by cases h) [] trivial _ hF Tryz.func43 (args := [cp0, P0, wdE]) (y := .tup (ptE (.v 5) (.v 6) (.at_ 1)) (iE 0)) (by kernel_rfl)
      simp only [Al.sv, List.map_cons, List.map_nil, Zbo, rw_w] at this
      exact this
    exact main _ _ rfl rfl
  · rw [he, if_neg (by decide)]
    exact bad 70 he (by kernel_rfl)
  · rw [he, if_neg (by decide)]
    exact bad 71 he (by kernel_rfl)
variable (x2 y2 : K) (hx2 : Fits x2) (hy2 : Fits y2)
include hx2 hy2
theorem Znc (i i2 : Bool) : Calls Tryz.prog 38 #[.pointer (some ⟨c, 0, none⟩), .agg (pt x y i), .agg (pt x2 y2 i2)] w fun e w' => e = .returned (.tuple #[.agg (ptS (addP m b x y i x2 y2 i2)), .int .i64 (addN m b x y i x2 y2 i2)]) ∧ Below w.heap.size w w' := by
  unfold addP addN
  have any : ∀ (s u : T3) (q : P3) (J : CX) (F : List Fact) (y0 : SV), (al ⟨m, g, p, b, bx, bY, 0, vA x y x2 y2 s u q, bA i q i2, c⟩).cx J = i2 → Zcm Tryz.prog (al ⟨m, g, p, b, bx, bY, 0, vA x y x2 y2 s u q, bA i q i2, c⟩) w F → runG fitA [] (factT F) (xlC false) Tryz.f38 [cp0, P0, PJ J] = some y0 → Calls Tryz.prog 38 #[.pointer (some ⟨c, 0, none⟩), .agg (pt x y i), .agg (pt x2 y2 i2)] w fun e w' => e = .returned ((al ⟨m, g, p, b, bx, bY, 0, vA x y x2 y2 s u q, bA i q i2, c⟩).sv (fun _ => 0) y0) ∧ Below w.heap.size w w' := fun s u q J F y0 hJ hF h => by
    have := Zcp hG 0 _ _ (fitsA hx hy hx2 hy2) false (fun h => by cases h) [] trivial F hF Tryz.func38 h
    simp only [List.map_cons, List.map_nil] at this
    rw [show (al ⟨m, g, p, b, bx, bY, 0, vA x y x2 y2 s u q, bA i q i2, c⟩).sv (fun _ => 0) (PJ J) = .agg (pt x2 y2 i2) by rw [Al.sv, Zbo, hJ]; rfl, show (al ⟨m, g, p, b, bx, bY, 0, vA x y x2 y2 s u q, bA i q i2, c⟩).sv (fun _ => 0) P0 = .agg (pt x y i) by rw [Al.sv, Zbo]; rfl] at this
    exact this
  have pv : ∀ {s u : T3} {q : P3} (X Y : EX) (C : CX) (e : Int), (al ⟨m, g, p, b, bx, bY, 0, vA x y x2 y2 s u q, bA i q i2, c⟩).sv (fun _ => 0) (.tup (ptE X Y C) (iE e)) = .tuple #[.agg (ptS ((al ⟨m, g, p, b, bx, bY, 0, vA x y x2 y2 s u q, bA i q i2, c⟩).d X, (al ⟨m, g, p, b, bx, bY, 0, vA x y x2 y2 s u q, bA i q i2, c⟩).d Y, (al ⟨m, g, p, b, bx, bY, 0, vA x y x2 y2 s u q, bA i q i2, c⟩).cx C)), .int .i64 e] := fun X Y C e => by
    rw [Al.sv, Al.sv, Zbo]
    rfl
  have bad : ∀ e0 : Int, goodN m b x y i = e0 → runG fitA [] (factT [(111, [gp0, P0], iE e0)]) (xlC false) Tryz.f38 [cp0, P0, PJ (.at_ 2)] = some (.tup (ptE (.c 0) (.c 0) (.lit false)) (iE e0)) → Calls Tryz.prog 38 #[.pointer (some ⟨c, 0, none⟩), .agg (pt x y i), .agg (pt x2 y2 i2)] w fun e w' => e = .returned (.tuple #[.agg (ptS (k0, k0, false)), .int .i64 e0]) ∧ Below w.heap.size w w' := fun e0 he h => by
    have := any (k0, k0, k0) (k0, k0, k0) (k0, k0, i) (.at_ 2) [(111, [gp0, P0], iE e0)] _ rfl ⟨ZbT hG.ga (.v 0) (.v 1) (.at_ 0) (by exact hx) (by exact hy) he, trivial⟩ h
    rw [pv] at this
    exact this
  have bad2 : ∀ e0 : Int, goodN m b x y i = 0 → goodN m b x2 y2 i2 = e0 → runG fitA [] (factT [(111, [gp0, P0], iE 0), (111, [gp0, PJ (.at_ 2)], iE e0)]) (xlC false) Tryz.f38 [cp0, P0, PJ (.at_ 2)] = some (.tup (ptE (.c 0) (.c 0) (.lit false)) (iE e0)) → Calls Tryz.prog 38 #[.pointer (some ⟨c, 0, none⟩), .agg (pt x y i), .agg (pt x2 y2 i2)] w fun e w' => e = .returned (.tuple #[.agg (ptS (k0, k0, false)), .int .i64 e0]) ∧ Below w.heap.size w w' := fun e0 he he2 h => by
    have := any (k0, k0, k0) (k0, k0, k0) (k0, k0, i) (.at_ 2) [(111, [gp0, P0], iE 0), (111, [gp0, PJ (.at_ 2)], iE e0)] _ rfl ⟨ZbT hG.ga (.v 0) (.v 1) (.at_ 0) (by exact hx) (by exact hy) he, ZbT hG.ga (.v 7) (.v 8) (.at_ 2) (by exact hx2) (by exact hy2) he2, trivial⟩ h
    rw [pv] at this
    exact this
  rcases ZbC m b x y i with he | he | he
  · rw [he, if_pos rfl]
    rcases ZbC m b x2 y2 i2 with he2 | he2 | he2
    · rw [he2, if_pos rfl]
      cases i2 with
      | true =>
        rw [if_pos rfl]
        have := any (k0, k0, k0) (k0, k0, k0) (k0, k0, i) (.lit true) [(111, [gp0, P0], iE 0), (111, [gp0, PJ (.lit true)], iE 0)] (.tup P0 (iE 0)) rfl ⟨ZbT hG.ga (.v 0) (.v 1) (.at_ 0) (by exact hx) (by exact hy) he, ZbT hG.ga (.v 7) (.v 8) (.lit true) (by exact hx2) (by exact hy2) he2, trivial⟩ (by kernel_rfl)
        rw [pv] at this
        exact this
      | false =>
        rw [if_neg (by decide)]
        have main : ∀ (s u : T3) (q : P3), scaleS x y i = u → plusS m u (x2, y2) = s → outS m s = q → Calls Tryz.prog 38 #[.pointer (some ⟨c, 0, none⟩), .agg (pt x y i), .agg (pt x2 y2 false)] w fun e w' => e = .returned (.tuple #[.agg (ptS q), .int .i64 0]) ∧ Below w.heap.size w w' := fun s u q hu hs hq => by
          have := any s u q (.lit false) [(111, [gp0, P0], iE 0), (111, [gp0, PJ (.lit false)], iE 0), (181, [gp0, P0], scE S9), (180, [gp0, scE S9, plE (.v 7) (.v 8)], scE S2), (179, [gp0, scE S2], ptE (.v 5) (.v 6) (.at_ 1))] (.tup (ptE (.v 5) (.v 6) (.at_ 1)) (iE 0)) rfl ⟨ZbT hG.ga (.v 0) (.v 1) (.at_ 0) (by exact hx) (by exact hy) he, ZbT hG.ga (.v 7) (.v 8) (.lit false) (by exact hx2) (by exact hy2) he2, Znb hG.ga (.v 0) (.v 1) (.at_ 0) S9 (by exact hx) (by exact hy) hu, plus_f hG.ga S9 (.v 7) (.v 8) S2 hs, out_f hG.ga S2 (.v 5) (.v 6) (.at_ 1) hq, trivial⟩ (by kernel_rfl)
          rw [pv] at this
          exact this
        exact main _ _ _ rfl rfl rfl
    · rw [he2, if_neg (by decide)]
      exact bad2 70 he he2 (by kernel_rfl)
    · rw [he2, if_neg (by decide)]
      exact bad2 71 he he2 (by kernel_rfl)
  · rw [he, if_neg (show ¬(70 : Int) = 0 by decide), if_neg (show ¬(70 : Int) = 0 by decide)]
    exact bad 70 he (by kernel_rfl)
  · rw [he, if_neg (show ¬(71 : Int) = 0 by decide), if_neg (show ¬(71 : Int) = 0 by decide)]
    exact bad 71 he (by kernel_rfl)
end
def dTimes (m x y : Nat) (i : Bool) (k T : Nat) : P3 := if i = true then (x, y, true) else dOut m (dJ m x y k T T)
theorem Zby {m b x y : Nat} {i : Bool} (h : goodN m b x y i = 0) : (i = true → x = 0 ∧ y = 0) ∧ (i = false → rest m x = x ∧ rest m y = y ∧ Like m (kmul m y y) (kadd m (kmul m (kmul m x x) x) b)) := by
  constructor
  · rintro rfl
    have g : goodN m b x y true = (if (decide (x = k0) && (decide (y = k0) && (true == true))) = true then 0 else 70) := if_pos rfl
    rw [g] at h
    by_cases hc : (decide (x = k0) && (decide (y = k0) && (true == true))) = true
    · simp only [Bool.and_eq_true, decide_eq_true_eq] at hc
      exact ⟨hc.1, hc.2.1⟩
    · rw [if_neg hc] at h
      exact absurd h (by decide)
  · rintro rfl
    have g : goodN m b x y false = (if rest m x = x then (if rest m y = y then (if Like m (kmul m y y) (kadd m (kmul m (kmul m x x) x) b) then 0 else 71) else 70) else 70) := if_neg (by decide)
    rw [g] at h
    by_cases h1 : rest m x = x
    · rw [if_pos h1] at h
      by_cases h2 : rest m y = y
      · rw [if_pos h2] at h
        by_cases h3 : Like m (kmul m y y) (kadd m (kmul m (kmul m x x) x) b)
        · exact ⟨h1, h2, h3⟩
        · rw [if_neg h3] at h
          exact absurd h (by decide)
      · rw [if_neg h2] at h
        exact absurd h (by decide)
    · rw [if_neg h1] at h
      exact absurd h (by decide)
theorem Znd {m f : Nat} (hF : W4.MF m f) (h3 : 3 ≤ m) {b x y k T : Nat} {i : Bool} (hg : goodN m b x y i = 0) (hT : bl k ≤ T) : mulP m b x y i k = dTimes m x y i k T := by
  have hm : 0 < m := by omega
  unfold mulP dTimes
  rw [if_pos hg]
  cases i with
  | true =>
    obtain ⟨rfl, rfl⟩ := (Zby hg).1 rfl
    rw [if_pos rfl]
    exact Zhc hF (Nat.zero_mod m)
  | false =>
    obtain ⟨h1, h2, _⟩ := (Zby hg).2 rfl
    have hx : x < m := by rw [← h1]; exact Nat.mod_lt _ hm
    have hy : y < m := by rw [← h2]; exact Nat.mod_lt _ hm
    rw [if_neg (by decide)]
    exact ZjH hF (Zgd hF h3 hx hy hT)
def dAdd (m x y : Nat) (i : Bool) (u v : Nat) (j : Bool) : P3 := if i = true then (u, v, j) else if j = true then (x, y, i) else dSum m x y u v
theorem Zne {m f : Nat} (hF : W4.MF m f) (h3 : 3 ≤ m) (hFer : Ferm m) {b x y u v : Nat} {i j : Bool} (hg : goodN m b x y i = 0) (hg2 : goodN m b u v j = 0) : addP m b x y i u v j = dAdd m x y i u v j := by
  have hm : 0 < m := by omega
  have hn : addN m b x y i u v j = 0 := by unfold addN; rw [if_pos hg]; exact hg2
  unfold addP dAdd
  rw [if_pos hn]
  cases j with
  | true =>
    rw [if_pos rfl]
    cases i with
    | true =>
      obtain ⟨rfl, rfl⟩ := (Zby hg).1 rfl
      obtain ⟨rfl, rfl⟩ := (Zby hg2).1 rfl
      rfl
    | false => rfl
  | false =>
    rw [if_neg (by decide)]
    obtain ⟨h1, h2, h3'⟩ := (Zby hg2).2 rfl
    have hu : u < m := by rw [← h1]; exact Nat.mod_lt _ hm
    have hv : v < m := by rw [← h2]; exact Nat.mod_lt _ hm
    cases i with
    | true =>
      rw [if_pos rfl]
      have e : plusS m (scaleS x y true) (u, v) = (u, v, k1) := by
        unfold plusS
        exact if_pos rfl
      rw [e, ZjH hF (d := (u, v, 1)) ⟨(Nat.mod_eq_of_lt (by omega : 1 < m)).symm, fun _ => ⟨(Nat.mod_eq_of_lt hu).symm, (Nat.mod_eq_of_lt hv).symm⟩⟩]
      unfold dOut
      rw [if_neg (show ¬ (1 : Nat) = 0 by decide)]
      simp only [Nat.one_pow, Nat.mod_eq_of_lt (show 1 < m by omega), Nat.mul_one, Nat.mod_eq_of_lt hu, Nat.mod_eq_of_lt hv]
    | false =>
      obtain ⟨h4, h5, h6⟩ := (Zby hg).2 rfl
      have hx : x < m := by rw [← h4]; exact Nat.mod_lt _ hm
      have hy : y < m := by rw [← h5]; exact Nat.mod_lt _ hm
      rw [if_neg (by decide)]
      exact Zna hF h3 (fer_of h3 hFer) hx hy hu hv (fun e => by
        subst e
        exact ((ZaK hF _ _).1 h6).trans ((ZaK hF _ _).1 h3').symm)
theorem ZjL {m f : Nat} (hF : W4.MF m f) (h3 : 3 ≤ m) {b x y k T : Nat} {i : Bool} (hg : goodN m b x y i = 0) (hT : bl k ≤ T) : Zc3 m b x y i k = if (dTimes m x y i k T).2.2 = true then 0 else 72 := by
  have hm : 0 < m := by omega
  unfold Zc3 dTimes timesP
  rw [if_pos hg]
  cases i with
  | true =>
    rw [if_pos rfl, if_pos rfl, if_pos rfl]
    exact if_pos ((ZaK hF _ _).2 rfl)
  | false =>
    obtain ⟨h1, h2, _⟩ := (Zby hg).2 rfl
    have hx : x < m := by rw [← h1]; exact Nat.mod_lt _ hm
    have hy : y < m := by rw [← h2]; exact Nat.mod_lt _ hm
    have hR := Zgd hF h3 hx hy hT
    show (if Like m (timesS m (x, y) k).2.2 k0 then (0 : Int) else 72) = if (dOut m (dJ m x y k T T)).2.2 = true then 0 else 72
    unfold dOut
    by_cases hz : (dJ m x y k T T).2.2 = 0
    · rw [if_pos hz, if_pos ((ZaK hF _ _).2 (by rw [← hR.z, hz]; exact (Nat.zero_mod m).symm))]
      rfl
    · rw [if_neg hz, if_neg (fun e => hz (by rw [hR.z, (ZaK hF _ _).1 e]; exact Nat.zero_mod m))]
      rfl
end Go.Proofs.YtcbdbnfgnonacaaGreat.P4
namespace Go.Proofs.YtcbdbnfgnonacaaGreat
open Go.RowKit Go.Shelf
set_option maxHeartbeats 4000000 in
set_option maxRecDepth 100000 in
theorem cinv_1 {n M d : Nat} (hM : FM n M) (x : Nat) (hx : x < M) (w : World) (cv u : Value) (hC : CF w cv n M d) (hu : LL w u n [x]) : Calls Tryz.prog 93 #[cv, u] w fun r w' => (∃ v', r = .returned v' ∧ LL w' v' n ([x ^ (M - 2) % M])) ∧ Below w.heap.size w w' := by
 have HM := hideP hM
 clear hM
 have HCF := hideP hC
 obtain ⟨mv, fo, tv, x4, x5, x6, x7, x8, rfl, hF, hm⟩ := hC.ex
 have HFF := hideP hF
 have HMV := hideP hm
 clear hC hF hm
 obtain ⟨gu, ou, cu, u0, rfl, -, -, ku, lu⟩ := hu.one
 have HKu0 := hideP ku
 have HLu0 := hideP lu
 have Hx := hideP hx
 clear hu ku lu hx
 have HB : Hid (Up w w) := Below.refl _ _
 go_enter Tryz.func93, Tryz.ntmps93
 refine ZaW 65 [(0, .agg #[mv, .int .u64 (fo : Int), tv, .int .i64 (d : Int), x4, x5, x6, x7, x8]), (1, .slice (some ⟨gu, ou, none⟩) 1 cu)] rfl ⟨rfl, rfl, trivial⟩ (fun L hL hK => ?_)
 refine Zae (fun K1 HK1 => ?_)
 have up : ∀ V, Up w V → Up w V := fun _ h => HB.out.trans (h.mono HB.out.size)
 refine ZaA [.pr (NB w.heap.size #[mv, .int .u64 (fo : Int), tv, .int .i64 (d : Int), x4, x5, x6, x7, x8] 44), .ex (.slice none 0 0)] [1, 2, 4] hL hK ⟨ZaH _ _ _, trivial⟩
   ⟨ok_x [.ex (.agg #[mv, .int .u64 (fo : Int), tv, .int .i64 (d : Int), x4, x5, x6, x7, x8])] hK (fun V h => ⟨_, _, Zcl rfl rfl, Zaq _ _, _, rfl, h.size, ⟨Zaf _ _⟩⟩),
   ok_q hK,
   trivial⟩ ?_
 rintro W1 h _ ⟨B1, rfl, lB1, hB1⟩ L1 hL1 hK1
 have LB1 := hideP (Nat.le_trans HB.out.size lB1)
 clear lB1
 replace HB := hideP (up _ h)
 have HB1 := hideP hB1
 clear hB1
 have hK2 := hK1.to [(1, .slice (some ⟨gu, ou, none⟩) 1 cu), (2, .pointer (some ⟨B1, 0, none⟩)), (4, .slice none 0 0)] (by kernel_rfl)
 clear up h hK1 hK hL L
 revert L1
 intro L hL hK
 refine HK1.out _ _ ?_
 clear HK1 K1
 refine Zae (fun K2 HK2 => ?_)
 refine Zae (fun K3 HK3 => ?_)
 have up : ∀ V, Up W1 V → Up w V := fun _ h => HB.out.trans (h.mono HB.out.size)
 refine ZaA [.ex (.slice (some ⟨gu, ou, none⟩) 1 cu), .ex (.int .i64 1), .ex (.bool true)] [1, 2, 4, 9] hL hK trivial
   ⟨ok_q hK,
   ok_q hK,
   ok_q hK,
   trivial⟩ ?_
 rintro W2 h  L1 hL1 hK1
 replace HB := hideP (up _ h)
 replace HB1 := hideP (HB1.out.moved h)
 have hK2 := hK1.to [(1, .slice (some ⟨gu, ou, none⟩) 1 cu), (2, .pointer (some ⟨B1, 0, none⟩)), (4, .slice none 0 0), (9, .bool true)] (by kernel_rfl)
 clear up h hK1 hK hL L
 revert L1
 intro L hL hK
 refine HK3.out _ _ ?_
 clear HK3 K3
 refine Ze2 hK ?_
 refine Zae (fun K4 HK4 => ?_)
 have up : ∀ V, Up W2 V → Up w V := fun _ h => HB.out.trans (h.mono HB.out.size)
 refine ZaA [.ex (.pointer (some ⟨B1, 0, none⟩)), .ex (.agg #[mv, .int .u64 (fo : Int), tv]), .ex (.slice (some ⟨gu, ou, none⟩) 1 cu), .ex (.pointer (some ⟨gu, ou + 0, none⟩)), .ex (u0), .pr (fun zv zw => LW zw zv (n) (limb ((x) ^ (M - 2) % M))), .pr (fun zv zw => LL zw zv (n) ([(x) ^ (M - 2) % M])), .pr (fun zv zw => LL zw zv (n) ([(x) ^ (M - 2) % M]))] [4] hL hK ⟨ZbX _ _, Zbf _ _, Zbf _ _, trivial⟩
   ⟨ok_q hK,
   ZaM 0 hK (fun V h => HB1.out.moved h) Zdd info39,
   ok_q hK,
   ok_q hK,
   Zi0 hK (fun V h => (HKu0.out.moved (up V h))),
   ok_c [.ex (.agg #[mv, .int .u64 (fo : Int), tv]), .ex (u0)] (en Tryz.func167) hK (fun V h => Zh5 HM.out (x) Hx.out _ _ _ (HFF.out.moved (up V h)) (HLu0.out.moved (up V h))),
   ok_x [.pr (fun zv zw => LW zw zv (n) (limb ((x) ^ (M - 2) % M)))] hK (fun V h u1 q1 => ⟨_, _, ZeX (vs := #[(0, u1)]) rfl (by kernel_rfl) (bs1 _ (LW.isSlice q1)), Zaq _ _, LL.mk1 q1⟩),
   ok_x [.pr (fun zv zw => LL zw zv (n) ([(x) ^ (M - 2) % M]))] hK (fun V h u q => ⟨_, _, Zbl rfl rfl, Below.refl _ _, q⟩),
   trivial⟩ ?_
 rintro W3 h v2 pv2 v3 pv3 v4 pv4 L1 hL1 hK1
 replace HB := hideP (up _ h)
 replace HB1 := hideP (HB1.out.moved h)
 have Fv2 := hideP pv2
 clear pv2
 have Fv3 := hideP pv3
 clear pv3
 have Fv4 := hideP pv4
 clear pv4
 have hK2 := hK1.to [(4, v4)] (by kernel_rfl)
 clear up h hK1 hK hL L
 revert L1
 intro L hL hK
 refine HK4.out _ _ ?_
 clear HK4 K4
 refine wp_ret ?_
 refine Zdz ?_
 exact ret2 hK ⟨⟨_, rfl, Fv4.out⟩, HB.out⟩
theorem LL.setLen {w : World} {v : Value} {n : Nat} {xs : List Nat} (h : LL w v n xs) {p : Addr} {a : Option Addr} {l c : Nat} (hp : w.cell? p = some (.slice a l c)) (hl : l ≠ n) (x : Value) : LL (w.setCell p x) v n xs := by
  obtain ⟨g, o, c', e, h1, h2, hg, hc⟩ := h.ex
  refine ⟨g, o, c', e, h1, h2, by rw [World.size_setCell]; exact hg, fun j y hj => ?_⟩
  obtain ⟨u, hu, hlu⟩ := hc j y hj
  refine ⟨u, ?_, hlu.setOther hp x⟩
  rw [World.cell?_setCell_other _ _ _ _ (fun e => ?_)]
  · exact hu
  · rw [e] at hp
    rw [hu] at hp
    obtain ⟨g', o', c'', e', _⟩ := hlu.ex
    subst e'
    cases hp
    exact hl rfl
theorem LL.set3 {w : World} {v : Value} {n : Nat} {xs : List Nat} (h : LL w v n xs) {z t : Nat} {a0 a1 a2 : Option Addr} {l0 l1 l2 c0 c1 c2 : Nat} (hz : w.heap[z]? = some (.cells #[.slice a0 l0 c0, .slice a1 l1 c1, .slice a2 l2 c2] t (0, 0))) (h0 : l0 ≠ n) (h1 : l1 ≠ n) (h2 : l2 ≠ n) (x y u : Value) :
    LL (((w.setCell ⟨z, 0, none⟩ x).setCell ⟨z, 1, none⟩ y).setCell ⟨z, 2, none⟩ u) v n xs := by
  have e1 := Zaw (o := 0) hz x
  have e2 := Zaw (o := 1) e1 y
  exact ((h.setLen (Zac (o := 0) hz rfl) h0 x).setLen (Zac (o := 1) e1 rfl) h1 y).setLen (Zac (o := 2) e2 rfl) h2 u
theorem LW.setNo {w : World} {v : Value} {n : Nat} {f : Nat → Nat} (h : LW w v n f) {p : Addr} {b : Bool} (hp : w.cell? p = some (.bool b)) (x : Value) : LW (w.setCell p x) v n f := by
  obtain ⟨g, o, c', e, h1, h2, hg, hc⟩ := h.ex
  refine ⟨g, o, c', e, h1, h2, by rw [World.size_setCell]; exact hg, fun j hj => ?_⟩
  rw [World.cell?_setCell_other _ _ _ _ (fun e => ?_)]
  · exact hc j hj
  · rw [e] at hp
    rw [hc j hj] at hp
    cases hp
theorem LL.setNo {w : World} {v : Value} {n : Nat} {xs : List Nat} (h : LL w v n xs) {p : Addr} {b : Bool} (hp : w.cell? p = some (.bool b)) (x : Value) : LL (w.setCell p x) v n xs := by
  obtain ⟨g, o, c', e, h1, h2, hg, hc⟩ := h.ex
  refine ⟨g, o, c', e, h1, h2, by rw [World.size_setCell]; exact hg, fun j y hj => ?_⟩
  obtain ⟨u, hu, hlu⟩ := hc j y hj
  refine ⟨u, ?_, hlu.setNo hp x⟩
  rw [World.cell?_setCell_other _ _ _ _ (fun e => ?_)]
  · exact hu
  · rw [e] at hp
    rw [hu] at hp
    obtain ⟨g', o', c'', e', _⟩ := hlu.ex
    subst e'
    cases hp
theorem LL.set3b {w : World} {v : Value} {n : Nat} {xs : List Nat} (h : LL w v n xs) {z t : Nat} {a0 a1 : Option Addr} {l0 l1 c0 c1 : Nat} {b : Bool} (hz : w.heap[z]? = some (.cells #[.slice a0 l0 c0, .slice a1 l1 c1, .bool b] t (0, 0))) (h0 : l0 ≠ n) (h1 : l1 ≠ n) (x y u : Value) :
    LL (((w.setCell ⟨z, 0, none⟩ x).setCell ⟨z, 1, none⟩ y).setCell ⟨z, 2, none⟩ u) v n xs := by
  have e1 := Zaw (o := 0) hz x
  have e2 := Zaw (o := 1) e1 y
  exact ((h.setLen (Zac (o := 0) hz rfl) h0 x).setLen (Zac (o := 1) e1 rfl) h1 y).setNo (Zac (o := 2) e2 rfl) u
theorem Zd2 {w : World} {z t : Nat} {a b c : Value} (hz : w.heap[z]? = some (.cells #[a, b, c] t (0, 0))) (x y u : Value) : (((w.setCell ⟨z, 0, none⟩ x).setCell ⟨z, 1, none⟩ y).setCell ⟨z, 2, none⟩ u).heap[z]? = some (.cells #[x, y, u] t (0, 0)) :=
  Zaw (o := 2) (Zaw (o := 1) (Zaw (o := 0) hz x) y) u
theorem ZeC {w : World} {z m : Nat} (h : m ≤ z) (x y u : Value) : Below m w (((w.setCell ⟨z, 0, none⟩ x).setCell ⟨z, 1, none⟩ y).setCell ⟨z, 2, none⟩ u) :=
  (((Below.refl _ _).setCell (p := ⟨z, 0, none⟩) h x).setCell (p := ⟨z, 1, none⟩) h y).setCell (p := ⟨z, 2, none⟩) h u
theorem Zmb {m : Nat} {s : Nat × Nat × Nat} (hm : 0 < m) (h : s.1 < m ∧ s.2.1 < m ∧ s.2.2 < m) : (dTw m s).1 < m ∧ (dTw m s).2.1 < m ∧ (dTw m s).2.2 < m := by
  unfold dTw
  by_cases hc : s.2.2 = 0 ∨ s.2.1 = 0
  · rw [if_pos hc]
    exact ⟨h.1, h.2.1, hm⟩
  · rw [if_neg hc]
    exact ⟨Nat.mod_lt _ hm, Nat.mod_lt _ hm, Nat.mod_lt _ hm⟩
theorem Zmc {m u v : Nat} {s : Nat × Nat × Nat} (h1 : 1 < m) (hu : u < m) (hv : v < m) (h : s.1 < m ∧ s.2.1 < m ∧ s.2.2 < m) : (dPl m s u v).1 < m ∧ (dPl m s u v).2.1 < m ∧ (dPl m s u v).2.2 < m := by
  have hm : 0 < m := by omega
  unfold dPl
  by_cases hc : s.2.2 = 0
  · rw [if_pos hc]
    exact ⟨hu, hv, h1⟩
  · rw [if_neg hc]
    dsimp only
    split
    · split
      · exact Zmb hm h
      · exact ⟨h.1, h.2.1, hm⟩
    · exact ⟨Nat.mod_lt _ hm, Nat.mod_lt _ hm, Nat.mod_lt _ hm⟩
structure TmS (w W : World) (z n M : Nat) (cc pc : Array Value) (d : Nat × Nat × Nat) : Prop where
  below : Below w.heap.size w W
  rc : W.heap[w.heap.size]? = some (.cells cc 44 (0, 0))
  rp : W.heap[w.heap.size + 1]? = some (.cells pc 42 (0, 0))
  rr : W.heap[w.heap.size + 1 + 1]? = some (.cells #[.slice none 0 0, .slice none 0 0, .bool false] 42 (0, 0))
  zge : w.heap.size + 3 ≤ z
  lt : d.1 < M ∧ d.2.1 < M ∧ d.2.2 < M
  ex : ∃ a b c, W.heap[z]? = some (.cells #[a, b, c] 283 (0, 0)) ∧ JD W (.agg #[a, b, c]) n d
theorem JD.cells {w : World} {a b c : Value} {n : Nat} {d : Nat × Nat × Nat} (h : JD w (.agg #[a, b, c]) n d) : LL w a n [d.1] ∧ LL w b n [d.2.1] ∧ LL w c n [d.2.2] := by
  obtain ⟨a', b', c', e, h⟩ := h.ex
  cases e
  exact h
theorem TmS.moved {w W V : World} {z n M : Nat} {cc pc : Array Value} {d : Nat × Nat × Nat} (h : TmS w W z n M cc pc d) (hb : Below W.heap.size W V) : TmS w V z n M cc pc d := by
  obtain ⟨a, b, c, hz, hJ⟩ := h.ex
  exact ⟨h.below.trans (hb.mono h.below.size), (hb.block _ (Zab h.rc)).trans h.rc, (hb.block _ (Zab h.rp)).trans h.rp, (hb.block _ (Zab h.rr)).trans h.rr, h.zge, h.lt, a, b, c, (hb.block _ (Zab hz)).trans hz, hJ.moved hb⟩
theorem TmS.put {w W : World} {z n M : Nat} {cc pc : Array Value} {d d' : Nat × Nat × Nat} (h : TmS w W z n M cc pc d) (hn : 2 ≤ n) {x y u : Value} (hJ : JD W (.agg #[x, y, u]) n d') (hd : d'.1 < M ∧ d'.2.1 < M ∧ d'.2.2 < M) : TmS w (((W.setCell ⟨z, 0, none⟩ x).setCell ⟨z, 1, none⟩ y).setCell ⟨z, 2, none⟩ u) z n M cc pc d' := by
  obtain ⟨a, b, c, hz, hJ0⟩ := h.ex
  obtain ⟨h1, h2, h3⟩ := hJ.cells
  obtain ⟨k1, k2, k3⟩ := hJ0.cells
  obtain ⟨_, _, _, rfl, _⟩ := k1.ex
  obtain ⟨_, _, _, rfl, _⟩ := k2.ex
  obtain ⟨_, _, _, rfl, _⟩ := k3.ex
  have hb := ZeC (w := W) h.zge x y u
  have e1 : ([d.1] : List Nat).length ≠ n := by simp; omega
  have e2 : ([d.2.1] : List Nat).length ≠ n := by simp; omega
  have e3 : ([d.2.2] : List Nat).length ≠ n := by simp; omega
  refine ⟨h.below.trans (hb.mono (by omega)), (hb.block _ (by omega)).trans h.rc, (hb.block _ (by omega)).trans h.rp, (hb.block _ (by omega)).trans h.rr, h.zge, hd, x, y, u, Zd2 hz x y u, x, y, u, rfl, ?_, ?_, ?_⟩
  · exact h1.set3 hz e1 e2 e3 x y u
  · exact h2.set3 hz e1 e2 e3 x y u
  · exact h3.set3 hz e1 e2 e3 x y u
theorem rZero (b : Bool) : runZ [(zrE (.v 0), b)] Tryz.f175 [lsE [.v 0]] = some (.one (.cx (.lit b))) := by cases b <;> kernel_rfl
theorem Zgi {n M : Nat} (hn : 2 ≤ n) (hM : FM n M) {x : Nat} (hx : x < M) (w : World) (u : Value) (hu : LL w u n [x]) : Calls Tryz.prog 175 #[u] w fun r w' => r = .returned (.bool (decide (x = 0))) ∧ Below w.heap.size w w' := by
  have := Zga hn hM (v := fun _ => x) (bo := fun _ => false) (fun _ _ => hx) [(zrE (.v 0), decide (x = 0))] (by intro z hz; cases List.mem_singleton.1 hz; rfl) (w := w) Tryz.func175 (rZero _) (vs := [u]) ⟨hu, trivial⟩
  exact this.mono fun e w' h => ⟨by obtain ⟨⟨u, e, h⟩, _⟩ := h; rw [e, show u = .bool (decide (x = 0)) from h], h.2⟩
theorem rInf : runZ [] Tryz.f140 [K1] = some (ptE (.c 0) (.c 0) (.lit true)) := by kernel_rfl
theorem Zlm {n M B R bx by_ : Nat} (hn : 2 ≤ n) (hM : FM n M) (hB : B < M ∧ bx < M ∧ by_ < M) (w : World) (cv : Value) (hC : DCv w cv n M B R bx by_) : Calls Tryz.prog 140 #[cv] w fun r w' => (∃ u, r = .returned u ∧ QD w' u n 0 0 true) ∧ Below w.heap.size w w' := by
  have := Zga hn hM (Zlh (s := (0, 0, 0)) hM.pos ⟨hM.pos, hM.pos, hM.pos⟩ ⟨hM.pos, hM.pos⟩ hB) (bo := fun _ => false) [] (by simp) (w := w) Tryz.func140 rInf (vs := [cv]) ⟨hC.vd, trivial⟩
  refine this.mono fun e w' h => ⟨?_, h.2⟩
  obtain ⟨⟨u, e, l, rfl, h⟩, _⟩ := h
  match l, h with
  | [a, b, c], ⟨h1, h2, h3, _⟩ =>
    have h3 : c = .bool true := h3
    subst h3
    exact ⟨_, e, a, b, rfl, h1, h2⟩
end Go.Proofs.YtcbdbnfgnonacaaGreat
