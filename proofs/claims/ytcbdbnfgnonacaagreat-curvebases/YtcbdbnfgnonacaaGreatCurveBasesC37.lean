/-
 The program's Big and Bytes, of 4 limbs.
-/
import Derived.Test.YtcbdbnfgnonacaaGreatCurveBasesC36
set_option maxHeartbeats 2000000
set_option maxRecDepth 100000
namespace Go.Proofs.YtcbdbnfgnonacaaGreat.P6
open Go.RowKit Go.Shelf
def Zbk (m : Nat) (b x y : K) (i : Bool) (kk : Nat) : Int := if goodN m b x y i = 0 then (if Like m (timesP m x y i kk).2.2 k0 then 0 else 72) else goodN m b x y i
abbrev cp0 : SV := .one (.xp 1 0)
abbrev wdE : SV := .row [.e 2 (.c 0)]
abbrev iE (e : Int) : SV := .one (.v (.int .i64 e))
abbrev P0 : SV := ptE (.v 0) (.v 1) (.at_ 0)
abbrev S2 : EX × EX × EX := (.v 2, .v 3, .v 4)
def vA (x y x2 y2 : K) (s u : T3) (q : P3) : Nat → K
 | 0 => x
 | 1 => y
 | 2 => s.1
 | 3 => s.2.1
 | 4 => s.2.2
 | 5 => q.1
 | 6 => q.2.1
 | 7 => x2
 | 8 => y2
 | 9 => u.1
 | 10 => u.2.1
 | _ => u.2.2
def bA (i : Bool) (q : P3) (i2 : Bool) : Nat → Bool
 | 0 => i
 | 1 => q.2.2
 | _ => i2
def fitA : Nat → Bool
 | 0 => true
 | 1 => true
 | 7 => true
 | 8 => true
 | _ => false
theorem fitsA {x y x2 y2 : K} {s u : T3} {q : P3} (hx : Fits x) (hy : Fits y) (hx2 : Fits x2) (hy2 : Fits y2) (i : Nat) (h : fitA i = true) : Fits (vA x y x2 y2 s u q i) := by
 unfold fitA at h
 split at h
 ·
  exact hx
 ·
  exact hy
 ·
  exact hx2
 ·
  exact hy2
 ·
  cases h
def xlC (o : Bool) (i q t : Nat) : Option SV := match i with
 | 0 => if q = 1 + 3 * 6 ∧ t = 144 then some (ptE (.c 3) (.c 4) (.lit false)) else if o = true ∧ q = 2 + 5 * 6 ∧ t = 65 then some wdE else none
 | _ + 1 => if q = 1 ∧ t = 141 then some gp0 else none
section
variable {w : World} {D : Dt} (HG : GAt w D.g D.p D.m D.b)
include HG
theorem Zcm (X Y : EX) (C : CX) (hX : Fits ((al D).d X)) (hY : Fits ((al D).d Y)) {e : Int} (h : goodN D.m D.b ((al D).d X) ((al D).d Y) ((al D).cx C) = e) : FactOK Tryz.prog (al D) w (127, [gp0, ptE X Y C], iE e) :=
 ⟨en Tryz.func127, fun β V hV => by
  simp only [Al.sv, List.map_cons, List.map_nil, ZaO]
  exact Zdm (HG.below hV) _ _ hX hY _ h⟩
theorem ZcP (hk : D.kw < 2 ^ 256) (X Y : EX) (C : CX) (S : EX × EX × EX) (hX : Fits ((al D).d X)) (hY : Fits ((al D).d Y)) (h : timesP D.m ((al D).d X) ((al D).d Y) ((al D).cx C) D.kw = ((al D).d S.1, (al D).d S.2.1, (al D).d S.2.2)) : FactOK Tryz.prog (al D) w (171, [gp0, ptE X Y C, wdE], scE S) :=
 ⟨en Tryz.func171, fun β V hV => by
  have := Zdn (HG.below hV) _ _ hX hY ((al D).cx C) D.kw hk
  rw [h] at this
  clear h
  simp only [scE, Al.sv, List.map_cons, List.map_nil, ZaO, Zbz, rw_w]
  exact this⟩
end
section
variable {w : World} {c g p m : Nat} {b bx bY : K} {kk : Nat} (hG : CAt w c g p m b bx bY kk)
include hG
theorem ZeF {kw : Nat} {v : Nat → K} {bo : Nat → Bool} {o : Bool} (ho : o = true → kw = kk) : XLOK (al ⟨m, g, p, b, bx, bY, kw, v, bo, c⟩) (xlC o) w := fun i q t y β V h hV => by
 have H := hG.below hV
 unfold xlC at h
 split at h
 ·
  split at h
  ·
   rename_i e
   obtain ⟨rfl, rfl⟩ := e
   cases h
   rw [Al.sv, ZaO]
   exact loadC V g _ _ _ _ H.gb.base Zcc rfl (infoPt (ZaD _ _ _))
  ·
   split at h
   ·
    rename_i e
    obtain ⟨ho', rfl, rfl⟩ := e
    cases h
    rw [Al.sv, rw_w, ho ho']
    exact loadC V g _ _ _ _ H.gb.ord Zce rfl (infoWd (W4.Za5 _))
   ·
    cases h
 ·
  split at h
  ·
   rename_i e
   obtain ⟨rfl, rfl⟩ := e
   cases h
   exact ld1 (by kernel_rfl) H.at_
  ·
   cases h
theorem Zb2 (kw : Nat) (v : Nat → K) (bo : Nat → Bool) (hv : ∀ i, fitA i = true → Fits (v i)) (o : Bool) (ho : o = true → kw = kk) (G : List (CX × Bool)) (gOK : GsOK (al ⟨m, g, p, b, bx, bY, kw, v, bo, c⟩) G) (F : List Fact) (hF : ZbV Tryz.prog (al ⟨m, g, p, b, bx, bY, kw, v, bo, c⟩) w F) {f : Nat} {fn : Func} (hf : Tryz.prog.funcs[f]? = some fn) {args : List SV} {y : SV} (h : runG fitA G (factT F) (xlC o) fn args = some y) :
  Calls Tryz.prog f (args.map ((al ⟨m, g, p, b, bx, bY, kw, v, bo, c⟩).sv fun _ => 0)).toArray w fun e w' => e = .returned ((al ⟨m, g, p, b, bx, bY, kw, v, bo, c⟩).sv (fun _ => 0) y) ∧ Below w.heap.size w w' :=
 ZbH ⟨m, g, p, b, bx, bY, kw, v, bo, c⟩ fitA G hG.ga hv gOK.all (ZbU hF) (ZeF hG ho) hf h _
set_option maxRecDepth 100000
theorem Zcn : Calls Tryz.prog 23 #[.pointer (some ⟨c, 0, none⟩)] w fun e w' => e = .returned (.agg (pt bx bY false)) ∧ Below w.heap.size w w' := by
 have := Zb2 hG 0 (fun _ => k0) (fun _ => false) (fun _ _ => Zbt) false (fun h => by cases h) [] trivial [] trivial Tryz.func23 (args := [cp0]) (y := ptE (.c 3) (.c 4) (.lit false)) (by kernel_rfl)
 simp only [Al.sv, List.map_cons, List.map_nil, ZaO] at this
 exact this
variable (x y : K) (hx : Fits x) (hy : Fits y)
include hx hy
theorem Zci (hk : kk < 2 ^ 256) (i : Bool) : Calls Tryz.prog 30 #[.pointer (some ⟨c, 0, none⟩), .agg (pt x y i)] w fun e w' => e = .returned (.int .i64 (Zbk m b x y i kk)) ∧ Below w.heap.size w w' := by
 unfold Zbk
 have bad : ∀ e0 : Int, goodN m b x y i = e0 → runG fitA [] (factT [(127, [gp0, P0], iE e0)]) (xlC false) Tryz.f30 [cp0, P0] = some (iE e0) → Calls Tryz.prog 30 #[.pointer (some ⟨c, 0, none⟩), .agg (pt x y i)] w fun e w' => e = .returned (.int .i64 e0) ∧ Below w.heap.size w w' := fun e0 he h => by
  have := Zb2 hG 0 (vA x y x y (k0, k0, k0) (k0, k0, k0) (k0, k0, i)) (bA i (k0, k0, i) i) (fitsA hx hy hx hy) false (fun h => by cases h) [] trivial [(127, [gp0, P0], iE e0)] ⟨Zcm hG.ga (.v 0) (.v 1) (.at_ 0) (by exact hx) (by exact hy) he, trivial⟩ Tryz.func30 h
  simp only [Al.sv, List.map_cons, List.map_nil, ZaO] at this
  exact this
 rcases Zbv m b x y i with he | he | he
 ·
  rw [he, if_pos rfl]
  have main : ∀ s : T3, timesP m x y i kk = s → Calls Tryz.prog 30 #[.pointer (some ⟨c, 0, none⟩), .agg (pt x y i)] w fun e w' => e = .returned (.int .i64 (if Like m s.2.2 k0 then 0 else 72)) ∧ Below w.heap.size w w' := fun s hs => by
   have hF : ZbV Tryz.prog (al ⟨m, g, p, b, bx, bY, kk, vA x y x y s (k0, k0, k0) (k0, k0, i), bA i (k0, k0, i) i, c⟩) w [(127, [gp0, P0], iE 0), (171, [gp0, P0, wdE], scE S2)] := ⟨Zcm hG.ga (.v 0) (.v 1) (.at_ 0) (by exact hx) (by exact hy) he, ZcP hG.ga hk (.v 0) (.v 1) (.at_ 0) S2 (by exact hx) (by exact hy) hs, trivial⟩
   by_cases hz : Like m s.2.2 k0
   ·
    rw [if_pos hz]
    have := Zb2 hG kk _ _ (fitsA hx hy hx hy) true (fun _ => rfl) [(.lk 0 (.v 4) (.c 0), true)] ⟨(Zat _ _ _).trans (decide_eq_true hz), trivial⟩ _ hF Tryz.func30 (args := [cp0, P0]) (y := iE 0) (by kernel_rfl)
    simp only [Al.sv, List.map_cons, List.map_nil, ZaO] at this
    exact this
   ·
    rw [if_neg hz]
    have := Zb2 hG kk _ _ (fitsA hx hy hx hy) true (fun _ => rfl) [(.lk 0 (.v 4) (.c 0), false)] ⟨(Zat _ _ _).trans (decide_eq_false hz), trivial⟩ _ hF Tryz.func30 (args := [cp0, P0]) (y := iE 72) (by kernel_rfl)
    simp only [Al.sv, List.map_cons, List.map_nil, ZaO] at this
    exact this
  exact main _ rfl
 ·
  rw [he]
  exact bad 70 he (by kernel_rfl)
 ·
  rw [he]
  exact bad 71 he (by kernel_rfl)
variable (x2 y2 : K) (hx2 : Fits x2) (hy2 : Fits y2)
include hx2 hy2
end
end Go.Proofs.YtcbdbnfgnonacaaGreat.P6
namespace Go.Proofs.YtcbdbnfgnonacaaGreat.Q4
open Go.RowKit Go.Shelf
def Zbk (m : Nat) (b x y : K) (i : Bool) (kk : Nat) : Int := if goodN m b x y i = 0 then (if Like m (timesP m x y i kk).2.2 k0 then 0 else 72) else goodN m b x y i
abbrev cp0 : SV := .one (.xp 1 0)
abbrev wdE : SV := .row [.e 2 (.c 0)]
abbrev iE (e : Int) : SV := .one (.v (.int .i64 e))
abbrev P0 : SV := ptE (.v 0) (.v 1) (.at_ 0)
abbrev S2 : EX × EX × EX := (.v 2, .v 3, .v 4)
def vA (x y x2 y2 : K) (s u : T3) (q : P3) : Nat → K
 | 0 => x
 | 1 => y
 | 2 => s.1
 | 3 => s.2.1
 | 4 => s.2.2
 | 5 => q.1
 | 6 => q.2.1
 | 7 => x2
 | 8 => y2
 | 9 => u.1
 | 10 => u.2.1
 | _ => u.2.2
def bA (i : Bool) (q : P3) (i2 : Bool) : Nat → Bool
 | 0 => i
 | 1 => q.2.2
 | _ => i2
def fitA : Nat → Bool
 | 0 => true
 | 1 => true
 | 7 => true
 | 8 => true
 | _ => false
theorem fitsA {x y x2 y2 : K} {s u : T3} {q : P3} (hx : Fits x) (hy : Fits y) (hx2 : Fits x2) (hy2 : Fits y2) (i : Nat) (h : fitA i = true) : Fits (vA x y x2 y2 s u q i) := by
 unfold fitA at h
 split at h
 ·
  exact hx
 ·
  exact hy
 ·
  exact hx2
 ·
  exact hy2
 ·
  cases h
def xlC (o : Bool) (i q t : Nat) : Option SV := match i with
 | 0 => if q = 1 + 3 * 8 ∧ t = 133 then some (ptE (.c 3) (.c 4) (.lit false)) else if o = true ∧ q = 2 + 5 * 8 ∧ t = 65 then some wdE else none
 | _ + 1 => if q = 2 ∧ t = 115 then some gp0 else none
section
variable {w : World} {D : Dt} (HG : GAt w D.g D.p D.m D.b)
include HG
theorem Zcm (X Y : EX) (C : CX) (hX : Fits ((al D).d X)) (hY : Fits ((al D).d Y)) {e : Int} (h : goodN D.m D.b ((al D).d X) ((al D).d Y) ((al D).cx C) = e) : FactOK Tryz.prog (al D) w (123, [gp0, ptE X Y C], iE e) :=
 ⟨en Tryz.func123, fun β V hV => by
  simp only [Al.sv, List.map_cons, List.map_nil, ZaO]
  exact Zdm (HG.below hV) _ _ hX hY _ h⟩
theorem ZcP (hk : D.kw < 2 ^ 256) (X Y : EX) (C : CX) (S : EX × EX × EX) (hX : Fits ((al D).d X)) (hY : Fits ((al D).d Y)) (h : timesP D.m ((al D).d X) ((al D).d Y) ((al D).cx C) D.kw = ((al D).d S.1, (al D).d S.2.1, (al D).d S.2.2)) : FactOK Tryz.prog (al D) w (170, [gp0, ptE X Y C, wdE], scE S) :=
 ⟨en Tryz.func170, fun β V hV => by
  have := Zdn (HG.below hV) _ _ hX hY ((al D).cx C) D.kw hk
  rw [h] at this
  clear h
  simp only [scE, Al.sv, List.map_cons, List.map_nil, ZaO, Zbz, rw_w]
  exact this⟩
end
section
variable {w : World} {c g p m : Nat} {b bx bY : K} {kk : Nat} (hG : CAt w c g p m b bx bY kk)
include hG
theorem ZeF {kw : Nat} {v : Nat → K} {bo : Nat → Bool} {o : Bool} (ho : o = true → kw = kk) : XLOK (al ⟨m, g, p, b, bx, bY, kw, v, bo, c⟩) (xlC o) w := fun i q t y β V h hV => by
 have H := hG.below hV
 unfold xlC at h
 split at h
 ·
  split at h
  ·
   rename_i e
   obtain ⟨rfl, rfl⟩ := e
   cases h
   rw [Al.sv, ZaO]
   exact loadC V g _ _ _ _ H.gb.base Zcc rfl (infoPt (ZaD _ _ _))
  ·
   split at h
   ·
    rename_i e
    obtain ⟨ho', rfl, rfl⟩ := e
    cases h
    rw [Al.sv, rw_w, ho ho']
    exact loadC V g _ _ _ _ H.gb.ord Zce rfl (infoWd (W4.Za5 _))
   ·
    cases h
 ·
  split at h
  ·
   rename_i e
   obtain ⟨rfl, rfl⟩ := e
   cases h
   exact ld1 (by kernel_rfl) H.at_
  ·
   cases h
theorem Zb2 (kw : Nat) (v : Nat → K) (bo : Nat → Bool) (hv : ∀ i, fitA i = true → Fits (v i)) (o : Bool) (ho : o = true → kw = kk) (G : List (CX × Bool)) (gOK : GsOK (al ⟨m, g, p, b, bx, bY, kw, v, bo, c⟩) G) (F : List Fact) (hF : ZbV Tryz.prog (al ⟨m, g, p, b, bx, bY, kw, v, bo, c⟩) w F) {f : Nat} {fn : Func} (hf : Tryz.prog.funcs[f]? = some fn) {args : List SV} {y : SV} (h : runG fitA G (factT F) (xlC o) fn args = some y) :
  Calls Tryz.prog f (args.map ((al ⟨m, g, p, b, bx, bY, kw, v, bo, c⟩).sv fun _ => 0)).toArray w fun e w' => e = .returned ((al ⟨m, g, p, b, bx, bY, kw, v, bo, c⟩).sv (fun _ => 0) y) ∧ Below w.heap.size w w' :=
 ZbH ⟨m, g, p, b, bx, bY, kw, v, bo, c⟩ fitA G hG.ga hv gOK.all (ZbU hF) (ZeF hG ho) hf h _
set_option maxRecDepth 100000
theorem Zcn : Calls Tryz.prog 20 #[.pointer (some ⟨c, 0, none⟩)] w fun e w' => e = .returned (.agg (pt bx bY false)) ∧ Below w.heap.size w w' := by
 have := Zb2 hG 0 (fun _ => k0) (fun _ => false) (fun _ _ => Zbt) false (fun h => by cases h) [] trivial [] trivial Tryz.func20 (args := [cp0]) (y := ptE (.c 3) (.c 4) (.lit false)) (by kernel_rfl)
 simp only [Al.sv, List.map_cons, List.map_nil, ZaO] at this
 exact this
variable (x y : K) (hx : Fits x) (hy : Fits y)
include hx hy
theorem Zci (hk : kk < 2 ^ 256) (i : Bool) : Calls Tryz.prog 29 #[.pointer (some ⟨c, 0, none⟩), .agg (pt x y i)] w fun e w' => e = .returned (.int .i64 (Zbk m b x y i kk)) ∧ Below w.heap.size w w' := by
 unfold Zbk
 have bad : ∀ e0 : Int, goodN m b x y i = e0 → runG fitA [] (factT [(123, [gp0, P0], iE e0)]) (xlC false) Tryz.f29 [cp0, P0] = some (iE e0) → Calls Tryz.prog 29 #[.pointer (some ⟨c, 0, none⟩), .agg (pt x y i)] w fun e w' => e = .returned (.int .i64 e0) ∧ Below w.heap.size w w' := fun e0 he h => by
  have := Zb2 hG 0 (vA x y x y (k0, k0, k0) (k0, k0, k0) (k0, k0, i)) (bA i (k0, k0, i) i) (fitsA hx hy hx hy) false (fun h => by cases h) [] trivial [(123, [gp0, P0], iE e0)] ⟨Zcm hG.ga (.v 0) (.v 1) (.at_ 0) (by exact hx) (by exact hy) he, trivial⟩ Tryz.func29 h
  simp only [Al.sv, List.map_cons, List.map_nil, ZaO] at this
  exact this
 rcases Zbv m b x y i with he | he | he
 ·
  rw [he, if_pos rfl]
  have main : ∀ s : T3, timesP m x y i kk = s → Calls Tryz.prog 29 #[.pointer (some ⟨c, 0, none⟩), .agg (pt x y i)] w fun e w' => e = .returned (.int .i64 (if Like m s.2.2 k0 then 0 else 72)) ∧ Below w.heap.size w w' := fun s hs => by
   have hF : ZbV Tryz.prog (al ⟨m, g, p, b, bx, bY, kk, vA x y x y s (k0, k0, k0) (k0, k0, i), bA i (k0, k0, i) i, c⟩) w [(123, [gp0, P0], iE 0), (170, [gp0, P0, wdE], scE S2)] := ⟨Zcm hG.ga (.v 0) (.v 1) (.at_ 0) (by exact hx) (by exact hy) he, ZcP hG.ga hk (.v 0) (.v 1) (.at_ 0) S2 (by exact hx) (by exact hy) hs, trivial⟩
   by_cases hz : Like m s.2.2 k0
   ·
    rw [if_pos hz]
    have := Zb2 hG kk _ _ (fitsA hx hy hx hy) true (fun _ => rfl) [(.lk 0 (.v 4) (.c 0), true)] ⟨(Zat _ _ _).trans (decide_eq_true hz), trivial⟩ _ hF Tryz.func29 (args := [cp0, P0]) (y := iE 0) (by kernel_rfl)
    simp only [Al.sv, List.map_cons, List.map_nil, ZaO] at this
    exact this
   ·
    rw [if_neg hz]
    have := Zb2 hG kk _ _ (fitsA hx hy hx hy) true (fun _ => rfl) [(.lk 0 (.v 4) (.c 0), false)] ⟨(Zat _ _ _).trans (decide_eq_false hz), trivial⟩ _ hF Tryz.func29 (args := [cp0, P0]) (y := iE 72) (by kernel_rfl)
    simp only [Al.sv, List.map_cons, List.map_nil, ZaO] at this
    exact this
  exact main _ rfl
 ·
  rw [he]
  exact bad 70 he (by kernel_rfl)
 ·
  rw [he]
  exact bad 71 he (by kernel_rfl)
variable (x2 y2 : K) (hx2 : Fits x2) (hy2 : Fits y2)
include hx2 hy2
end
end Go.Proofs.YtcbdbnfgnonacaaGreat.Q4
namespace Go.Proofs.YtcbdbnfgnonacaaGreat.Q6
open Go.RowKit Go.Shelf
def Zbk (m : Nat) (b x y : K) (i : Bool) (kk : Nat) : Int := if goodN m b x y i = 0 then (if Like m (timesP m x y i kk).2.2 k0 then 0 else 72) else goodN m b x y i
abbrev cp0 : SV := .one (.xp 1 0)
abbrev wdE : SV := .row [.e 2 (.c 0)]
abbrev iE (e : Int) : SV := .one (.v (.int .i64 e))
abbrev P0 : SV := ptE (.v 0) (.v 1) (.at_ 0)
abbrev S2 : EX × EX × EX := (.v 2, .v 3, .v 4)
def vA (x y x2 y2 : K) (s u : T3) (q : P3) : Nat → K
 | 0 => x
 | 1 => y
 | 2 => s.1
 | 3 => s.2.1
 | 4 => s.2.2
 | 5 => q.1
 | 6 => q.2.1
 | 7 => x2
 | 8 => y2
 | 9 => u.1
 | 10 => u.2.1
 | _ => u.2.2
def bA (i : Bool) (q : P3) (i2 : Bool) : Nat → Bool
 | 0 => i
 | 1 => q.2.2
 | _ => i2
def fitA : Nat → Bool
 | 0 => true
 | 1 => true
 | 7 => true
 | 8 => true
 | _ => false
theorem fitsA {x y x2 y2 : K} {s u : T3} {q : P3} (hx : Fits x) (hy : Fits y) (hx2 : Fits x2) (hy2 : Fits y2) (i : Nat) (h : fitA i = true) : Fits (vA x y x2 y2 s u q i) := by
 unfold fitA at h
 split at h
 ·
  exact hx
 ·
  exact hy
 ·
  exact hx2
 ·
  exact hy2
 ·
  cases h
def xlC (o : Bool) (i q t : Nat) : Option SV := match i with
 | 0 => if q = 1 + 3 * 12 ∧ t = 153 then some (ptE (.c 3) (.c 4) (.lit false)) else if o = true ∧ q = 2 + 5 * 12 ∧ t = 65 then some wdE else none
 | _ + 1 => if q = 2 ∧ t = 148 then some gp0 else none
section
variable {w : World} {D : Dt} (HG : GAt w D.g D.p D.m D.b)
include HG
theorem Zcm (X Y : EX) (C : CX) (hX : Fits ((al D).d X)) (hY : Fits ((al D).d Y)) {e : Int} (h : goodN D.m D.b ((al D).d X) ((al D).d Y) ((al D).cx C) = e) : FactOK Tryz.prog (al D) w (130, [gp0, ptE X Y C], iE e) :=
 ⟨en Tryz.func130, fun β V hV => by
  simp only [Al.sv, List.map_cons, List.map_nil, ZaO]
  exact Zdm (HG.below hV) _ _ hX hY _ h⟩
theorem ZcP (hk : D.kw < 2 ^ 256) (X Y : EX) (C : CX) (S : EX × EX × EX) (hX : Fits ((al D).d X)) (hY : Fits ((al D).d Y)) (h : timesP D.m ((al D).d X) ((al D).d Y) ((al D).cx C) D.kw = ((al D).d S.1, (al D).d S.2.1, (al D).d S.2.2)) : FactOK Tryz.prog (al D) w (172, [gp0, ptE X Y C, wdE], scE S) :=
 ⟨en Tryz.func172, fun β V hV => by
  have := Zdn (HG.below hV) _ _ hX hY ((al D).cx C) D.kw hk
  rw [h] at this
  clear h
  simp only [scE, Al.sv, List.map_cons, List.map_nil, ZaO, Zbz, rw_w]
  exact this⟩
end
section
variable {w : World} {c g p m : Nat} {b bx bY : K} {kk : Nat} (hG : CAt w c g p m b bx bY kk)
include hG
theorem ZeF {kw : Nat} {v : Nat → K} {bo : Nat → Bool} {o : Bool} (ho : o = true → kw = kk) : XLOK (al ⟨m, g, p, b, bx, bY, kw, v, bo, c⟩) (xlC o) w := fun i q t y β V h hV => by
 have H := hG.below hV
 unfold xlC at h
 split at h
 ·
  split at h
  ·
   rename_i e
   obtain ⟨rfl, rfl⟩ := e
   cases h
   rw [Al.sv, ZaO]
   exact loadC V g _ _ _ _ H.gb.base Zcc rfl (infoPt (ZaD _ _ _))
  ·
   split at h
   ·
    rename_i e
    obtain ⟨ho', rfl, rfl⟩ := e
    cases h
    rw [Al.sv, rw_w, ho ho']
    exact loadC V g _ _ _ _ H.gb.ord Zce rfl (infoWd (W4.Za5 _))
   ·
    cases h
 ·
  split at h
  ·
   rename_i e
   obtain ⟨rfl, rfl⟩ := e
   cases h
   exact ld1 (by kernel_rfl) H.at_
  ·
   cases h
theorem Zb2 (kw : Nat) (v : Nat → K) (bo : Nat → Bool) (hv : ∀ i, fitA i = true → Fits (v i)) (o : Bool) (ho : o = true → kw = kk) (G : List (CX × Bool)) (gOK : GsOK (al ⟨m, g, p, b, bx, bY, kw, v, bo, c⟩) G) (F : List Fact) (hF : ZbV Tryz.prog (al ⟨m, g, p, b, bx, bY, kw, v, bo, c⟩) w F) {f : Nat} {fn : Func} (hf : Tryz.prog.funcs[f]? = some fn) {args : List SV} {y : SV} (h : runG fitA G (factT F) (xlC o) fn args = some y) :
  Calls Tryz.prog f (args.map ((al ⟨m, g, p, b, bx, bY, kw, v, bo, c⟩).sv fun _ => 0)).toArray w fun e w' => e = .returned ((al ⟨m, g, p, b, bx, bY, kw, v, bo, c⟩).sv (fun _ => 0) y) ∧ Below w.heap.size w w' :=
 ZbH ⟨m, g, p, b, bx, bY, kw, v, bo, c⟩ fitA G hG.ga hv gOK.all (ZbU hF) (ZeF hG ho) hf h _
set_option maxRecDepth 100000
theorem Zcn : Calls Tryz.prog 26 #[.pointer (some ⟨c, 0, none⟩)] w fun e w' => e = .returned (.agg (pt bx bY false)) ∧ Below w.heap.size w w' := by
 have := Zb2 hG 0 (fun _ => k0) (fun _ => false) (fun _ _ => Zbt) false (fun h => by cases h) [] trivial [] trivial Tryz.func26 (args := [cp0]) (y := ptE (.c 3) (.c 4) (.lit false)) (by kernel_rfl)
 simp only [Al.sv, List.map_cons, List.map_nil, ZaO] at this
 exact this
variable (x y : K) (hx : Fits x) (hy : Fits y)
include hx hy
theorem Zci (hk : kk < 2 ^ 256) (i : Bool) : Calls Tryz.prog 31 #[.pointer (some ⟨c, 0, none⟩), .agg (pt x y i)] w fun e w' => e = .returned (.int .i64 (Zbk m b x y i kk)) ∧ Below w.heap.size w w' := by
 unfold Zbk
 have bad : ∀ e0 : Int, goodN m b x y i = e0 → runG fitA [] (factT [(130, [gp0, P0], iE e0)]) (xlC false) Tryz.f31 [cp0, P0] = some (iE e0) → Calls Tryz.prog 31 #[.pointer (some ⟨c, 0, none⟩), .agg (pt x y i)] w fun e w' => e = .returned (.int .i64 e0) ∧ Below w.heap.size w w' := fun e0 he h => by
  have := Zb2 hG 0 (vA x y x y (k0, k0, k0) (k0, k0, k0) (k0, k0, i)) (bA i (k0, k0, i) i) (fitsA hx hy hx hy) false (fun h => by cases h) [] trivial [(130, [gp0, P0], iE e0)] ⟨Zcm hG.ga (.v 0) (.v 1) (.at_ 0) (by exact hx) (by exact hy) he, trivial⟩ Tryz.func31 h
  simp only [Al.sv, List.map_cons, List.map_nil, ZaO] at this
  exact this
 rcases Zbv m b x y i with he | he | he
 ·
  rw [he, if_pos rfl]
  have main : ∀ s : T3, timesP m x y i kk = s → Calls Tryz.prog 31 #[.pointer (some ⟨c, 0, none⟩), .agg (pt x y i)] w fun e w' => e = .returned (.int .i64 (if Like m s.2.2 k0 then 0 else 72)) ∧ Below w.heap.size w w' := fun s hs => by
   have hF : ZbV Tryz.prog (al ⟨m, g, p, b, bx, bY, kk, vA x y x y s (k0, k0, k0) (k0, k0, i), bA i (k0, k0, i) i, c⟩) w [(130, [gp0, P0], iE 0), (172, [gp0, P0, wdE], scE S2)] := ⟨Zcm hG.ga (.v 0) (.v 1) (.at_ 0) (by exact hx) (by exact hy) he, ZcP hG.ga hk (.v 0) (.v 1) (.at_ 0) S2 (by exact hx) (by exact hy) hs, trivial⟩
   by_cases hz : Like m s.2.2 k0
   ·
    rw [if_pos hz]
    have := Zb2 hG kk _ _ (fitsA hx hy hx hy) true (fun _ => rfl) [(.lk 0 (.v 4) (.c 0), true)] ⟨(Zat _ _ _).trans (decide_eq_true hz), trivial⟩ _ hF Tryz.func31 (args := [cp0, P0]) (y := iE 0) (by kernel_rfl)
    simp only [Al.sv, List.map_cons, List.map_nil, ZaO] at this
    exact this
   ·
    rw [if_neg hz]
    have := Zb2 hG kk _ _ (fitsA hx hy hx hy) true (fun _ => rfl) [(.lk 0 (.v 4) (.c 0), false)] ⟨(Zat _ _ _).trans (decide_eq_false hz), trivial⟩ _ hF Tryz.func31 (args := [cp0, P0]) (y := iE 72) (by kernel_rfl)
    simp only [Al.sv, List.map_cons, List.map_nil, ZaO] at this
    exact this
  exact main _ rfl
 ·
  rw [he]
  exact bad 70 he (by kernel_rfl)
 ·
  rw [he]
  exact bad 71 he (by kernel_rfl)
variable (x2 y2 : K) (hx2 : Fits x2) (hy2 : Fits y2)
include hx2 hy2
end
end Go.Proofs.YtcbdbnfgnonacaaGreat.Q6
namespace Go.Proofs.YtcbdbnfgnonacaaGreat.W4
open Go.RowKit Go.Shelf
theorem ZiH (X : Nat) (w : World) : Calls Tryz.prog 135 #[wv X] w fun r w' => (∃ g, r = .returned (.slice (some ⟨g, 0, none⟩) 32 32) ∧ w'.heap[g]? = some (.cells (cb 32 (fun j => byt X (32 - 1 - j))) 5 (0, 0))) ∧ Below w.heap.size w w' := by
 have hmk : (Instr.makeSlice 93 (.int .i64 (32 : Int)) (.int .i64 (32 : Int))).run Tryz.prog (w.alloc (.cells #[.int .u64 (limb X 0), .int .u64 (limb X 1), .int .u64 (limb X 2), .int .u64 (limb X 3)] 32 (0, 0))) = .ok (.slice (some ⟨w.heap.size + 1, 0, none⟩) 32 32) ((w.alloc (.cells #[.int .u64 (limb X 0), .int .u64 (limb X 1), .int .u64 (limb X 2), .int .u64 (limb X 3)] 32 (0, 0))).alloc (.cells (cb 32 (fun _ => 0)) 5)) := by
  have := Zhp (w.alloc (.cells #[.int .u64 (limb X 0), .int .u64 (limb X 1), .int .u64 (limb X 2), .int .u64 (limb X 3)] 32 (0, 0))) 32 (by decide)
  rw [World.size_alloc] at this
  exact this
 unfold wv cs
 go_enter Tryz.func135, Tryz.ntmps135
 go_wp2_with fail
 refine Zam (fun W0 hW0 => ?_)
 have hG : W0.heap[w.heap.size + 1]? = some (.cells (cb 32 (fun _ => 0)) 5 (0, 0)) := by
  rw [hW0]
  exact Zav _ _ _
 have hA : W0.heap[w.heap.size]? = some (.cells (cs (limb X)) 32 (0, 0)) := by
  rw [hW0]
  exact (Zag _ _ (by simp)).trans (Zaf _ _)
 have HA := hideP hA
 have HBW : Hid (Below w.heap.size w W0) := by
  show Below _ _ _
  rw [hW0]
  repeat first | exact Below.refl _ _ | (refine Below.alloc ?_ (by simp <;> omega) _)
 have HG := hideP hG
 clear hW0 hG hmk hA
 go_loopw [11] (fun i wr => ∃ k : Nat, k ≤ 32 ∧ i = .int .i64 k ∧ wr.heap[w.heap.size + 1]? = some (.cells (cb 32 (fun j => if 32 - k ≤ j then byt X (32 - 1 - j) else 0)) 5 (0, 0)) ∧ But (w.heap.size + 1) W0 wr) (fun i _ => 32 - (intOf i).toNat)
 case atStart => exact ⟨0, Nat.zero_le _, rfl, by rw [Zfi (g := fun _ => 0) (fun j hj => by rw [if_neg (by omega)])]; exact HG.out, But.refl _ _⟩
 case round =>
  obtain ⟨k, hk, rfl, hg, hb⟩ := hrel
  by_cases hlt : k < 32
  ·
   have hq : k / 8 < 4 := by omega
   have ca : wr.cell? ⟨w.heap.size, k / 8, none⟩ = some (.int .u64 (limb X (k / 8))) := (hb.cell (show w.heap.size ≠ w.heap.size + 1 by omega)).trans (Zae HA.out (get (limb X) hq))
   have cg := Zae hg (ZdR _ (show 32 - 1 - k < 32 by omega))
   have fr : ∀ o, wr.frozen? ⟨w.heap.size + 1, o, none⟩ = false := fun o => Zax hg
   have h3 := Zaz (o := 32 - 1 - k) hg (.int .u8 ((byt X k : Nat) : Int))
   rw [cb_set, Zfi (g := fun j => if 32 - (k + 1) ≤ j then byt X (32 - 1 - j) else 0) (fun j hj => by
    by_cases h1 : j = 32 - 1 - k
    ·
     rw [if_pos h1, if_pos (by omega), h1]
     congr 1
     omega
    ·
     rw [if_neg h1]
     by_cases h2 : 32 - k ≤ j
     ·
      rw [if_pos h2, if_pos (by omega)]
     ·
      rw [if_neg h2, if_neg (by omega)])] at h3
   have HBT : Hid ((limb X (k / 8) : Int) / 2 ^ (8 * (k % 8)) % 256 = (byt X k : Int)) := by
    show _ = _
    unfold byt
    simp
   have H3 := hideP h3
   have HB := hideP hb
   have HKS : Hid (k + 1 ≤ 32) := hlt
   have hlt' : (k : Int) < 32 := by omega
   have e1 : IntKind.i64.wrap ((32 : Int) - 1 - (k : Int)) = ((32 - 1 - k : Nat) : Int) := by rw [IntKind.wrap_i64]; omega
   have e4 : IntKind.i64.wrap ((k : Int) + 1) = (k : Int) + 1 := by rw [IntKind.wrap_i64]; omega
   have d1 : ((k : Int)).tdiv 8 = ((k / 8 : Nat) : Int) := by rw [Int.tdiv_eq_ediv_of_nonneg (by omega)]; omega
   have d1' : IntKind.i64.wrap ((k / 8 : Nat) : Int) = ((k / 8 : Nat) : Int) := by rw [IntKind.wrap_i64]; omega
   have d2 : ((k : Int)).tmod 8 = ((k % 8 : Nat) : Int) := by rw [Int.tmod_eq_emod_of_nonneg (by omega)]; omega
   have d2' : IntKind.i64.wrap ((k % 8 : Nat) : Int) = ((k % 8 : Nat) : Int) := by rw [IntKind.wrap_i64]; omega
   have d3 : IntKind.i64.wrap (8 * ((k % 8 : Nat) : Int)) = ((8 * (k % 8) : Nat) : Int) := by rw [IntKind.wrap_i64]; omega
   have g1 : ((k / 8 : Nat) : Int) < 4 := by omega
   have g2 : ((8 * (k % 8) : Nat) : Int) < 64 := by omega
   have g3 : ((32 - 1 - k : Nat) : Int) < 32 := by omega
   simp only [Int.reduceSub, Nat.reduceSub] at e1 g3 cg H3
   generalize limb X (k / 8) = lv at *
   generalize byt X k = bk at *
   generalize 8 * (k % 8) = sh at *
   generalize k / 8 = q at *
   generalize k % 8 = r at *
   clear hg hb hk hlt h3 
   go_wp2_with fail
   refine ⟨⟨k + 1, HKS.out, by go_num, ?_, HB.out.set _ _⟩, by have := HKS.out; simp [intOf]; omega⟩
   rw [HBT.out]
   exact H3.out
  ·
   have hkn : k = 32 := by omega
   have hnl : ¬ (k : Int) < 32 := by omega
   rw [hkn, Zfi (g := fun j => byt X (32 - 1 - j)) (fun j hj => by rw [if_pos (by omega)])] at hg
   have H3 := hideP hg
   have HB := hideP hb
   clear hg hb hk hlt hkn
   go_wp2
   go_ret
   exact ⟨⟨_, rfl, H3.out⟩, HBW.out.trans (HB.out.below.mono (by omega))⟩
theorem Zk4 {ao : Option Addr} {n c : Nat} {bs : Nat → Nat} (hn : n ≤ 32) (w : World) (h : BS w ao n c bs) : Calls Tryz.prog 206 #[.slice ao n c] w fun r w' => r = .returned (.tuple #[wv (bv bs n n), .int .i64 0]) ∧ Below w.heap.size w w' := by
 have g1 : ¬ (32 : Int) < (n : Int) := by omega
 have e1 : IntKind.i64.wrap (32 : Int) = 32 := by rw [IntKind.wrap_i64]; omega
 have HS := hideP h
 have HL := hideP hn
 have e0 : IntKind.i64.wrap ((n : Int) - 1) = (n : Int) - 1 := by rw [IntKind.wrap_i64]; omega
 clear h hn
 go_enter Tryz.func206, Tryz.ntmps206
 refine Zad (fun K0 HK0 => ?_)
 go_wp2_with fail
 refine HK0.out _ _ ?_
 refine Zad (fun K1 HK1 => ?_)
 go_wp2_with fail
 refine HK1.out _ _ ?_
 refine Zam (fun W0 hW0 => ?_)
 have hD : W0.heap[w.heap.size]? = some (.cells (cs (fun _ => 0)) 32 (0, 0)) := by
  rw [hW0]
  exact (Zag _ _ (by simp)).trans (Zaf _ _)
 have hG : W0.heap[w.heap.size + 1]? = some (.cells (cs (fun _ => 0)) 32 (0, 0)) := by
  rw [hW0]
  exact Zav _ _ _
 have HBW : Hid (Below w.heap.size w W0) := by
  show Below _ _ _
  rw [hW0]
  repeat first | exact Below.refl _ _ | (refine Below.alloc ?_ (by simp <;> omega) _)
 obtain ⟨q0, q1, q2, q3⟩ := cells hG
 have HG := hideP hG
 have HD := hideP hD
 clear hW0 hG hD
 refine Zad (fun K2 HK2 => ?_)
 refine Zad (fun K3 HK3 => ?_)
 go_wp2_with fail
 refine HK3.out _ _ ?_
 clear q0 q1 q2 q3
 refine wp_cond_false (by show Value.bool (decide ((32 : Int) < (n : Int))) = Value.bool false; rw [decide_eq_false (by omega)]) (wp_skip ?_)
 refine HK2.out _ _ ?_
 refine Zad (fun K4 HK4 => ?_)
 clear g1 e1
 go_wp2_with fail
 go_loopw [15] (fun i wr => ∃ k : Nat, k ≤ n ∧ i = .int .i64 k ∧ wr.heap[w.heap.size + 1]? = some (.cells (cs (limb (bv bs n k))) 32 (0, 0)) ∧ But (w.heap.size + 1) W0 wr) (fun i _ => n - (intOf i).toNat)
 case atStart => exact ⟨0, Nat.zero_le _, rfl, by rw [bv, Zba (g := fun _ => 0) (fun j _ => by simp [limb])]; exact HG.out, But.refl _ _⟩
 case round =>
  obtain ⟨k, hk, rfl, hg, hb⟩ := hrel
  by_cases hlt : k < n
  ·
   have hL := HL.out
   have hq : k / 8 < 4 := by omega
   have hV := ZjW HS.out.lt n k
   have hd := HS.out.lt (n - 1 - k)
   have cg := Zae hg (get _ hq)
   have fr : ∀ o, wr.frozen? ⟨w.heap.size + 1, o, none⟩ = false := fun o => Zax hg
   have hor := ZjX (limb (bv bs n k) (k / 8)) (bs (n - 1 - k)) (8 * (k % 8)) (Zfh hV) hd (by omega)
   have hN := Zfg (bv bs n k) (bs (n - 1 - k)) k
   have h3 := Zaz (o := k / 8) hg (.int .u64 ((limb (bv bs n k) (k / 8) + bs (n - 1 - k) * 2 ^ (8 * (k % 8)) : Nat) : Int))
   rw [set _ _ hq, Zba (g := limb (bv bs n (k + 1))) (fun j _ => by
    rw [bv, hN j hV hd]
    by_cases h1 : j = k / 8
    ·
     rw [if_pos h1, if_pos h1, h1]
    ·
     rw [if_neg h1, if_neg h1])] at h3
   have h3' : (wr.drew.setCell ⟨w.heap.size + 1, k / 8, none⟩ (.int .u64 ((limb (bv bs n k) (k / 8) + bs (n - 1 - k) * 2 ^ (8 * (k % 8)) : Nat) : Int))).heap[w.heap.size + 1]? = some (.cells (cs (limb (bv bs n (k + 1)))) 32 (0, 0)) := h3
   have H3 := hideP h3'
   have HB := hideP hb
   have HKS : Hid (k + 1 ≤ n) := hlt
   obtain ⟨ad, rfl, hix⟩ := ((HS.out.moved HBW.out).cell (n - 1 - k) (by omega))
   have hne : (ad.add (n - 1 - k)).block ≠ w.heap.size + 1 := by
    have := (HS.out.cell (n - 1 - k) (by omega))
    obtain ⟨ad', e', hc'⟩ := this
    cases e'
    have := World.block_lt_of_cell? w _ hc'
    omega
   have hix2 : wr.cell? (ad.add (n - 1 - k)) = some (.int .u8 (bs (n - 1 - k))) := by
    rw [← hix]
    simp only [World.cell?, hb.same _ hne]
   have hlt' : (k : Int) < n := by omega
   have i1 : ((n - 1 - k : Nat) : Int) < n := by omega
   have e1 : IntKind.i64.wrap ((n : Int) - 1 - (k : Int)) = ((n - 1 - k : Nat) : Int) := by rw [IntKind.wrap_i64]; omega
   have e4 : IntKind.i64.wrap ((k : Int) + 1) = (k : Int) + 1 := by rw [IntKind.wrap_i64]; omega
   have d1 : ((k : Int)).tdiv 8 = ((k / 8 : Nat) : Int) := by rw [Int.tdiv_eq_ediv_of_nonneg (by omega)]; omega
   have d1' : IntKind.i64.wrap ((k / 8 : Nat) : Int) = ((k / 8 : Nat) : Int) := by rw [IntKind.wrap_i64]; omega
   have d2 : ((k : Int)).tmod 8 = ((k % 8 : Nat) : Int) := by rw [Int.tmod_eq_emod_of_nonneg (by omega)]; omega
   have d2' : IntKind.i64.wrap ((k % 8 : Nat) : Int) = ((k % 8 : Nat) : Int) := by rw [IntKind.wrap_i64]; omega
   have d3 : IntKind.i64.wrap (8 * ((k % 8 : Nat) : Int)) = ((8 * (k % 8) : Nat) : Int) := by rw [IntKind.wrap_i64]; omega
   have d5 : IntKind.u64.wrap ((bs (n - 1 - k) : Nat) : Int) = ((bs (n - 1 - k) : Nat) : Int) := by rw [IntKind.wrap_u64]; omega
   have g1 : ((k / 8 : Nat) : Int) < 4 := by omega
   have g2 : ((8 * (k % 8) : Nat) : Int) < 64 := by omega
   have hp : 2 ^ (8 * (k % 8)) ≤ 2 ^ 56 := Nat.pow_le_pow_right (by decide) (by omega)
   have h60 : (2 : Nat) ^ 56 = 72057594037927936 := by decide
   have hm := Nat.mul_le_mul_right (2 ^ (8 * (k % 8))) (show bs (n - 1 - k) ≤ 255 by omega)
   have hwd : IntKind.u64.wrap ((bs (n - 1 - k) : Int) * 2 ^ (8 * (k % 8))) = ((bs (n - 1 - k) * 2 ^ (8 * (k % 8)) : Nat) : Int) := by
    have e : ((bs (n - 1 - k) : Int) * 2 ^ (8 * (k % 8))) = ((bs (n - 1 - k) * 2 ^ (8 * (k % 8)) : Nat) : Int) := by simp
    rw [e, M64.wrapN _ (by omega)]
   have hor2 : bits .or .u64 (limb (bv bs n k) (k / 8) : Int) ((bs (n - 1 - k) : Int) * 2 ^ (8 * (k % 8))) = ((limb (bv bs n k) (k / 8) + bs (n - 1 - k) * 2 ^ (8 * (k % 8)) : Nat) : Int) := by
    rw [← hor]
    congr 1
   have HOR := hideP hor2
   clear hor hor2
   generalize limb (bv bs n k) (k / 8) = lv at *
   generalize bs (n - 1 - k) = dg at *
   generalize n - 1 - k = ix at *
   generalize k / 8 = q at *
   generalize 8 * (k % 8) = sh at *
   generalize k % 8 = r at *
   clear hg hb hk hlt hN hV hL h3 h3' hp h60 hm hd hix hne
   go_wp2_with fail
   go_region
   go_wp2_with fail
   refine ⟨⟨k + 1, HKS.out, by go_num, ?_, HB.out.drew.set _ _⟩, by have := HKS.out; simp [intOf]; omega⟩
   rw [HOR.out]
   exact H3.out
  ·
   have hkn : k = n := by omega
   have hnl : ¬ (k : Int) < n := by omega
   rw [hkn] at hg
   have H3 := hideP hg
   have HB := hideP hb
   have HDx := hideP ((hb.same _ (show w.heap.size ≠ w.heap.size + 1 by omega)).trans HD.out)
   clear hg hb hk hlt hkn
   go_wp2_with fail
   refine HK4.out _ _ ?_
   refine ZiV (fun _ _ h => h) rfl rfl rfl (by decide) (by decide) (by show 38 < 39; decide) (by show 3 < 39; decide) rfl under rfl (info _) (one _) (Zah H3.out) (by have h1 := Zdd HDx.out; rw [Za5] at h1 ⊢; exact h1) ?_
   intro wS hBut
   exact ⟨rfl, HBW.out.trans ((HB.out.below.mono (by omega)).trans hBut.below)⟩
end Go.Proofs.YtcbdbnfgnonacaaGreat.W4
