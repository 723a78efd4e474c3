/-
 A point, so many times.
-/
import Derived.Test.YtcbdbnfgnonacaaGreatCurveBasesC33
set_option maxHeartbeats 4000000
set_option maxRecDepth 100000
namespace Go.Proofs.YtcbdbnfgnonacaaGreat.P6
open Go.RowKit Go.Shelf
def sz : Nat → Nat
 | 2 => 4
 | _ => 6
noncomputable def likeB (m : Nat) (x y : K) : Bool := Classical.choose (⟨_, rfl⟩ : ∃ c : Bool, c = decide (Like m x y))
theorem Zat (m : Nat) (x y : K) : likeB m x y = decide (Like m x y) := Classical.choose_spec (⟨_, rfl⟩ : ∃ c : Bool, c = decide (Like m x y))
structure Dt where
 m : Nat
 g : Nat
 p : Nat
 b : K
 bx : K
 bY : K
 kw : Nat
 v : Nat → K
 bo : Nat → Bool
 cv : Nat
noncomputable abbrev al (D : Dt) : Al sz where
 K := K
 v := D.v
 c := fun k => match k with
  | 0 => k0
  | 1 => k1
  | 2 => D.b
  | 3 => D.bx
  | _ => D.bY
 u := fun k x => match k with
  | 0 => kneg D.m x
  | 1 => kinv D.m x
  | _ => rest D.m x
 b := fun k x y => match k with
  | 0 => kadd D.m x y
  | 1 => ksub D.m x y
  | _ => kmul D.m x y
 cells := fun k x => match k with
  | 0 => ev D.m x
  | 2 => W4.cs (limb D.kw)
  | _ => nv x
 hs := fun k x => match k with
  | 0 => Zau D.m x
  | 1 => Zai x
  | 2 => rfl
  | _ + 3 => Zai x
 h1 := fun k x => match k with
  | 0 => Zbl D.m x
  | 1 => Zb1 x
  | 2 => W4.one _
  | _ + 3 => Zb1 x
 lk := fun k x y => match k with
  | 0 => likeB D.m x y
  | _ => decide (x = y)
 bo := D.bo
 xb := fun i => match i with
  | 0 => D.g
  | _ => D.cv
 ov := fun _ => ifv D.p
 ho := fun _ => ⟨rfl, rfl⟩
def ft (fl : Nat → Bool) : EX → Bool
 | .v i => fl i
 | .c 0 => true
 | .u 2 _ => true
 | _ => false
def bq : CX → CX → Option CX
 | x, .lit true => some x
 | x, .lit false => some (.no x)
 | .lit true, y => some y
 | .lit false, y => some (.no y)
 | _, _ => none
def eI (fl : Nat → Bool) (s : String) (xs : List SV) : Option SV := match xs with
 | [.one (.ov _), .row [.e 0 x], .row [.e 0 y]] => if s = "Add" then some (.row [.e 0 (.b 0 x y)]) else if s = "Sub" then some (.row [.e 0 (.b 1 x y)]) else if s = "Mul" then some (.row [.e 0 (.b 2 x y)]) else none
 | [.one (.ov _), .row [.e 0 x]] => if s = "Neg" then some (.row [.e 0 (.u 0 x)]) else if s = "Inv" then some (.row [.e 0 (.u 1 x)]) else if s = "Out" then some (.row [.e 1 (.u 2 x)]) else none
 | [.one (.ov _), .row [.e 1 x]] => if s = "In" ∧ ft fl x = true then some (.row [.e 0 x]) else none
 | _ => none
def eX0 (o t : Nat) : Option SV := if o = 0 ∧ t = 250 then some (.one (.ov 0)) else if o = 1 ∧ t = 28 then some (.row [.e 0 (.c 0)]) else if o = 1 + 6 ∧ t = 28 then some (.row [.e 0 (.c 1)]) else if o = 1 + 2 * 6 ∧ t = 28 then some (.row [.e 0 (.c 2)]) else none
def eX (XL : Nat → Nat → Nat → Option SV) (i o t : Nat) : Option SV := match XL i o t with
 | some y => some y
 | none => match i with
  | 0 => eX0 o t
  | _ => none
abbrev zE : Ch := .e 1 (.c 0)
abbrev fE : Ch := .s (.cx (.lit false))
abbrev zI : Ch := .s (.v (.int .u64 0))
def eZ (t : Nat) : Option (List Ch) := if t = 28 then some [zE] else if t = 272 then some [zE, zE] else if t = 274 then some [zE, zE, zE] else if t = 144 then some [zE, zE, fE] else if t = 53 then some [zE, zE, fE] else if t = 146 then some [zE, zE, zE, zE, fE, zI, zI, zI, zI] else if t = 253 then some [.s (.v .nilIface), zE, zE, zE, zE, zE, fE, zI, zI, zI, zI] else none
def eE (fl : Nat → Bool) (t : Nat) (l m : List Ch) : Option CX := match l, m with
 | [.e 0 x], [.e 0 y] => if t = 28 then some (.lk 0 x y) else none
 | [.e 1 x], [.e 1 y] => if t = 28 ∧ ft fl x = true ∧ ft fl y = true then some (.lk 1 x y) else none
 | [.e 0 x, .e 0 y], [.e 0 z, .e 0 u] => if t = 272 then some (.an (.lk 0 x z) (.lk 0 y u)) else none
 | [.e 1 x, .e 1 y, .s (.cx i)], [.e 1 z, .e 1 u, .s (.cx j)] => if t = 144 ∧ ft fl x = true ∧ ft fl y = true ∧ ft fl z = true ∧ ft fl u = true then (bq i j).map fun q => .an (.lk 1 x z) (.an (.lk 1 y u) q) else none
 | _, _ => none
structure FAt (w : World) (p m : Nat) : Prop where
 ok : FOK w p m
 plt : p < w.heap.size
theorem FAt.below {w w' : World} {p m : Nat} (h : FAt w p m) (hb : Below w.heap.size w w') : FAt w' p m := ⟨h.ok.of_same (hb.block _ h.plt), Nat.lt_of_lt_of_le h.plt hb.size⟩
def envF (fl : Nat → Bool) (G : List (CX × Bool)) (X : Nat → List SV → Option SV) (XL : Nat → Nat → Nat → Option SV) (T : Nat → List SV → Option SV) : Env := ⟨aheadT X T, eI fl, XL, eZ, eE fl, G, fun s _ => s == "Add" || (s == "Sub" || (s == "Mul" || (s == "Neg" || (s == "Inv" || (s == "In" || s == "Out")))))⟩
def env (fl : Nat → Bool) (G : List (CX × Bool)) (X : Nat → List SV → Option SV) (XL : Nat → Nat → Nat → Option SV) (T : Nat → List SV → Option SV) : Env := envF fl G X (eX XL) T
theorem Zb5 {w : World} {D : Dt} {fl : Nat → Bool} (HG : FOK w D.p D.m) (hv : ∀ i, fl i = true → Fits (D.v i)) {x : EX} (h : ft fl x = true) : Fits ((al D).d x) := by
 unfold ft at h
 split at h
 ·
  exact hv _ h
 ·
  exact Zbt
 ·
  exact ZbG HG _
 ·
  cases h
theorem Zg8 {A : Al sz} {x y q : CX} (h : bq x y = some q) : A.cx q = (A.cx x == A.cx y) := by
 unfold bq at h
 split at h
 ·
  cases h; simp [Al.cx]
 ·
  cases h; simp [Al.cx]
 ·
  cases h; simp [Al.cx]
 ·
  cases h; simp [Al.cx]
 ·
  cases h
section
variable {D : Dt} {β : Nat → Nat}
theorem rw_e (x : EX) : ((al D).rw β [.e 0 x]).toArray = ev D.m ((al D).d x) := by simp [Al.rw, Al.ch, al]
theorem rw_n (x : EX) : ((al D).rw β [.e 1 x]).toArray = nv ((al D).d x) := by simp [Al.rw, Al.ch, al]
theorem ZbL (x y : EX) : ((al D).rw β [.e 0 x, .e 0 y]).toArray = pl D.m ((al D).d x) ((al D).d y) := by
 rw [Zbu]
 apply Array.toList_inj.1
 simp [Al.rw, Al.ch, al]
theorem Zbz (x y z : EX) : ((al D).rw β [.e 0 x, .e 0 y, .e 0 z]).toArray = sc D.m ((al D).d x) ((al D).d y) ((al D).d z) := by
 rw [Zcb, Zbu]
 apply Array.toList_inj.1
 simp [Al.rw, Al.ch, al]
theorem ZaO (x y : EX) (i : CX) : ((al D).rw β [.e 1 x, .e 1 y, .s (.cx i)]).toArray = pt ((al D).d x) ((al D).d y) ((al D).cx i) := by
 rw [ZaR]
 apply Array.toList_inj.1
 simp [Al.rw, Al.ch, al, Al.sc]
theorem rw_w (x : EX) : ((al D).rw β [.e 2 x]).toArray = W4.cs (limb D.kw) := by simp [Al.rw, Al.ch]
theorem sv_e (x : EX) : (al D).sv β (.row [.e 0 x]) = .agg (ev D.m ((al D).d x)) := by rw [Al.sv, rw_e]
end
theorem x_ok {w : World} {D : Dt} (HG : GAt w D.g D.p D.m D.b) {q t : Nat} {y : SV} (β : Nat → Nat) {V : World} (hV : Below w.heap.size w V) (h : eX0 q t = some y) : (loadVar t ⟨D.g, q, none⟩).run Tryz.prog V = .ok ((al D).sv β y) V := by
 have H := HG.below hV
 unfold eX0 at h
 split at h
 ·
  rename_i hc
  obtain ⟨rfl, rfl⟩ := hc
  cases h
  exact ld1 (by kernel_rfl) H.fld
 ·
  split at h
  ·
   rename_i hc
   obtain ⟨rfl, rfl⟩ := hc
   cases h
   rw [sv_e]
   exact loadC V D.g _ _ _ _ H.zero underE rfl (infoE (Zau _ _))
  ·
   split at h
   ·
    rename_i hc
    obtain ⟨rfl, rfl⟩ := hc
    cases h
    rw [sv_e]
    exact loadC V D.g _ _ _ _ H.one underE rfl (infoE (Zau _ _))
   ·
    split at h
    ·
     rename_i hc
     obtain ⟨rfl, rfl⟩ := hc
     cases h
     rw [sv_e]
     exact loadC V D.g _ _ _ _ H.b underE rfl (infoE (Zau _ _))
    ·
     cases h
def XLOK {sz : Nat → Nat} (A : Al sz) (XL : Nat → Nat → Nat → Option SV) (w : World) : Prop := ∀ i q t y β V, XL i q t = some y → Below w.heap.size w V → (loadVar t ⟨A.xb i, q, none⟩).run Tryz.prog V = .ok (A.sv β y) V
theorem XLOK.mono {sz : Nat → Nat} {A : Al sz} {XL : Nat → Nat → Nat → Option SV} {w V : World} (h : XLOK A XL w) (hV : Below w.heap.size w V) : XLOK A XL V := fun i q t y β U e hU => h i q t y β U e (hV.trans (hU.mono hV.size))
theorem z_ok {D : Dt} {t : Nat} {l : List Ch} (β : Nat → Nat) (V : World) (h : eZ t = some l) : ∃ z, (zeroValue t).run Tryz.prog V = .ok z V ∧ z.cells = ((al D).rw β l).toArray := by
 have hz : ((al D).ch β zE) = zn.toList := by
  show (nv k0).toList = _
  rw [ZcN]
 unfold eZ at h
 split at h
 ·
  rename_i hc
  subst hc
  cases h
  refine ⟨.agg zn, by kernel_rfl, ?_⟩
  simp only [Al.rw, hz]
  rfl
 rename_i hc
 clear hc
 split at h
 ·
  rename_i hc
  subst hc
  cases h
  refine ⟨.agg (zn ++ zn), by kernel_rfl, ?_⟩
  simp only [Al.rw, hz]
  rfl
 rename_i hc
 clear hc
 split at h
 ·
  rename_i hc
  subst hc
  cases h
  refine ⟨.agg (zn ++ zn ++ zn), by kernel_rfl, ?_⟩
  simp only [Al.rw, hz]
  rfl
 rename_i hc
 clear hc
 split at h
 ·
  rename_i hc
  subst hc
  cases h
  refine ⟨.agg (zn ++ zn ++ #[.bool false]), by kernel_rfl, ?_⟩
  simp only [Al.rw, hz]
  rfl
 rename_i hc
 clear hc
 split at h
 ·
  rename_i hc
  subst hc
  cases h
  refine ⟨.agg (zn ++ zn ++ #[.bool false]), by kernel_rfl, ?_⟩
  simp only [Al.rw, hz]
  rfl
 rename_i hc
 clear hc
 split at h
 ·
  rename_i hc
  subst hc
  cases h
  refine ⟨.agg (zn ++ zn ++ zn ++ zn ++ #[.bool false] ++ Array.replicate 4 (.int .u64 0)), by kernel_rfl, ?_⟩
  simp only [Al.rw, hz]
  rfl
 rename_i hc
 clear hc
 split at h
 ·
  rename_i hc
  subst hc
  cases h
  refine ⟨.agg (#[.nilIface] ++ zn ++ zn ++ zn ++ zn ++ zn ++ #[.bool false] ++ Array.replicate 4 (.int .u64 0)), by kernel_rfl, ?_⟩
  simp only [Al.rw, hz]
  rfl
 rename_i hc
 clear hc
 cases h
theorem e_ok {w : World} {D : Dt} {fl : Nat → Bool} (HG : FOK w D.p D.m) (hv : ∀ i, fl i = true → Fits (D.v i)) {t : Nat} {l k : List Ch} {c : CX} (β : Nat → Nat) (V : World) (h : eE fl t l k = some c) : Tryz.prog.eqGuardType Tryz.prog.depth t = false ∧ (Op.equalIn 10000 t (.agg ((al D).rw β l).toArray) (.agg ((al D).rw β k).toArray)).run Tryz.prog V = .ok ((al D).cx c) V := by
 have hF := HG
 unfold eE at h
 split at h
 ·
  split at h
  ·
   rename_i hc
   subst hc
   cases h
   rw [rw_e, rw_e]
   exact ⟨gqE, (eqE 9998 hF _ _ V).trans (by rw [← Zat]; rfl)⟩
  ·
   cases h
 ·
  split at h
  ·
   rename_i hc
   obtain ⟨rfl, h1, h2⟩ := hc
   cases h
   rw [rw_n, rw_n]
   exact ⟨gqE, eqN 9998 (Zb5 HG hv h1) (Zb5 HG hv h2) V⟩
  ·
   cases h
 ·
  split at h
  ·
   rename_i hc
   subst hc
   cases h
   rw [ZbL, ZbL]
   exact ⟨gqPl, (eqPl hF _ _ _ _ V).trans (by rw [← Zat, ← Zat]; rfl)⟩
  ·
   cases h
 ·
  split at h
  ·
   rename_i hc
   obtain ⟨rfl, h1, h2, h3, h4⟩ := hc
   obtain ⟨q, hq, rfl⟩ := Option.map_eq_some_iff.1 h
   rw [ZaO, ZaO]
   refine ⟨gqPt, (eqPt (Zb5 HG hv h1) (Zb5 HG hv h2) (Zb5 HG hv h3) (Zb5 HG hv h4) _ _ V).trans ?_⟩
   simp only [Al.cx, Zg8 hq]
  ·
   cases h
 ·
  cases h
theorem Zcd {w : World} {D : Dt} {fl : Nat → Bool} {G : List (CX × Bool)} {X T : Nat → List SV → Option SV} {XL : Nat → Nat → Nat → Option SV} (HG : FAt w D.p D.m) (hv : ∀ i, fl i = true → Fits (D.v i)) (hG : ∀ x ∈ G, (al D).cx x.1 = x.2) (hX : TOK Tryz.prog (al D) X w) (hL : XLOK (al D) XL w) (hT : TOK Tryz.prog (al D) T w) : EnvOK Tryz.prog (al D) (envF fl G X XL T) w where
 G := hG
 F := fun s i h => by
  refine ⟨_, _, rfl, fun V => ?_⟩
  simp only [envF, Bool.or_eq_true, beq_iff_eq] at h
  rcases h with rfl | rfl | rfl | rfl | rfl | rfl | rfl
  ·
   exact Ze0 D.p V
  ·
   exact Ze1 D.p V
  ·
   exact Ze2 D.p V
  ·
   exact Ze3 D.p V
  ·
   exact Ze4 D.p V
  ·
   exact Zg7 D.p V
  ·
   exact Ze5 D.p V
 T := ZdH hX hT
 I := fun s xs y β V h hV => by
  have hF := (HG.below hV).ok
  have h : eI fl s xs = some y := h
  unfold eI at h
  split at h
  ·
   split at h
   ·
    cases h; rename_i hs; subst hs; exact ⟨_, _, Zev D.p _ _ V, by simpa [Al.sv, Al.rw, Al.ch, al, Al.d] using Zf4 hF _ _⟩
   ·
    split at h
    ·
     cases h; rename_i hs; subst hs; exact ⟨_, _, Zew D.p _ _ V, by simpa [Al.sv, Al.rw, Al.ch, al, Al.d] using Zf5 hF _ _⟩
    ·
     split at h
     ·
      cases h; rename_i hs; subst hs; exact ⟨_, _, Zex D.p _ _ V, by simpa [Al.sv, Al.rw, Al.ch, al, Al.d] using Zf6 hF _ _⟩
     ·
      cases h
  ·
   split at h
   ·
    cases h; rename_i hs; subst hs; exact ⟨_, _, Zey D.p _ V, by simpa [Al.sv, Al.rw, Al.ch, al, Al.d] using Zf7 hF _⟩
   ·
    split at h
    ·
     cases h; rename_i hs; subst hs; exact ⟨_, _, Zez D.p _ V, by simpa [Al.sv, Al.rw, Al.ch, al, Al.d] using Zf8 hF _⟩
    ·
     split at h
     ·
      cases h; rename_i hs; subst hs; exact ⟨_, _, Ze6 D.p _ V, by simpa [Al.sv, Al.rw, Al.ch, al, Al.d] using Zf9 hF _⟩
     ·
      cases h
  ·
   split at h
   ·
    cases h; rename_i hs; obtain ⟨rfl, hx⟩ := hs; exact ⟨_, _, Zg6 D.p _ V, by simpa [Al.sv, Al.rw, Al.ch, al, Al.d] using c_In hF _ (Zb5 HG.ok hv hx)⟩
   ·
    cases h
  ·
   cases h
 X := hL
 Z := fun t l β V h => z_ok β V h
 E := fun t l k c β V h => e_ok HG.ok hv β V h
theorem Zg9 {w : World} {D : Dt} {XL : Nat → Nat → Nat → Option SV} (HG : GAt w D.g D.p D.m D.b) (hL : XLOK (al D) XL w) : XLOK (al D) (eX XL) w := fun i q t y β V h hV => by
 unfold eX at h
 split at h
 ·
  rename_i z hz
  cases h
  exact hL i q t y β V hz hV
 ·
  split at h
  ·
   exact x_ok HG β hV h
  ·
   cases h
noncomputable def ens : List (TEn Tryz.prog) := [⟨240, Tryz.f240, Tryz.func240, enters_of Tryz.func240 (by kernel_rfl) rfl⟩,
 ⟨193, Tryz.f193, Tryz.func193, enters_of Tryz.func193 (by kernel_rfl) rfl⟩,
 ⟨198, Tryz.f198, Tryz.func198, enters_of Tryz.func198 (by kernel_rfl) rfl⟩,
 ⟨233, Tryz.f233, Tryz.func233, enters_of Tryz.func233 (by kernel_rfl) rfl⟩,
 ⟨192, Tryz.f192, Tryz.func192, enters_of Tryz.func192 (by kernel_rfl) rfl⟩,
 ⟨234, Tryz.f234, Tryz.func234, enters_of Tryz.func234 (by kernel_rfl) rfl⟩,
 ⟨195, Tryz.f195, Tryz.func195, enters_of Tryz.func195 (by kernel_rfl) rfl⟩,
 ⟨197, Tryz.f197, Tryz.func197, enters_of Tryz.func197 (by kernel_rfl) rfl⟩,
 ⟨196, Tryz.f196, Tryz.func196, enters_of Tryz.func196 (by kernel_rfl) rfl⟩,
 ⟨127, Tryz.f127, Tryz.func127, enters_of Tryz.func127 (by kernel_rfl) rfl⟩,
 ⟨97, Tryz.f97, Tryz.func97, enters_of Tryz.func97 (by kernel_rfl) rfl⟩,
 ⟨106, Tryz.f106, Tryz.func106, enters_of Tryz.func106 (by kernel_rfl) rfl⟩,
 ⟨128, Tryz.f128, Tryz.func128, enters_of Tryz.func128 (by kernel_rfl) rfl⟩,
 ⟨129, Tryz.f129, Tryz.func129, enters_of Tryz.func129 (by kernel_rfl) rfl⟩,
 ⟨107, Tryz.f107, Tryz.func107, enters_of Tryz.func107 (by kernel_rfl) rfl⟩,
 ⟨95, Tryz.f95, Tryz.func95, enters_of Tryz.func95 (by kernel_rfl) rfl⟩,
 ⟨96, Tryz.f96, Tryz.func96, enters_of Tryz.func96 (by kernel_rfl) rfl⟩,
 ⟨139, Tryz.f139, Tryz.func139, enters_of Tryz.func139 (by kernel_rfl) rfl⟩,
 ⟨194, Tryz.f194, Tryz.func194, enters_of Tryz.func194 (by kernel_rfl) rfl⟩]
noncomputable def tab : Nat → Option Func := tabL ens
theorem Ze8 : TabOK Tryz.prog tab := Zei ens
theorem mixed : Tryz.prog.follows .mixedOrders = true := by kernel_rfl
noncomputable abbrev runG (fl : Nat → Bool) (G : List (CX × Bool)) (X : Nat → List SV → Option SV) (XL : Nat → Nat → Nat → Option SV) (fn : Func) (args : List SV) : Option SV := runS Tryz.prog sz (env fl G X XL (Tk Tryz.prog sz (env fl G X XL) tab 6)) fn 100 args
theorem Ze9 {w : World} {D : Dt} {fl : Nat → Bool} {G : List (CX × Bool)} {X : Nat → List SV → Option SV} {XL : Nat → Nat → Nat → Option SV} (HG : FAt w D.p D.m) (hv : ∀ i, fl i = true → Fits (D.v i)) (hG : ∀ x ∈ G, (al D).cx x.1 = x.2) (hX : TOK Tryz.prog (al D) X w) (hL : XLOK (al D) XL w) : EnvOK Tryz.prog (al D) (envF fl G X XL (Tk Tryz.prog sz (envF fl G X XL) tab 6)) w :=
 Zcd HG hv hG hX hL (Ziv (A := al D) mixed Ze8 (fun _ _ hV hT => Zcd (HG.below hV) hv hG (hX.mono hV) (hL.mono hV) hT) 6 w (Below.refl _ _))
theorem ZbH {w : World} (D : Dt) (fl : Nat → Bool) (G : List (CX × Bool)) {X : Nat → List SV → Option SV} {XL : Nat → Nat → Nat → Option SV} (HG : GAt w D.g D.p D.m D.b) (hv : ∀ i, fl i = true → Fits (D.v i)) (hG : ∀ x ∈ G, (al D).cx x.1 = x.2) (hX : TOK Tryz.prog (al D) X w) (hL : XLOK (al D) XL w) {f : Nat} {fn : Func} (hf : Tryz.prog.funcs[f]? = some fn) {args : List SV} {y : SV} (h : runG fl G X XL fn args = some y) (β : Nat → Nat) :
  Calls Tryz.prog f (args.map ((al D).sv β)).toArray w fun e w' => e = .returned ((al D).sv β y) ∧ Below w.heap.size w w' :=
 Zeh mixed (Ze9 ⟨HG.ok, HG.plt⟩ hv hG hX (Zg9 HG hL)) hf h
theorem noL {A : Al sz} (w : World) : XLOK A (fun _ _ _ => none) w := fun _ _ _ _ _ _ h => by cases h
abbrev T3 := K × K × K
noncomputable def scS (m : Nat) (s : T3) : Array Value := sc m s.1 s.2.1 s.2.2
def red (m : Nat) (s : T3) : T3 := (rest m s.1, rest m s.2.1, rest m s.2.2)
theorem Zbj (m : Nat) (s : T3) : scS m (red m s) = scS m s := by
 unfold scS red
 rw [Zcb, Zcb, Zbu, Zbu, Zbh, Zbh, Zbh]
def dblS (m : Nat) (s : T3) : T3 :=
 let x := s.1
 let y := s.2.1
 let z := s.2.2
 let sq := kmul m y y
 let t1 := kmul m x sq
 let t2 := kadd m t1 t1
 let mid := kadd m t2 t2
 let sl0 := kmul m x x
 let sl := kadd m sl0 (kadd m sl0 sl0)
 let X := ksub m (kmul m sl sl) (kadd m mid mid)
 let q1 := kmul m sq sq
 let q2 := kadd m q1 q1
 let q3 := kadd m q2 q2
 let Y := ksub m (kmul m sl (ksub m mid X)) (kadd m q3 q3)
 (X, Y, kadd m (kmul m y z) (kmul m y z))
def addS (m : Nat) (s : T3) (q : K × K) : T3 :=
 let x := s.1
 let y := s.2.1
 let z := s.2.2
 let sq := kmul m z z
 let X := kmul m q.1 sq
 let Y := kmul m q.2 (kmul m sq z)
 let across := ksub m X x
 let up := ksub m Y y
 let sq2 := kmul m across across
 let cube := kmul m sq2 across
 let mid := kmul m x sq2
 let X3 := ksub m (ksub m (kmul m up up) cube) (kadd m mid mid)
 let Y3 := ksub m (kmul m up (ksub m mid X3)) (kmul m y cube)
 (X3, Y3, kmul m z across)
def plusS (m : Nat) (s : T3) (q : K × K) : T3 :=
 if Like m s.2.2 k0 then (q.1, q.2, k1)
 else if Like m (kmul m q.1 (kmul m s.2.2 s.2.2)) s.1 ∧ Like m (kmul m q.2 (kmul m (kmul m s.2.2 s.2.2) s.2.2)) s.2.1 then dblS m s
 else addS m s q
def nofit : Nat → Bool := fun _ => false
def fit2 : Nat → Bool
 | 0 => true
 | 1 => true
 | _ => false
def noX : Nat → Nat → Nat → Option SV := fun _ _ _ => none
abbrev gp0 : SV := .one (.xp 0 0)
abbrev ptE (x y : EX) (i : CX) : SV := .row [.e 1 x, .e 1 y, .s (.cx i)]
abbrev plE (x y : EX) : SV := .row [.e 0 x, .e 0 y]
abbrev v5 (x y z u t : K) : Nat → K
 | 0 => x
 | 1 => y
 | 2 => z
 | 3 => u
 | _ => t
theorem fits2 {x y z u t : K} (hx : Fits x) (hy : Fits y) : ∀ i, fit2 i = true → Fits (v5 x y z u t i)
 | 0, _ => hx
 | 1, _ => hy
 | _ + 2, h => by cases h
abbrev dt (m g p : Nat) (b : K) (v : Nat → K) (i : Bool) : Dt := ⟨m, g, p, b, b, b, 0, v, fun _ => i, 0⟩
section
variable {w : World} {g p m : Nat} {b : K} (HG : GAt w g p m b) (x y z : K)
include HG
theorem Zbm (v : Nat → K) (G : List (CX × Bool)) (hG : ∀ x ∈ G, (al (dt m g p b v false)).cx x.1 = x.2) {f : Nat} {fn : Func} (hf : Tryz.prog.funcs[f]? = some fn) {args : List SV} {y : SV} (h : runG nofit G noT noX fn args = some y) :
  Calls Tryz.prog f (args.map ((al (dt m g p b v false)).sv fun _ => 0)).toArray w fun e w' => e = .returned ((al (dt m g p b v false)).sv (fun _ => 0) y) ∧ Below w.heap.size w w' := ZbH (dt m g p b v false) nofit G HG (fun _ h => by cases h) hG (ZbS w) (noL w) hf h _
theorem ZcO (v : Nat → K) (i : Bool) (hv : ∀ i, fit2 i = true → Fits (v i)) (G : List (CX × Bool)) (hG : ∀ x ∈ G, (al (dt m g p b v i)).cx x.1 = x.2) {f : Nat} {fn : Func} (hf : Tryz.prog.funcs[f]? = some fn) {args : List SV} {y : SV} (h : runG fit2 G noT noX fn args = some y) :
  Calls Tryz.prog f (args.map ((al (dt m g p b v i)).sv fun _ => 0)).toArray w fun e w' => e = .returned ((al (dt m g p b v i)).sv (fun _ => 0) y) ∧ Below w.heap.size w w' := ZbH (dt m g p b v i) fit2 G HG hv hG (ZbS w) (noL w) hf h _
set_option maxRecDepth 100000
theorem ZaV : Calls Tryz.prog 234 #[.pointer (some ⟨g, 0, none⟩), .agg (sc m x y z)] w fun e w' => e = .returned (.agg (scS m (dblS m (x, y, z)))) ∧ Below w.heap.size w w' := by
 have := Zbm HG (v5 x y z x x) [] (fun _ h => by cases h) Tryz.func234 (args := [gp0, scE (.v 0, .v 1, .v 2)]) (y := scE (dblE (.v 0) (.v 1) (.v 2))) (by kernel_rfl)
 simp only [scE, Al.sv, List.map_cons, List.map_nil, Zbz] at this
 exact this
theorem ZbC (a c : K) : Calls Tryz.prog 196 #[.pointer (some ⟨g, 0, none⟩), .agg (sc m x y z), .agg (pl m a c)] w fun e w' => e = .returned (.agg (scS m (plusS m (x, y, z) (a, c)))) ∧ Below w.heap.size w w' := by
 unfold plusS
 by_cases hz : Like m z k0
 ·
  rw [if_pos hz]
  have := Zbm HG (v5 x y z a c) [(.lk 0 (.v 2) (.c 0), true)] (fun q h => by simp only [List.mem_singleton] at h; subst h; exact (Zat _ _ _).trans (decide_eq_true hz)) Tryz.func196 (args := [gp0, scE (.v 0, .v 1, .v 2), plE (.v 3) (.v 4)]) (y := scE (.v 3, .v 4, .c 1)) (by kernel_rfl)
  simp only [scE, Al.sv, List.map_cons, List.map_nil, Zbz, ZbL] at this
  exact this
 ·
  rw [if_neg hz]
  by_cases hq : Like m (kmul m a (kmul m z z)) x ∧ Like m (kmul m c (kmul m (kmul m z z) z)) y
  ·
   rw [if_pos hq]
   have := Zbm HG (v5 x y z a c) [(.lk 0 (.v 2) (.c 0), false), (.lk 0 (.mu (.v 3) (.mu (.v 2) (.v 2))) (.v 0), true), (.lk 0 (.mu (.v 4) (.mu (.mu (.v 2) (.v 2)) (.v 2))) (.v 1), true)] (fun q h => by
    simp only [List.mem_cons, List.not_mem_nil, or_false] at h
    rcases h with rfl | rfl | rfl
    ·
     exact (Zat _ _ _).trans (decide_eq_false hz)
    ·
     exact (Zat _ _ _).trans (decide_eq_true hq.1)
    ·
     exact (Zat _ _ _).trans (decide_eq_true hq.2)) Tryz.func196 (args := [gp0, scE (.v 0, .v 1, .v 2), plE (.v 3) (.v 4)]) (y := scE (dblE (.v 0) (.v 1) (.v 2))) (by kernel_rfl)
   simp only [scE, Al.sv, List.map_cons, List.map_nil, Zbz, ZbL] at this
   exact this
  ·
   rw [if_neg hq]
   have := Zbm HG (v5 x y z a c) [(.lk 0 (.v 2) (.c 0), false), (.an (.lk 0 (.mu (.v 3) (.mu (.v 2) (.v 2))) (.v 0)) (.lk 0 (.mu (.v 4) (.mu (.mu (.v 2) (.v 2)) (.v 2))) (.v 1)), false)] (fun q h => by
    simp only [List.mem_cons, List.not_mem_nil, or_false] at h
    rcases h with rfl | rfl
    ·
     exact (Zat _ _ _).trans (decide_eq_false hz)
    ·
     show (likeB m _ _ && likeB m _ _) = false
     rw [Zat, Zat, ← Bool.decide_and]
     exact decide_eq_false hq) Tryz.func196 (args := [gp0, scE (.v 0, .v 1, .v 2), plE (.v 3) (.v 4)]) (y := scE (addE (.v 0) (.v 1) (.v 2) (.v 3) (.v 4))) (by kernel_rfl)
   simp only [scE, Al.sv, List.map_cons, List.map_nil, Zbz, ZbL] at this
   exact this
theorem ZeA (i : Bool) (hx : Fits x) (hy : Fits y) : Calls Tryz.prog 198 #[.pointer (some ⟨g, 0, none⟩), .agg (pt x y i)] w fun e w' => e = .returned (.agg (pl m x y)) ∧ Below w.heap.size w w' := by
 have := ZcO HG (v5 x y x x x) i (fits2 hx hy) [] (fun _ h => by cases h) Tryz.func198 (args := [gp0, ptE (.v 0) (.v 1) (.at_ 0)]) (y := plE (.v 0) (.v 1)) (by kernel_rfl)
 simp only [Al.sv, List.map_cons, List.map_nil, ZbL, ZaO] at this
 exact this
theorem Zb6 : Calls Tryz.prog 233 #[.pointer (some ⟨g, 0, none⟩)] w fun e w' => e = .returned (.agg (sc m k1 k1 k0)) ∧ Below w.heap.size w w' := by
 have := Zbm HG (v5 b b b b b) [] (fun _ h => by cases h) Tryz.func233 (args := [gp0]) (y := scE (.c 1, .c 1, .c 0)) (by kernel_rfl)
 simp only [scE, Al.sv, List.map_cons, List.map_nil, Zbz] at this
 exact this
def goodN (m : Nat) (b x y : K) (i : Bool) : Int :=
 if i = true then (if (decide (x = k0) && (decide (y = k0) && (true == true))) = true then 0 else 70)
 else if rest m x = x then (if rest m y = y then (if Like m (kmul m y y) (kadd m (kmul m (kmul m x x) x) b) then 0 else 71) else 70) else 70
theorem Zbe (hx : Fits x) (hy : Fits y) (i : Bool) (G : List (CX × Bool)) (k : Int) (hG : ∀ q ∈ G, (al (dt m g p b (v5 x y x x x) i)).cx q.1 = q.2) (h : runG fit2 G noT noX Tryz.f127 [gp0, ptE (.v 0) (.v 1) (.lit i)] = some (.one (.v (.int .i64 k)))) :
  Calls Tryz.prog 127 #[.pointer (some ⟨g, 0, none⟩), .agg (pt x y i)] w fun e w' => e = .returned (.int .i64 k) ∧ Below w.heap.size w w' := by
 have := ZcO HG (v5 x y x x x) i (fits2 hx hy) G hG Tryz.func127 h
 simp only [Al.sv, List.map_cons, List.map_nil, ZaO] at this
 exact this
theorem Zc6 (hx : Fits x) (hy : Fits y) (i : Bool) : Calls Tryz.prog 127 #[.pointer (some ⟨g, 0, none⟩), .agg (pt x y i)] w fun e w' => e = .returned (.int .i64 (goodN m b x y i)) ∧ Below w.heap.size w w' := by
 unfold goodN
 cases i with
 | true =>
  rw [if_pos rfl]
  by_cases h : (decide (x = k0) && (decide (y = k0) && (true == true))) = true
  ·
   rw [if_pos h]
   have h' : x = k0 ∧ y = k0 := by simpa using h
   exact Zbe HG x y hx hy true [(.lk 1 (.v 0) (.c 0), true), (.lk 1 (.v 1) (.c 0), true)] 0 (fun q hq => by
    simp only [List.mem_cons, List.not_mem_nil, or_false] at hq
    rcases hq with rfl | rfl
    ·
     exact decide_eq_true h'.1
    ·
     exact decide_eq_true h'.2) (by kernel_rfl)
  ·
   rw [if_neg h]
   have h' : ¬ (x = k0 ∧ y = k0) := by simpa using h
   exact Zbe HG x y hx hy true [(.an (.lk 1 (.v 0) (.c 0)) (.lk 1 (.v 1) (.c 0)), false)] 70 (fun q hq => by
    simp only [List.mem_singleton] at hq
    subst hq
    show (decide (x = k0) && decide (y = k0)) = false
    rw [← Bool.decide_and]
    exact decide_eq_false h') (by kernel_rfl)
 | false =>
  rw [if_neg (by decide)]
  by_cases h1 : rest m x = x
  ·
   rw [if_pos h1]
   by_cases h2 : rest m y = y
   ·
    rw [if_pos h2]
    by_cases h3 : Like m (kmul m y y) (kadd m (kmul m (kmul m x x) x) b)
    ·
     rw [if_pos h3]
     exact Zbe HG x y hx hy false [(.lk 1 (.u 2 (.v 0)) (.v 0), true), (.lk 1 (.u 2 (.v 1)) (.v 1), true), (.lk 0 (.mu (.v 1) (.v 1)) (.ad (.mu (.mu (.v 0) (.v 0)) (.v 0)) (.c 2)), true)] 0 (fun q hq => by
      simp only [List.mem_cons, List.not_mem_nil, or_false] at hq
      rcases hq with rfl | rfl | rfl
      ·
       exact decide_eq_true h1
      ·
       exact decide_eq_true h2
      ·
       exact (Zat _ _ _).trans (decide_eq_true h3)) (by kernel_rfl)
    ·
     rw [if_neg h3]
     exact Zbe HG x y hx hy false [(.lk 1 (.u 2 (.v 0)) (.v 0), true), (.lk 1 (.u 2 (.v 1)) (.v 1), true), (.lk 0 (.mu (.v 1) (.v 1)) (.ad (.mu (.mu (.v 0) (.v 0)) (.v 0)) (.c 2)), false)] 71 (fun q hq => by
      simp only [List.mem_cons, List.not_mem_nil, or_false] at hq
      rcases hq with rfl | rfl | rfl
      ·
       exact decide_eq_true h1
      ·
       exact decide_eq_true h2
      ·
       exact (Zat _ _ _).trans (decide_eq_false h3)) (by kernel_rfl)
   ·
    rw [if_neg h2]
    exact Zbe HG x y hx hy false [(.lk 1 (.u 2 (.v 0)) (.v 0), true), (.lk 1 (.u 2 (.v 1)) (.v 1), false)] 70 (fun q hq => by
     simp only [List.mem_cons, List.not_mem_nil, or_false] at hq
     rcases hq with rfl | rfl
     ·
      exact decide_eq_true h1
     ·
      exact decide_eq_false h2) (by kernel_rfl)
  ·
   rw [if_neg h1]
   exact Zbe HG x y hx hy false [(.lk 1 (.u 2 (.v 0)) (.v 0), false)] 70 (fun q hq => by
    simp only [List.mem_singleton] at hq
    subst hq
    exact decide_eq_false h1) (by kernel_rfl)
end
theorem Zc7 {w : World} {g p m : Nat} {b : K} (hG : GAt w g p m b) (s : T3) : Calls Tryz.prog 234 #[.pointer (some ⟨g, 0, none⟩), .agg (scS m s)] w fun e w' => e = .returned (.agg (scS m (dblS m s))) ∧ Below w.heap.size w w' :=
 ZaV hG s.1 s.2.1 s.2.2
theorem ZeB {w : World} {g p m : Nat} {b : K} (hG : GAt w g p m b) (s : T3) (q : K × K) : Calls Tryz.prog 196 #[.pointer (some ⟨g, 0, none⟩), .agg (scS m s), .agg (pl m q.1 q.2)] w fun e w' => e = .returned (.agg (scS m (plusS m s q))) ∧ Below w.heap.size w w' :=
 ZbC hG s.1 s.2.1 s.2.2 q.1 q.2
def stepS (m : Nat) (q : K × K) (bit : Bool) (s : T3) : T3 := red m (if bit = true then plusS m (red m (dblS m s)) q else dblS m s)
def timesJ (m : Nat) (q : K × K) (k : Nat) : Nat → T3
 | 0 => (k1, k1, k0)
 | j + 1 => stepS m q (bitq k j) (timesJ m q k j)
def timesS (m : Nat) (q : K × K) (k : Nat) : T3 := timesJ m q k (bl k)
attribute [local go_sem] Oper.semAt_some
theorem Zan (m : Nat) (s : T3) : (scS m s).size = 3 * 6 := ZaX _ _ _ _
theorem Zb7 (m : Nat) (s : T3) : (scS m s).all (·.oneCell') = true := ZcM _ _ _ _
theorem ZaB {B l : Nat} {W V : World} {o : Obj} (h : Below B W V) (hl : B ≤ l) : Below B W (V.putObj l o) :=
 ⟨h.os, h.tape, h.output, by rw [show (V.putObj l o).heap.size = V.heap.size by simp [World.putObj]]; exact h.size, fun k hk => (World.putObj_heap_other (by omega)).trans (h.block k hk)⟩
theorem KQ.putObj {W V : World} {R0 n ty l : Nat} {o : Obj} (h : KQ W R0 n ty V) (hl : W.heap.size ≤ l) (hR : R0 < l) : KQ W R0 n ty (V.putObj l o) := by
 obtain ⟨g, hg, hn⟩ := h.res
 exact ⟨fun b h1 h2 => (World.putObj_heap_other (by omega)).trans (h.same b h1 h2), ZaB h.below (by omega), g, (World.putObj_heap_other (by omega)).trans hg, hn⟩
theorem Zce : Tryz.prog.underlying 65 = some (.array 4 27) := by kernel_rfl
theorem infoWd {C : Array Value} (h : C.size = 4) : (Tryz.prog.info? 65).map (·.size) = some C.size := by rw [h]; kernel_rfl
theorem Zc8 {P : Program} {op : Oper} {l : List Value} {ds : List Deferred} {w w' : World} {K : Act → World → Prop} {Q : Exit → Act → World → Prop} (args : Array Operand) (tys : Array TypeId) (d : Nat) {f : Nat} (ho : op.op = .call { callee := .value (.func f), args := args, argTypes := tys }) (hd : op.dst = some d) {av : Array Value}
  (hx : args.map (Act.eval { tmps := l.toArray, defers := ds }) = av) (hm : ∀ av w, (callFunc f av).run P w = .ok (.enter f av) w) {v : Value} (hc : Calls P f av w fun e w'' => e = .returned v ∧ w'' = w')
  (h : K { tmps := (l.set d v).toArray, defers := ds } w') : op.wp P { tmps := l.toArray, defers := ds } w K Q := by
 unfold Oper.wp execOp
 have he : (do let d ← resolve (Act.eval { tmps := l.toArray, defers := ds }) { callee := .value (.func f), args := args, argTypes := tys } op.type; invoke d.target d.args).run P w = .ok (.enter f av) w := by
  have hf : Act.eval { tmps := l.toArray, defers := ds } (.func f) = .func (.func f) #[] #[] := rfl
  simp only [resolve, invoke, Deferred.ofValue, hf, Sem.run_bind, Sem.run_pure, Result.andThen, hx]
  simp [hm]
 simp only [ho]
 rw [he]
 refine hc.mono ?_
 rintro e w'' ⟨rfl, rfl⟩
 show K _ _
 rw [hd, Zab]
 exact h
theorem Zcf {w : World} {g p m : Nat} {b : K} (hG : GAt w g p m b) (x y : K) (k : Nat) :
  Calls Tryz.prog 171 #[.pointer (some ⟨g, 0, none⟩), .agg (pt x y true), .agg (W4.cs (limb k))] w fun e w' => e = .returned (.agg (sc m k1 k1 k0)) ∧ Below w.heap.size w w' := by
 have := ZbH ⟨m, g, p, b, b, b, k, v5 x y x x x, fun _ => false, 0⟩ nofit [] hG (fun _ h => by cases h) (fun _ h => by cases h) (ZbS w) (noL w) Tryz.func171 (args := [gp0, ptE (.v 0) (.v 1) (.lit true), .row [.e 2 (.c 0)]]) (y := scE (.c 1, .c 1, .c 0)) (by kernel_rfl) (fun _ => 0)
 simp only [scE, Al.sv, List.map_cons, List.map_nil, Zbz, ZaO, rw_w] at this
 exact this
theorem Zcg {w : World} {g p m : Nat} {b : K} (hG : GAt w g p m b) (x y : K) (hx : Fits x) (hy : Fits y) (k : Nat) (hk : k < 2 ^ 256) :
  Calls Tryz.prog 171 #[.pointer (some ⟨g, 0, none⟩), .agg (pt x y false), .agg (W4.cs (limb k))] w fun e w' => e = .returned (.agg (scS m (timesS m (x, y) k))) ∧ Below w.heap.size w w' := by
 have hg := hG.glt
 have hp := hG.plt
 have HG9 := hideP hG
 have HK := hideP hk
 clear hG hk
 refine (callsIn_wide (n := 6)).1 ?_
 refine callsIn_of_wp_marks Tryz.func171 rfl trivial ?_ rfl
 simp only [Tryz.ntmps171, List.size_toArray, List.length_cons, List.length_nil, Nat.reduceAdd, Nat.reduceSub, Array.replicate_succ, Array.replicate_zero, List.push_toArray, List.append_toArray, List.nil_append, List.cons_append]
 refine wpIn_wide.2 ?_
 refine Zad (fun K0 HK0 => ?_)
 go_wp2_with fail
 refine HK0.out _ _ ?_
 clear HK0 K0
 refine Zam (fun W0 hW0 => ?_)
 have hb0 : W0.heap[w.heap.size]? = some (.cells #[.pointer (some ⟨g, 0, none⟩)] 141 (0, 0)) := by
  rw [hW0]
  exact ((Zag _ _ (by simp <;> omega)).trans ((Zag _ _ (by simp <;> omega)).trans ((Zag _ _ (by simp <;> omega)).trans (Zaf _ _))))
 have hb1 : W0.heap[w.heap.size + 1]? = some (.cells (pt x y false) 144 (0, 0)) := by
  rw [hW0]
  exact ((Zag _ _ (by simp <;> omega)).trans ((Zag _ _ (by simp <;> omega)).trans (Zav _ _ _)))
 have hb2 : W0.heap[w.heap.size + 1 + 1]? = some (.cells (W4.cs (limb k)) 65 (0, 0)) := by
  rw [hW0]
  exact ((Zag _ _ (by simp <;> omega)).trans (ZaF _ _ _ _))
 have hbr : ∃ C : Array Value, W0.heap[w.heap.size + 1 + 1 + 1]? = some (.cells C 274 (0, 0)) ∧ C.size = 3 * 6 := by
  rw [hW0]
  exact ⟨_, ZbM _ _ _ _ _, rfl⟩
 have hbw : Below w.heap.size w W0 := by
  rw [hW0]
  repeat first | exact Below.refl _ _ | (refine Below.alloc ?_ (by simp <;> omega) _)
 clear hW0
 have HG := hideP (HG9.out.below hbw)
 clear HG9
 have HBW := hideP hbw
 clear hbw
 generalize hN : w.heap.size = N at *
 clear hN
 generalize hB1 : N + 1 = B1 at *
 generalize hB2 : B1 + 1 = B2 at *
 generalize hB3 : B2 + 1 = B3 at *
 have o1 : N < B1 := by omega
 have o2 : B1 < B2 := by omega
 have o3 : B2 < B3 := by omega
 clear hB3 hB2 hB1
 have H0 := hideP hb0
 have H1 := hideP hb1
 have H2 := hideP hb2
 clear hb0 hb1 hb2
 obtain ⟨Cr, hbr, s_R⟩ := hbr
 have l3 := Zaa hbr
 have Hr := hideP hbr
 clear hbr
 refine Zad (fun K1 HK1 => ?_)
 refine wp_region_list ?_
 refine Zac rfl (fun K hK => ?_)
 have hf := Zae H0.out (o := 0) rfl
 go_simp
 refine hK _ _ ?_
 clear hK K hf
 refine Zac rfl (fun K hK => ?_)
 refine ZaT (av := #[.pointer (some ⟨g, 0, none⟩)]) _ _ 11 rfl rfl (by simp only [List.map_toArray, List.map_cons, List.map_nil]; rfl) (en Tryz.func233) (Zb6 HG.out) ?_
 intro x1 hbc
 refine hK _ _ ?_
 clear hK K
 simp only [Zs, Zz]
 refine Zac rfl (fun K hK => ?_)
 go_simp
 refine hK _ _ ?_
 clear hK K
 refine ZaN (fun x2 hx2 => ?_)
 have hb7 : ∃ C : Array Value, x2.heap[x1.heap.size]? = some (.cells C 274 (0, 0)) ∧ C.size = 3 * 6 := by
  rw [hx2]
  exact ⟨_, Zaf _ _, rfl⟩
 have hbe : Below x1.heap.size x1 x2 := by
  rw [hx2]
  exact (Below.refl _ _).alloc (Nat.le_refl _) _
 have hsz : x2.heap.size = x1.heap.size + 1 := by rw [hx2]; simp
 clear hx2
 obtain ⟨C7, hb7, s_7⟩ := hb7
 have o7 : W0.heap.size ≤ x1.heap.size := hbc.size
 have hB12 : Below W0.heap.size W0 x2 := hbc.trans (hbe.mono o7)
 generalize hL : x1.heap.size = L at *
 clear hbc hbe hL
 have hQ := KQ.start hb7 s_7
 refine Zal rfl 274 (.tmp 7) (.tmp 11) rfl rfl L 0 (sc m k1 k1 k0) rfl rfl (hQ.there (ZaX _ _ _ _)) (infoSc (ZaX _ _ _ _)) (ZcM _ _ _ _) ?_
 have g7 := hQ.put (C := sc m k1 k1 k0) (ZaX _ _ _ _)
 have hQ2 := hQ.store (C := sc m k1 k1 k0) (ZaX _ _ _ _)
 generalize World.setCells x2 L 0 (sc m k1 k1 k0).toList = x3 at g7 hQ2 ⊢
 have hB3 : Below W0.heap.size W0 x3 := hB12.trans (hQ2.below.mono o7)
 clear hQ hQ2 hb7 hB12
 clear hsz
 refine wpList_nil ?_
 refine HK1.out _ _ ?_
 clear HK1 K1
 have l7 := Zaa g7
 have G7 := hideP g7
 clear g7
 refine Zad (fun K2 HK2 => ?_)
 refine Zad (fun K1 HK1 => ?_)
 refine wp_region_list ?_
 refine Zac rfl (fun K hK => ?_)
 go_simp
 refine hK _ _ ?_
 clear hK K
 refine Zac rfl (fun K hK => ?_)
 have hf := pt_i ((hB3.block _ (Zaa H1.out)).trans H1.out)
 go_simp
 refine hK _ _ ?_
 clear hK K hf
 refine wpList_nil ?_
 refine HK1.out _ _ ?_
 clear HK1 K1
 refine wp_cond_false rfl ?_
 refine wp_skip ?_
 refine HK2.out _ _ ?_
 clear HK2 K2
 refine Zad (fun K1 HK1 => ?_)
 refine wp_region_list ?_
 refine Zac rfl (fun K hK => ?_)
 have hf := Zae ((hB3.block _ (Zaa H0.out)).trans H0.out) (o := 0) rfl
 go_simp
 refine hK _ _ ?_
 clear hK K hf
 refine Zak rfl 144 (.tmp 4) 16 rfl rfl B1 0 (pt x y false) rfl _ (Zah ((hB3.block _ (Zaa H1.out)).trans H1.out)) Zcc rfl (infoPt (ZaD _ _ _)) ?_
 simp only [Zs, Zz]
 refine Zac rfl (fun K hK => ?_)
 refine Zb4 (.tmp 15) (.tmp 16) _ 17 rfl rfl rfl rfl (en Tryz.func198) (ZeA (HG.out.below hB3) x y false hx hy) ?_
 intro x4 hbc
 refine hK _ _ ?_
 clear hK K
 simp only [Zs, Zz]
 refine Zac rfl (fun K hK => ?_)
 go_simp
 refine hK _ _ ?_
 clear hK K
 refine ZaN (fun x5 hx5 => ?_)
 have hb8 : ∃ C : Array Value, x5.heap[x4.heap.size]? = some (.cells C 272 (0, 0)) ∧ C.size = 2 * 6 := by
  rw [hx5]
  exact ⟨_, Zaf _ _, rfl⟩
 have hbe : Below x4.heap.size x4 x5 := by
  rw [hx5]
  exact (Below.refl _ _).alloc (Nat.le_refl _) _
 clear hx5
 obtain ⟨C8, hb8, s_8⟩ := hb8
 have o8 : x3.heap.size ≤ x4.heap.size := hbc.size
 have hB12 : Below x3.heap.size x3 x5 := hbc.trans (hbe.mono o8)
 generalize hM : x4.heap.size = M at *
 clear hbc hbe hM
 have hQ := KQ.start hb8 s_8
 refine Zal rfl 272 (.tmp 8) (.tmp 17) rfl rfl M 0 (pl m x y) rfl rfl (hQ.there (ZaQ _ _ _)) (infoPl (ZaQ _ _ _)) (ZcL _ _ _) ?_
 have g8 := hQ.put (C := pl m x y) (ZaQ _ _ _)
 have hQ2 := hQ.store (C := pl m x y) (ZaQ _ _ _)
 generalize World.setCells x5 M 0 (pl m x y).toList = x6 at g8 hQ2 ⊢
 have hB6 : Below x3.heap.size x3 x6 := hB12.trans (hQ2.below.mono o8)
 clear hQ hQ2 hb8 hB12
 refine wpList_nil ?_
 refine HK1.out _ _ ?_
 clear HK1 K1
 have l8 := Zaa g8
 refine Zad (fun K3 HK3 => ?_)
 refine Zad (fun K1 HK1 => ?_)
 refine wp_region_list ?_
 have hB36 : Below W0.heap.size W0 x6 := hB3.trans (hB6.mono hB3.size)
 refine Zak rfl 65 (.tmp 5) 18 rfl rfl B2 0 (W4.cs (limb k)) rfl _ (Zah ((hB36.block _ (Zaa H2.out)).trans H2.out)) Zce rfl (infoWd (W4.Za5 _)) ?_
 simp only [Zs, Zz]
 refine Zac rfl (fun K hK => ?_)
 refine Zc8 (av := #[.agg (W4.cs (limb k))]) _ _ 19 rfl rfl (by simp only [List.map_toArray, List.map_cons, List.map_nil]; rfl) (en Tryz.func229) (ZdJ k x6) ?_
 refine hK _ _ ?_
 clear hK K
 simp only [Zs, Zz]
 refine wpList_nil ?_
 refine HK1.out _ _ ?_
 clear HK1 K1
 refine Zam (fun W7 hW7 => ?_)
 have hrow : RowK x6.heap.size k W7 := by
  rw [hW7]
  exact Zaf _ _
 have hb67 : Below x6.heap.size x6 W7 := by
  rw [hW7]
  exact (Below.refl _ _).alloc (Nat.le_refl _) _
 clear hW7
 have hB37 : Below x3.heap.size x3 W7 := hB6.trans (hb67.mono hB6.size)
 have hB07 : Below W0.heap.size W0 W7 := hB3.trans (hB37.mono hB3.size)
 have h0 := (hB07.block _ (Zaa H0.out)).trans H0.out
 have hr := (hB07.block _ l3).trans Hr.out
 have h7 := (hB37.block _ l7).trans G7.out
 have h8 := (hb67.block _ l8).trans g8
 have hG7 := HG.out.below hB07
 have hbw7 : Below N w W7 := HBW.out.trans (hB07.mono (by omega))
 have nLQ : L < x6.heap.size := Nat.lt_of_lt_of_le l7 hB6.size
 have nML : L < M := Nat.lt_of_lt_of_le l7 o8
 generalize hQN : x6.heap.size = QN at *
 have l9 : QN < W7.heap.size := Zaa hrow
 have l7' : L < W7.heap.size := by omega
 have l8' : M < W7.heap.size := by omega
 have l3' : B3 < W7.heap.size := by omega
 have lN' : N < W7.heap.size := by omega
 have n3 : B3 < L := by omega
 have nN : N < L := by omega
 clear HG HBW H0 H1 H2 Hr G7 g8 hB3 hB6 hB36 hb67 hB37 hB07 l7 l8 l3 hQN o7 o8
 refine wp_block ?_
 refine (wpIn_wide (n := 6)).1 ?_
 refine Zcw (n := 6) (by omega) rfl (en Tryz.func251) (fun q => #[.bool (bitq k q)]) (bl k) (fun _ => rfl) (KpK QN k) (ZcX _ (by omega) QN k HK.out W7 hrow)
  (fun j W => W.heap[L]? = some (.cells (scS m (timesJ m (x, y) k j)) 274 (0, 0)) ∧ KQ W7 L (3 * 6) 274 W) (fun _ _ => False)
  (fun j V V' h hb => ⟨(hb.block _ (Zaa h.1)).trans h.1, h.2.call hb⟩) (fun _ _ _ h _ => h)
  (fun j V l' o o' h hl _ _ => ⟨(World.putObj_heap_other (by omega)).trans h.1, KQ.putObj h.2 hl (by omega)⟩) (fun _ _ _ _ _ h _ _ _ => h)
  (fun V V' l' o o' h hl _ _ hk => (World.putObj_heap_other (by omega)).trans (h hk)) ?h0 ?round ?done ?stop
 case h0 => exact ⟨h7, KQ.start h7 (Zan m (timesJ m (x, y) k 0))⟩
 case stop => exact fun _ _ _ _ h _ => h.elim
 case round =>
  rintro l' j W hj ⟨hw7, hkq⟩ hl' ⟨rr, hlr⟩
  have HALL := hideP (And.intro hw7 (And.intro hkq hlr))
  clear hw7 hkq hlr
  gi_wp2
  obtain ⟨hw7, hkq, hlr⟩ := HALL.out
  clear HALL
  refine ⟨KeepsFrom.refl _ _, fun r => ?_⟩
  have h72 : (W.putObj l' (.loop r)).heap[L]? = some (.cells (scS m (timesJ m (x, y) k j)) 274 (0, 0)) := (World.putObj_heap_other (by omega)).trans hw7
  have hkq2 : KQ W7 L (3 * 6) 274 (W.putObj l' (.loop r)) := KQ.putObj hkq hl' (by omega)
  have HWW : Hid (∀ b, b < W7.heap.size → (W.putObj l' (.loop r)).heap[b]? = W.heap[b]?) := fun b hb => World.putObj_heap_other (by omega)
  generalize W.putObj l' (.loop r) = W2 at *
  have hst : timesJ m (x, y) k (j + 1) = stepS m (x, y) (bitq k j) (timesJ m (x, y) k j) := rfl
  generalize timesJ m (x, y) k j = t at *
  generalize bitq k j = bit at *
  have HST := hideP hst
  have HW7 := hideP hw7
  clear hst hw7 hlr hj
  refine wpIn_block ?_
  refine wpIn_seq ?_
  refine ZaJ (fun ⟨_, _, h⟩ => h) rfl ?_
  refine Zac rfl (fun K hK => ?_)
  have hf := Zae (hkq2.box h0 (by omega)) (o := 0) rfl
  go_simp
  refine hK _ _ ?_
  clear hK K hf
  refine Zak rfl 274 (.tmp 7) 22 rfl rfl L 0 (scS m t) rfl _ (Zah h72) Zbi rfl (infoSc (Zan _ _)) ?_
  simp only [Zs, Zz]
  refine Zac rfl (fun K hK => ?_)
  refine Zb4 (.tmp 21) (.tmp 22) _ 23 rfl rfl rfl rfl (en Tryz.func234) (Zc7 (hG7.kq hkq2 (by omega) (by omega)) t) ?_
  intro y1 hbc
  refine hK _ _ ?_
  clear hK K
  simp only [Zs, Zz]
  have hQ := (KQ.start h72 (Zan m t)).call hbc
  rw [← Zbj m (dblS m t)]
  refine Zal rfl 274 (.tmp 7) (.tmp 23) rfl rfl L 0 (scS m (red m (dblS m t))) rfl rfl (hQ.there (Zan _ _)) (infoSc (Zan _ _)) (Zb7 _ _) ?_
  have g9 := hQ.put (C := scS m (red m (dblS m t))) (Zan _ _)
  have hQ2 := hQ.store (C := scS m (red m (dblS m t))) (Zan _ _)
  generalize World.setCells y1 L 0 (scS m (red m (dblS m t))).toList = y2 at g9 hQ2 ⊢
  clear hQ hbc h72 HW7
  have tr : KQ W7 L (3 * 6) 274 y2 := ⟨fun b h1 h2 => (hQ2.same b (Nat.lt_of_lt_of_le h1 hkq2.size) h2).trans (hkq2.same b h1 h2), hkq2.below.trans hQ2.below, hQ2.res⟩
  refine wpList_nil ?_
  refine (?_ : Code.wpIn _ _ _ _ _ _ _)
  refine wpIn_seq ?_
  refine ZaJ (fun ⟨_, _, h⟩ => h) rfl ?_
  refine Zac rfl (fun K hK => ?_)
  go_simp
  refine hK _ _ ?_
  clear hK K
  refine wpList_nil ?_
  refine (?_ : Code.wpIn _ _ _ _ _ _ _)
  have fin : ∀ (y3 : World), KQ W2 L (3 * 6) 274 y3 → KeepsFrom W7.heap.size W2 y3 ∧ KpK QN k W y3 := fun y3 h3 => by
   refine ⟨⟨h3.size, fun b o hbb ho _ => (h3.same b (Zaa ho) (by omega)).trans ho⟩, fun hk => ?_⟩
   exact (h3.same QN (Nat.lt_of_lt_of_le l9 hkq2.size) (by omega)).trans ((HWW.out QN l9).trans hk)
  cases bit with
  | false =>
   refine wpIn_cond_false rfl ?_
   refine wpIn_skip ?_
   refine ⟨(fin _ hQ2).1, (fin _ hQ2).2, ?_, tr⟩
   rw [HST.out, stepS, if_neg (by decide), Zbj, ← Zbj m (dblS m t)]
   exact g9
  | true =>
   refine wpIn_cond_true rfl ?_
   refine ZaJ (fun ⟨_, _, h⟩ => h) rfl ?_
   refine Zac rfl (fun K hK => ?_)
   have hf := Zae (tr.box h0 (by omega)) (o := 0) rfl
   go_simp
   refine hK _ _ ?_
   clear hK K hf
   refine Zak rfl 274 (.tmp 7) 26 rfl rfl L 0 (scS m (red m (dblS m t))) rfl _ (Zah g9) Zbi rfl (infoSc (Zan _ _)) ?_
   simp only [Zs, Zz]
   refine Zak rfl 272 (.tmp 8) 27 rfl rfl M 0 (pl m x y) rfl _ (Zah (tr.box h8 (by omega))) Zdl rfl (infoPl (ZaQ _ _ _)) ?_
   simp only [Zs, Zz]
   refine Zac rfl (fun K hK => ?_)
   refine ZaT (av := #[.pointer (some ⟨g, 0, none⟩), .agg (scS m (red m (dblS m t))), .agg (pl m x y)]) _ _ 28 rfl rfl (by simp only [List.map_toArray, List.map_cons, List.map_nil]; rfl) (en Tryz.func196) (ZeB (hG7.kq tr (by omega) (by omega)) (red m (dblS m t)) (x, y)) ?_
   intro y3 hbc
   refine hK _ _ ?_
   clear hK K
   simp only [Zs, Zz]
   have hQ3 := hQ2.call hbc
   have tr3 := tr.call hbc
   refine Zal rfl 274 (.tmp 7) (.tmp 28) rfl rfl L 0 (scS m (plusS m (red m (dblS m t)) (x, y))) rfl rfl (hQ3.there (Zan _ _)) (infoSc (Zan _ _)) (Zb7 _ _) ?_
   have g10 := hQ3.put (C := scS m (plusS m (red m (dblS m t)) (x, y))) (Zan _ _)
   have hQ4 := hQ3.store (C := scS m (plusS m (red m (dblS m t)) (x, y))) (Zan _ _)
   have tr4 := tr3.store (C := scS m (plusS m (red m (dblS m t)) (x, y))) (Zan _ _)
   generalize World.setCells y3 L 0 (scS m (plusS m (red m (dblS m t)) (x, y))).toList = y4 at g10 hQ4 tr4 ⊢
   refine wpList_nil ?_
   refine ⟨(fin _ hQ4).1, (fin _ hQ4).2, ?_, tr4⟩
   rw [HST.out, stepS, if_pos rfl, Zbj]
   exact g10
 case done =>
  rintro Db W hDb ⟨hw7, hkq⟩ hdef
  show K3 _ _
  refine HK3.out _ _ ?_
  clear HK3 K3
  have hts : timesJ m (x, y) k (bl k) = timesS m (x, y) k := rfl
  rw [hts] at hw7
  generalize timesS m (x, y) k = t at hw7 ⊢
  refine wp_seq ?_
  refine wp_region_list ?_
  refine Zak rfl 274 (.tmp 7) 29 rfl rfl L 0 (scS m t) rfl _ (Zah hw7) Zbi rfl (infoSc (Zan _ _)) ?_
  simp only [Zs, Zz]
  have hr3 := hkq.box hr (by omega)
  have hQ := KQ.start hr3 s_R
  refine Zal rfl 274 (.tmp 6) (.tmp 29) rfl rfl B3 0 (scS m t) rfl rfl (hQ.there (Zan _ _)) (infoSc (Zan _ _)) (Zb7 _ _) ?_
  have g6 := hQ.put (C := scS m t) (Zan _ _)
  have hQ2 := hQ.store (C := scS m t) (Zan _ _)
  generalize World.setCells W B3 0 (scS m t).toList = W6 at g6 hQ2 ⊢
  refine wpList_nil ?_
  refine wp_ret ?_
  have hdef6 := (hQ2.same Db (Zaa hdef) (by omega)).trans hdef
  refine ⟨by simp, .inl ⟨_, _, rfl, run_takeDeferred hdef6, ?_⟩⟩
  have hg9 : (W6.putObj Db (.deferred none)).heap[B3]? = some (.cells (scS m t) 274 (0, 0)) := (World.putObj_heap_other (by omega)).trans g6
  refine ⟨.agg (scS m t), ZaH (p := ⟨B3, 0, none⟩) rfl rfl (loadC _ B3 0 274 (scS m t) _ (Zah hg9) Zbi rfl (infoSc (Zan _ _))), rfl, ?_⟩
  exact ZaB (hbw7.trans ((hkq.below.mono (by omega)).trans (hQ2.below.mono (by omega)))) (by omega)
end Go.Proofs.YtcbdbnfgnonacaaGreat.P6
