/-
 Sums of points by numbers.
-/
import Derived.Test.YtcbdbnfgnonacaaGreatCurveBasesC22
namespace Go.Proofs.YtcbdbnfgnonacaaGreat.Q4
open Go.RowKit Go.Shelf
def sz : Nat → Nat
 | 2 => 4
 | _ => 8
noncomputable def likeB (m : Nat) (x y : K) : Bool := Classical.choose (⟨_, rfl⟩ : ∃ c : Bool, c = decide (Like m x y))
theorem Zat (m : Nat) (x y : K) : likeB m x y = decide (Like m x y) := Classical.choose_spec (⟨_, rfl⟩ : ∃ c : Bool, c = decide (Like m x y))
structure Dt where
 m : Nat
 g : Nat
 p : Nat
 b : K
 bx : K
 bY : K
 kw : Nat
 v : Nat → K
 bo : Nat → Bool
 cv : Nat
noncomputable abbrev al (D : Dt) : Al sz where
 K := K
 v := D.v
 c := fun k => match k with
  | 0 => k0
  | 1 => k1
  | 2 => D.b
  | 3 => D.bx
  | _ => D.bY
 u := fun k x => match k with
  | 0 => kneg D.m x
  | 1 => kinv D.m x
  | _ => rest D.m x
 b := fun k x y => match k with
  | 0 => kadd D.m x y
  | 1 => ksub D.m x y
  | _ => kmul D.m x y
 cells := fun k x => match k with
  | 0 => ev D.m x
  | 2 => W4.cs (limb D.kw)
  | _ => nv x
 hs := fun k x => match k with
  | 0 => Zau D.m x
  | 1 => Zai x
  | 2 => rfl
  | _ + 3 => Zai x
 h1 := fun k x => match k with
  | 0 => Zbl D.m x
  | 1 => Zb1 x
  | 2 => W4.one _
  | _ + 3 => Zb1 x
 lk := fun k x y => match k with
  | 0 => likeB D.m x y
  | _ => decide (x = y)
 bo := D.bo
 xb := fun i => match i with
  | 0 => D.g
  | _ => D.cv
 ov := fun _ => ifv D.p
 ho := fun _ => ⟨rfl, rfl⟩
def ft (fl : Nat → Bool) : EX → Bool
 | .v i => fl i
 | .c 0 => true
 | .u 2 _ => true
 | _ => false
def bq : CX → CX → Option CX
 | x, .lit true => some x
 | x, .lit false => some (.no x)
 | .lit true, y => some y
 | .lit false, y => some (.no y)
 | _, _ => none
def eI (fl : Nat → Bool) (s : String) (xs : List SV) : Option SV := match xs with
 | [.one (.ov _), .row [.e 0 x], .row [.e 0 y]] => if s = "Add" then some (.row [.e 0 (.b 0 x y)]) else if s = "Sub" then some (.row [.e 0 (.b 1 x y)]) else if s = "Mul" then some (.row [.e 0 (.b 2 x y)]) else none
 | [.one (.ov _), .row [.e 0 x]] => if s = "Neg" then some (.row [.e 0 (.u 0 x)]) else if s = "Inv" then some (.row [.e 0 (.u 1 x)]) else if s = "Out" then some (.row [.e 1 (.u 2 x)]) else none
 | [.one (.ov _), .row [.e 1 x]] => if s = "In" ∧ ft fl x = true then some (.row [.e 0 x]) else none
 | _ => none
def eX0 (o t : Nat) : Option SV := if o = 0 ∧ t = 237 then some (.one (.ov 0)) else if o = 1 ∧ t = 47 then some (.row [.e 0 (.c 0)]) else if o = 1 + 8 ∧ t = 47 then some (.row [.e 0 (.c 1)]) else if o = 1 + 2 * 8 ∧ t = 47 then some (.row [.e 0 (.c 2)]) else none
def eX (XL : Nat → Nat → Nat → Option SV) (i o t : Nat) : Option SV := match XL i o t with
 | some y => some y
 | none => match i with
  | 0 => eX0 o t
  | _ => none
abbrev zE : Ch := .e 1 (.c 0)
abbrev fE : Ch := .s (.cx (.lit false))
abbrev zI : Ch := .s (.v (.int .u64 0))
def eZ (t : Nat) : Option (List Ch) := if t = 47 then some [zE] else if t = 267 then some [zE, zE] else if t = 269 then some [zE, zE, zE] else if t = 133 then some [zE, zE, fE] else if t = 49 then some [zE, zE, fE] else if t = 135 then some [zE, zE, zE, zE, fE, zI, zI, zI, zI] else if t = 240 then some [.s (.v .nilIface), zE, zE, zE, zE, zE, fE, zI, zI, zI, zI] else none
def eE (fl : Nat → Bool) (t : Nat) (l m : List Ch) : Option CX := match l, m with
 | [.e 0 x], [.e 0 y] => if t = 47 then some (.lk 0 x y) else none
 | [.e 1 x], [.e 1 y] => if t = 47 ∧ ft fl x = true ∧ ft fl y = true then some (.lk 1 x y) else none
 | [.e 0 x, .e 0 y], [.e 0 z, .e 0 u] => if t = 267 then some (.an (.lk 0 x z) (.lk 0 y u)) else none
 | [.e 1 x, .e 1 y, .s (.cx i)], [.e 1 z, .e 1 u, .s (.cx j)] => if t = 133 ∧ ft fl x = true ∧ ft fl y = true ∧ ft fl z = true ∧ ft fl u = true then (bq i j).map fun q => .an (.lk 1 x z) (.an (.lk 1 y u) q) else none
 | _, _ => none
structure FAt (w : World) (p m : Nat) : Prop where
 ok : FOK w p m
 plt : p < w.heap.size
theorem FAt.below {w w' : World} {p m : Nat} (h : FAt w p m) (hb : Below w.heap.size w w') : FAt w' p m := ⟨h.ok.of_same (hb.block _ h.plt), Nat.lt_of_lt_of_le h.plt hb.size⟩
def envF (fl : Nat → Bool) (G : List (CX × Bool)) (X : Nat → List SV → Option SV) (XL : Nat → Nat → Nat → Option SV) (T : Nat → List SV → Option SV) : Env := ⟨aheadT X T, eI fl, XL, eZ, eE fl, G, fun s _ => s == "Add" || (s == "Sub" || (s == "Mul" || (s == "Neg" || (s == "Inv" || (s == "In" || s == "Out")))))⟩
def env (fl : Nat → Bool) (G : List (CX × Bool)) (X : Nat → List SV → Option SV) (XL : Nat → Nat → Nat → Option SV) (T : Nat → List SV → Option SV) : Env := envF fl G X (eX XL) T
theorem Zb5 {w : World} {D : Dt} {fl : Nat → Bool} (HG : FOK w D.p D.m) (hv : ∀ i, fl i = true → Fits (D.v i)) {x : EX} (h : ft fl x = true) : Fits ((al D).d x) := by
 unfold ft at h
 split at h
 ·
  exact hv _ h
 ·
  exact Zbt
 ·
  exact ZbG HG _
 ·
  cases h
theorem Zg8 {A : Al sz} {x y q : CX} (h : bq x y = some q) : A.cx q = (A.cx x == A.cx y) := by
 unfold bq at h
 split at h
 ·
  cases h; simp [Al.cx]
 ·
  cases h; simp [Al.cx]
 ·
  cases h; simp [Al.cx]
 ·
  cases h; simp [Al.cx]
 ·
  cases h
section
variable {D : Dt} {β : Nat → Nat}
theorem rw_e (x : EX) : ((al D).rw β [.e 0 x]).toArray = ev D.m ((al D).d x) := by simp [Al.rw, Al.ch, al]
theorem rw_n (x : EX) : ((al D).rw β [.e 1 x]).toArray = nv ((al D).d x) := by simp [Al.rw, Al.ch, al]
theorem ZbL (x y : EX) : ((al D).rw β [.e 0 x, .e 0 y]).toArray = pl D.m ((al D).d x) ((al D).d y) := by
 rw [Zbu]
 apply Array.toList_inj.1
 simp [Al.rw, Al.ch, al]
theorem Zbz (x y z : EX) : ((al D).rw β [.e 0 x, .e 0 y, .e 0 z]).toArray = sc D.m ((al D).d x) ((al D).d y) ((al D).d z) := by
 rw [Zcb, Zbu]
 apply Array.toList_inj.1
 simp [Al.rw, Al.ch, al]
theorem ZaO (x y : EX) (i : CX) : ((al D).rw β [.e 1 x, .e 1 y, .s (.cx i)]).toArray = pt ((al D).d x) ((al D).d y) ((al D).cx i) := by
 rw [ZaR]
 apply Array.toList_inj.1
 simp [Al.rw, Al.ch, al, Al.sc]
theorem rw_w (x : EX) : ((al D).rw β [.e 2 x]).toArray = W4.cs (limb D.kw) := by simp [Al.rw, Al.ch]
theorem sv_e (x : EX) : (al D).sv β (.row [.e 0 x]) = .agg (ev D.m ((al D).d x)) := by rw [Al.sv, rw_e]
end
theorem x_ok {w : World} {D : Dt} (HG : GAt w D.g D.p D.m D.b) {q t : Nat} {y : SV} (β : Nat → Nat) {V : World} (hV : Below w.heap.size w V) (h : eX0 q t = some y) : (loadVar t ⟨D.g, q, none⟩).run Tryz.prog V = .ok ((al D).sv β y) V := by
 have H := HG.below hV
 unfold eX0 at h
 split at h
 ·
  rename_i hc
  obtain ⟨rfl, rfl⟩ := hc
  cases h
  exact ld1 (by kernel_rfl) H.fld
 ·
  split at h
  ·
   rename_i hc
   obtain ⟨rfl, rfl⟩ := hc
   cases h
   rw [sv_e]
   exact loadC V D.g _ _ _ _ H.zero underE rfl (infoE (Zau _ _))
  ·
   split at h
   ·
    rename_i hc
    obtain ⟨rfl, rfl⟩ := hc
    cases h
    rw [sv_e]
    exact loadC V D.g _ _ _ _ H.one underE rfl (infoE (Zau _ _))
   ·
    split at h
    ·
     rename_i hc
     obtain ⟨rfl, rfl⟩ := hc
     cases h
     rw [sv_e]
     exact loadC V D.g _ _ _ _ H.b underE rfl (infoE (Zau _ _))
    ·
     cases h
def XLOK {sz : Nat → Nat} (A : Al sz) (XL : Nat → Nat → Nat → Option SV) (w : World) : Prop := ∀ i q t y β V, XL i q t = some y → Below w.heap.size w V → (loadVar t ⟨A.xb i, q, none⟩).run Tryz.prog V = .ok (A.sv β y) V
theorem XLOK.mono {sz : Nat → Nat} {A : Al sz} {XL : Nat → Nat → Nat → Option SV} {w V : World} (h : XLOK A XL w) (hV : Below w.heap.size w V) : XLOK A XL V := fun i q t y β U e hU => h i q t y β U e (hV.trans (hU.mono hV.size))
theorem z_ok {D : Dt} {t : Nat} {l : List Ch} (β : Nat → Nat) (V : World) (h : eZ t = some l) : ∃ z, (zeroValue t).run Tryz.prog V = .ok z V ∧ z.cells = ((al D).rw β l).toArray := by
 have hz : ((al D).ch β zE) = zn.toList := by
  show (nv k0).toList = _
  rw [ZcN]
 unfold eZ at h
 split at h
 ·
  rename_i hc
  subst hc
  cases h
  refine ⟨.agg zn, by kernel_rfl, ?_⟩
  simp only [Al.rw, hz]
  rfl
 rename_i hc
 clear hc
 split at h
 ·
  rename_i hc
  subst hc
  cases h
  refine ⟨.agg (zn ++ zn), by kernel_rfl, ?_⟩
  simp only [Al.rw, hz]
  rfl
 rename_i hc
 clear hc
 split at h
 ·
  rename_i hc
  subst hc
  cases h
  refine ⟨.agg (zn ++ zn ++ zn), by kernel_rfl, ?_⟩
  simp only [Al.rw, hz]
  rfl
 rename_i hc
 clear hc
 split at h
 ·
  rename_i hc
  subst hc
  cases h
  refine ⟨.agg (zn ++ zn ++ #[.bool false]), by kernel_rfl, ?_⟩
  simp only [Al.rw, hz]
  rfl
 rename_i hc
 clear hc
 split at h
 ·
  rename_i hc
  subst hc
  cases h
  refine ⟨.agg (zn ++ zn ++ #[.bool false]), by kernel_rfl, ?_⟩
  simp only [Al.rw, hz]
  rfl
 rename_i hc
 clear hc
 split at h
 ·
  rename_i hc
  subst hc
  cases h
  refine ⟨.agg (zn ++ zn ++ zn ++ zn ++ #[.bool false] ++ Array.replicate 4 (.int .u64 0)), by kernel_rfl, ?_⟩
  simp only [Al.rw, hz]
  rfl
 rename_i hc
 clear hc
 split at h
 ·
  rename_i hc
  subst hc
  cases h
  refine ⟨.agg (#[.nilIface] ++ zn ++ zn ++ zn ++ zn ++ zn ++ #[.bool false] ++ Array.replicate 4 (.int .u64 0)), by kernel_rfl, ?_⟩
  simp only [Al.rw, hz]
  rfl
 rename_i hc
 clear hc
 cases h
theorem e_ok {w : World} {D : Dt} {fl : Nat → Bool} (HG : FOK w D.p D.m) (hv : ∀ i, fl i = true → Fits (D.v i)) {t : Nat} {l k : List Ch} {c : CX} (β : Nat → Nat) (V : World) (h : eE fl t l k = some c) : Tryz.prog.eqGuardType Tryz.prog.depth t = false ∧ (Op.equalIn 10000 t (.agg ((al D).rw β l).toArray) (.agg ((al D).rw β k).toArray)).run Tryz.prog V = .ok ((al D).cx c) V := by
 have hF := HG
 unfold eE at h
 split at h
 ·
  split at h
  ·
   rename_i hc
   subst hc
   cases h
   rw [rw_e, rw_e]
   exact ⟨gqE, (eqE 9998 hF _ _ V).trans (by rw [← Zat]; rfl)⟩
  ·
   cases h
 ·
  split at h
  ·
   rename_i hc
   obtain ⟨rfl, h1, h2⟩ := hc
   cases h
   rw [rw_n, rw_n]
   exact ⟨gqE, eqN 9998 (Zb5 HG hv h1) (Zb5 HG hv h2) V⟩
  ·
   cases h
 ·
  split at h
  ·
   rename_i hc
   subst hc
   cases h
   rw [ZbL, ZbL]
   exact ⟨gqPl, (eqPl hF _ _ _ _ V).trans (by rw [← Zat, ← Zat]; rfl)⟩
  ·
   cases h
 ·
  split at h
  ·
   rename_i hc
   obtain ⟨rfl, h1, h2, h3, h4⟩ := hc
   obtain ⟨q, hq, rfl⟩ := Option.map_eq_some_iff.1 h
   rw [ZaO, ZaO]
   refine ⟨gqPt, (eqPt (Zb5 HG hv h1) (Zb5 HG hv h2) (Zb5 HG hv h3) (Zb5 HG hv h4) _ _ V).trans ?_⟩
   simp only [Al.cx, Zg8 hq]
  ·
   cases h
 ·
  cases h
set_option maxRecDepth 100000 in
theorem Zcd {w : World} {D : Dt} {fl : Nat → Bool} {G : List (CX × Bool)} {X T : Nat → List SV → Option SV} {XL : Nat → Nat → Nat → Option SV} (HG : FAt w D.p D.m) (hv : ∀ i, fl i = true → Fits (D.v i)) (hG : ∀ x ∈ G, (al D).cx x.1 = x.2) (hX : TOK Tryz.prog (al D) X w) (hL : XLOK (al D) XL w) (hT : TOK Tryz.prog (al D) T w) : EnvOK Tryz.prog (al D) (envF fl G X XL T) w where
 G := hG
 F := fun s i h => by
  refine ⟨_, _, rfl, fun V => ?_⟩
  simp only [envF, Bool.or_eq_true, beq_iff_eq] at h
  rcases h with rfl | rfl | rfl | rfl | rfl | rfl | rfl
  ·
   exact Ze0 D.p V
  ·
   exact Ze1 D.p V
  ·
   exact Ze2 D.p V
  ·
   exact Ze3 D.p V
  ·
   exact Ze4 D.p V
  ·
   exact Zg7 D.p V
  ·
   exact Ze5 D.p V
 T := ZdH hX hT
 I := fun s xs y β V h hV => by
  have hF := (HG.below hV).ok
  have h : eI fl s xs = some y := h
  unfold eI at h
  split at h
  ·
   split at h
   ·
    cases h; rename_i hs; subst hs; exact ⟨_, _, Zev D.p _ _ V, by simpa [Al.sv, Al.rw, Al.ch, al, Al.d] using Zf4 hF _ _⟩
   ·
    split at h
    ·
     cases h; rename_i hs; subst hs; exact ⟨_, _, Zew D.p _ _ V, by simpa [Al.sv, Al.rw, Al.ch, al, Al.d] using Zf5 hF _ _⟩
    ·
     split at h
     ·
      cases h; rename_i hs; subst hs; exact ⟨_, _, Zex D.p _ _ V, by simpa [Al.sv, Al.rw, Al.ch, al, Al.d] using Zf6 hF _ _⟩
     ·
      cases h
  ·
   split at h
   ·
    cases h; rename_i hs; subst hs; exact ⟨_, _, Zey D.p _ V, by simpa [Al.sv, Al.rw, Al.ch, al, Al.d] using Zf7 hF _⟩
   ·
    split at h
    ·
     cases h; rename_i hs; subst hs; exact ⟨_, _, Zez D.p _ V, by simpa [Al.sv, Al.rw, Al.ch, al, Al.d] using Zf8 hF _⟩
    ·
     split at h
     ·
      cases h; rename_i hs; subst hs; exact ⟨_, _, Ze6 D.p _ V, by simpa [Al.sv, Al.rw, Al.ch, al, Al.d] using Zf9 hF _⟩
     ·
      cases h
  ·
   split at h
   ·
    cases h; rename_i hs; obtain ⟨rfl, hx⟩ := hs; exact ⟨_, _, Zg6 D.p _ V, by simpa [Al.sv, Al.rw, Al.ch, al, Al.d] using c_In hF _ (Zb5 HG.ok hv hx)⟩
   ·
    cases h
  ·
   cases h
 X := hL
 Z := fun t l β V h => z_ok β V h
 E := fun t l k c β V h => e_ok HG.ok hv β V h
theorem Zg9 {w : World} {D : Dt} {XL : Nat → Nat → Nat → Option SV} (HG : GAt w D.g D.p D.m D.b) (hL : XLOK (al D) XL w) : XLOK (al D) (eX XL) w := fun i q t y β V h hV => by
 unfold eX at h
 split at h
 ·
  rename_i z hz
  cases h
  exact hL i q t y β V hz hV
 ·
  split at h
  ·
   exact x_ok HG β hV h
  ·
   cases h
set_option maxRecDepth 100000 in
noncomputable def ens : List (TEn Tryz.prog) := [⟨239, Tryz.f239, Tryz.func239, enters_of Tryz.func239 (by kernel_rfl) rfl⟩,
 ⟨185, Tryz.f185, Tryz.func185, enters_of Tryz.func185 (by kernel_rfl) rfl⟩,
 ⟨190, Tryz.f190, Tryz.func190, enters_of Tryz.func190 (by kernel_rfl) rfl⟩,
 ⟨231, Tryz.f231, Tryz.func231, enters_of Tryz.func231 (by kernel_rfl) rfl⟩,
 ⟨184, Tryz.f184, Tryz.func184, enters_of Tryz.func184 (by kernel_rfl) rfl⟩,
 ⟨232, Tryz.f232, Tryz.func232, enters_of Tryz.func232 (by kernel_rfl) rfl⟩,
 ⟨187, Tryz.f187, Tryz.func187, enters_of Tryz.func187 (by kernel_rfl) rfl⟩,
 ⟨189, Tryz.f189, Tryz.func189, enters_of Tryz.func189 (by kernel_rfl) rfl⟩,
 ⟨188, Tryz.f188, Tryz.func188, enters_of Tryz.func188 (by kernel_rfl) rfl⟩,
 ⟨123, Tryz.f123, Tryz.func123, enters_of Tryz.func123 (by kernel_rfl) rfl⟩,
 ⟨91, Tryz.f91, Tryz.func91, enters_of Tryz.func91 (by kernel_rfl) rfl⟩,
 ⟨104, Tryz.f104, Tryz.func104, enters_of Tryz.func104 (by kernel_rfl) rfl⟩,
 ⟨124, Tryz.f124, Tryz.func124, enters_of Tryz.func124 (by kernel_rfl) rfl⟩,
 ⟨126, Tryz.f126, Tryz.func126, enters_of Tryz.func126 (by kernel_rfl) rfl⟩,
 ⟨105, Tryz.f105, Tryz.func105, enters_of Tryz.func105 (by kernel_rfl) rfl⟩,
 ⟨89, Tryz.f89, Tryz.func89, enters_of Tryz.func89 (by kernel_rfl) rfl⟩,
 ⟨90, Tryz.f90, Tryz.func90, enters_of Tryz.func90 (by kernel_rfl) rfl⟩,
 ⟨164, Tryz.f164, Tryz.func164, enters_of Tryz.func164 (by kernel_rfl) rfl⟩,
 ⟨186, Tryz.f186, Tryz.func186, enters_of Tryz.func186 (by kernel_rfl) rfl⟩]
noncomputable def tab : Nat → Option Func := tabL ens
theorem Ze8 : TabOK Tryz.prog tab := Zei ens
theorem mixed : Tryz.prog.follows .mixedOrders = true := by kernel_rfl
noncomputable abbrev runG (fl : Nat → Bool) (G : List (CX × Bool)) (X : Nat → List SV → Option SV) (XL : Nat → Nat → Nat → Option SV) (fn : Func) (args : List SV) : Option SV := runS Tryz.prog sz (env fl G X XL (Tk Tryz.prog sz (env fl G X XL) tab 6)) fn 100 args
theorem Ze9 {w : World} {D : Dt} {fl : Nat → Bool} {G : List (CX × Bool)} {X : Nat → List SV → Option SV} {XL : Nat → Nat → Nat → Option SV} (HG : FAt w D.p D.m) (hv : ∀ i, fl i = true → Fits (D.v i)) (hG : ∀ x ∈ G, (al D).cx x.1 = x.2) (hX : TOK Tryz.prog (al D) X w) (hL : XLOK (al D) XL w) : EnvOK Tryz.prog (al D) (envF fl G X XL (Tk Tryz.prog sz (envF fl G X XL) tab 6)) w :=
 Zcd HG hv hG hX hL (Ziv (A := al D) mixed Ze8 (fun _ _ hV hT => Zcd (HG.below hV) hv hG (hX.mono hV) (hL.mono hV) hT) 6 w (Below.refl _ _))
theorem ZbH {w : World} (D : Dt) (fl : Nat → Bool) (G : List (CX × Bool)) {X : Nat → List SV → Option SV} {XL : Nat → Nat → Nat → Option SV} (HG : GAt w D.g D.p D.m D.b) (hv : ∀ i, fl i = true → Fits (D.v i)) (hG : ∀ x ∈ G, (al D).cx x.1 = x.2) (hX : TOK Tryz.prog (al D) X w) (hL : XLOK (al D) XL w) {f : Nat} {fn : Func} (hf : Tryz.prog.funcs[f]? = some fn) {args : List SV} {y : SV} (h : runG fl G X XL fn args = some y) (β : Nat → Nat) :
  Calls Tryz.prog f (args.map ((al D).sv β)).toArray w fun e w' => e = .returned ((al D).sv β y) ∧ Below w.heap.size w w' :=
 Zeh mixed (Ze9 ⟨HG.ok, HG.plt⟩ hv hG hX (Zg9 HG hL)) hf h
theorem noL {A : Al sz} (w : World) : XLOK A (fun _ _ _ => none) w := fun _ _ _ _ _ _ h => by cases h
abbrev T3 := K × K × K
noncomputable def scS (m : Nat) (s : T3) : Array Value := sc m s.1 s.2.1 s.2.2
def red (m : Nat) (s : T3) : T3 := (rest m s.1, rest m s.2.1, rest m s.2.2)
theorem Zbj (m : Nat) (s : T3) : scS m (red m s) = scS m s := by
 unfold scS red
 rw [Zcb, Zcb, Zbu, Zbu, Zbh, Zbh, Zbh]
def dblS (m : Nat) (s : T3) : T3 :=
 let x := s.1
 let y := s.2.1
 let z := s.2.2
 let sq := kmul m y y
 let t1 := kmul m x sq
 let t2 := kadd m t1 t1
 let mid := kadd m t2 t2
 let sl0 := kmul m x x
 let sl := kadd m sl0 (kadd m sl0 sl0)
 let X := ksub m (kmul m sl sl) (kadd m mid mid)
 let q1 := kmul m sq sq
 let q2 := kadd m q1 q1
 let q3 := kadd m q2 q2
 let Y := ksub m (kmul m sl (ksub m mid X)) (kadd m q3 q3)
 (X, Y, kadd m (kmul m y z) (kmul m y z))
def addS (m : Nat) (s : T3) (q : K × K) : T3 :=
 let x := s.1
 let y := s.2.1
 let z := s.2.2
 let sq := kmul m z z
 let X := kmul m q.1 sq
 let Y := kmul m q.2 (kmul m sq z)
 let across := ksub m X x
 let up := ksub m Y y
 let sq2 := kmul m across across
 let cube := kmul m sq2 across
 let mid := kmul m x sq2
 let X3 := ksub m (ksub m (kmul m up up) cube) (kadd m mid mid)
 let Y3 := ksub m (kmul m up (ksub m mid X3)) (kmul m y cube)
 (X3, Y3, kmul m z across)
def plusS (m : Nat) (s : T3) (q : K × K) : T3 :=
 if Like m s.2.2 k0 then (q.1, q.2, k1)
 else if Like m (kmul m q.1 (kmul m s.2.2 s.2.2)) s.1 ∧ Like m (kmul m q.2 (kmul m (kmul m s.2.2 s.2.2) s.2.2)) s.2.1 then dblS m s
 else addS m s q
def nofit : Nat → Bool := fun _ => false
def fit2 : Nat → Bool
 | 0 => true
 | 1 => true
 | _ => false
def noX : Nat → Nat → Nat → Option SV := fun _ _ _ => none
abbrev gp0 : SV := .one (.xp 0 0)
abbrev ptE (x y : EX) (i : CX) : SV := .row [.e 1 x, .e 1 y, .s (.cx i)]
abbrev plE (x y : EX) : SV := .row [.e 0 x, .e 0 y]
abbrev v5 (x y z u t : K) : Nat → K
 | 0 => x
 | 1 => y
 | 2 => z
 | 3 => u
 | _ => t
theorem fits2 {x y z u t : K} (hx : Fits x) (hy : Fits y) : ∀ i, fit2 i = true → Fits (v5 x y z u t i)
 | 0, _ => hx
 | 1, _ => hy
 | _ + 2, h => by cases h
abbrev dt (m g p : Nat) (b : K) (v : Nat → K) (i : Bool) : Dt := ⟨m, g, p, b, b, b, 0, v, fun _ => i, 0⟩
section
variable {w : World} {g p m : Nat} {b : K} (HG : GAt w g p m b) (x y z : K)
include HG
theorem Zbm (v : Nat → K) (G : List (CX × Bool)) (hG : ∀ x ∈ G, (al (dt m g p b v false)).cx x.1 = x.2) {f : Nat} {fn : Func} (hf : Tryz.prog.funcs[f]? = some fn) {args : List SV} {y : SV} (h : runG nofit G noT noX fn args = some y) :
  Calls Tryz.prog f (args.map ((al (dt m g p b v false)).sv fun _ => 0)).toArray w fun e w' => e = .returned ((al (dt m g p b v false)).sv (fun _ => 0) y) ∧ Below w.heap.size w w' := ZbH (dt m g p b v false) nofit G HG (fun _ h => by cases h) hG (ZbS w) (noL w) hf h _
theorem ZcO (v : Nat → K) (i : Bool) (hv : ∀ i, fit2 i = true → Fits (v i)) (G : List (CX × Bool)) (hG : ∀ x ∈ G, (al (dt m g p b v i)).cx x.1 = x.2) {f : Nat} {fn : Func} (hf : Tryz.prog.funcs[f]? = some fn) {args : List SV} {y : SV} (h : runG fit2 G noT noX fn args = some y) :
  Calls Tryz.prog f (args.map ((al (dt m g p b v i)).sv fun _ => 0)).toArray w fun e w' => e = .returned ((al (dt m g p b v i)).sv (fun _ => 0) y) ∧ Below w.heap.size w w' := ZbH (dt m g p b v i) fit2 G HG hv hG (ZbS w) (noL w) hf h _
set_option maxRecDepth 100000
theorem ZaV : Calls Tryz.prog 232 #[.pointer (some ⟨g, 0, none⟩), .agg (sc m x y z)] w fun e w' => e = .returned (.agg (scS m (dblS m (x, y, z)))) ∧ Below w.heap.size w w' := by
 have := Zbm HG (v5 x y z x x) [] (fun _ h => by cases h) Tryz.func232 (args := [gp0, scE (.v 0, .v 1, .v 2)]) (y := scE (dblE (.v 0) (.v 1) (.v 2))) (by kernel_rfl)
 simp only [scE, Al.sv, List.map_cons, List.map_nil, Zbz] at this
 exact this
theorem ZbC (a c : K) : Calls Tryz.prog 188 #[.pointer (some ⟨g, 0, none⟩), .agg (sc m x y z), .agg (pl m a c)] w fun e w' => e = .returned (.agg (scS m (plusS m (x, y, z) (a, c)))) ∧ Below w.heap.size w w' := by
 unfold plusS
 by_cases hz : Like m z k0
 ·
  rw [if_pos hz]
  have := Zbm HG (v5 x y z a c) [(.lk 0 (.v 2) (.c 0), true)] (fun q h => by simp only [List.mem_singleton] at h; subst h; exact (Zat _ _ _).trans (decide_eq_true hz)) Tryz.func188 (args := [gp0, scE (.v 0, .v 1, .v 2), plE (.v 3) (.v 4)]) (y := scE (.v 3, .v 4, .c 1)) (by kernel_rfl)
  simp only [scE, Al.sv, List.map_cons, List.map_nil, Zbz, ZbL] at this
  exact this
 ·
  rw [if_neg hz]
  by_cases hq : Like m (kmul m a (kmul m z z)) x ∧ Like m (kmul m c (kmul m (kmul m z z) z)) y
  ·
   rw [if_pos hq]
   have := Zbm HG (v5 x y z a c) [(.lk 0 (.v 2) (.c 0), false), (.lk 0 (.mu (.v 3) (.mu (.v 2) (.v 2))) (.v 0), true), (.lk 0 (.mu (.v 4) (.mu (.mu (.v 2) (.v 2)) (.v 2))) (.v 1), true)] (fun q h => by
    simp only [List.mem_cons, List.not_mem_nil, or_false] at h
    rcases h with rfl | rfl | rfl
    ·
     exact (Zat _ _ _).trans (decide_eq_false hz)
    ·
     exact (Zat _ _ _).trans (decide_eq_true hq.1)
    ·
     exact (Zat _ _ _).trans (decide_eq_true hq.2)) Tryz.func188 (args := [gp0, scE (.v 0, .v 1, .v 2), plE (.v 3) (.v 4)]) (y := scE (dblE (.v 0) (.v 1) (.v 2))) (by kernel_rfl)
   simp only [scE, Al.sv, List.map_cons, List.map_nil, Zbz, ZbL] at this
   exact this
  ·
   rw [if_neg hq]
   have := Zbm HG (v5 x y z a c) [(.lk 0 (.v 2) (.c 0), false), (.an (.lk 0 (.mu (.v 3) (.mu (.v 2) (.v 2))) (.v 0)) (.lk 0 (.mu (.v 4) (.mu (.mu (.v 2) (.v 2)) (.v 2))) (.v 1)), false)] (fun q h => by
    simp only [List.mem_cons, List.not_mem_nil, or_false] at h
    rcases h with rfl | rfl
    ·
     exact (Zat _ _ _).trans (decide_eq_false hz)
    ·
     show (likeB m _ _ && likeB m _ _) = false
     rw [Zat, Zat, ← Bool.decide_and]
     exact decide_eq_false hq) Tryz.func188 (args := [gp0, scE (.v 0, .v 1, .v 2), plE (.v 3) (.v 4)]) (y := scE (addE (.v 0) (.v 1) (.v 2) (.v 3) (.v 4))) (by kernel_rfl)
   simp only [scE, Al.sv, List.map_cons, List.map_nil, Zbz, ZbL] at this
   exact this
theorem ZeA (i : Bool) (hx : Fits x) (hy : Fits y) : Calls Tryz.prog 190 #[.pointer (some ⟨g, 0, none⟩), .agg (pt x y i)] w fun e w' => e = .returned (.agg (pl m x y)) ∧ Below w.heap.size w w' := by
 have := ZcO HG (v5 x y x x x) i (fits2 hx hy) [] (fun _ h => by cases h) Tryz.func190 (args := [gp0, ptE (.v 0) (.v 1) (.at_ 0)]) (y := plE (.v 0) (.v 1)) (by kernel_rfl)
 simp only [Al.sv, List.map_cons, List.map_nil, ZbL, ZaO] at this
 exact this
theorem Zb6 : Calls Tryz.prog 231 #[.pointer (some ⟨g, 0, none⟩)] w fun e w' => e = .returned (.agg (sc m k1 k1 k0)) ∧ Below w.heap.size w w' := by
 have := Zbm HG (v5 b b b b b) [] (fun _ h => by cases h) Tryz.func231 (args := [gp0]) (y := scE (.c 1, .c 1, .c 0)) (by kernel_rfl)
 simp only [scE, Al.sv, List.map_cons, List.map_nil, Zbz] at this
 exact this
def goodN (m : Nat) (b x y : K) (i : Bool) : Int :=
 if i = true then (if (decide (x = k0) && (decide (y = k0) && (true == true))) = true then 0 else 70)
 else if rest m x = x then (if rest m y = y then (if Like m (kmul m y y) (kadd m (kmul m (kmul m x x) x) b) then 0 else 71) else 70) else 70
theorem Zbe (hx : Fits x) (hy : Fits y) (i : Bool) (G : List (CX × Bool)) (k : Int) (hG : ∀ q ∈ G, (al (dt m g p b (v5 x y x x x) i)).cx q.1 = q.2) (h : runG fit2 G noT noX Tryz.f123 [gp0, ptE (.v 0) (.v 1) (.lit i)] = some (.one (.v (.int .i64 k)))) :
  Calls Tryz.prog 123 #[.pointer (some ⟨g, 0, none⟩), .agg (pt x y i)] w fun e w' => e = .returned (.int .i64 k) ∧ Below w.heap.size w w' := by
 have := ZcO HG (v5 x y x x x) i (fits2 hx hy) G hG Tryz.func123 h
 simp only [Al.sv, List.map_cons, List.map_nil, ZaO] at this
 exact this
theorem Zc6 (hx : Fits x) (hy : Fits y) (i : Bool) : Calls Tryz.prog 123 #[.pointer (some ⟨g, 0, none⟩), .agg (pt x y i)] w fun e w' => e = .returned (.int .i64 (goodN m b x y i)) ∧ Below w.heap.size w w' := by
 unfold goodN
 cases i with
 | true =>
  rw [if_pos rfl]
  by_cases h : (decide (x = k0) && (decide (y = k0) && (true == true))) = true
  ·
   rw [if_pos h]
   have h' : x = k0 ∧ y = k0 := by simpa using h
   exact Zbe HG x y hx hy true [(.lk 1 (.v 0) (.c 0), true), (.lk 1 (.v 1) (.c 0), true)] 0 (fun q hq => by
    simp only [List.mem_cons, List.not_mem_nil, or_false] at hq
    rcases hq with rfl | rfl
    ·
     exact decide_eq_true h'.1
    ·
     exact decide_eq_true h'.2) (by kernel_rfl)
  ·
   rw [if_neg h]
   have h' : ¬ (x = k0 ∧ y = k0) := by simpa using h
   exact Zbe HG x y hx hy true [(.an (.lk 1 (.v 0) (.c 0)) (.lk 1 (.v 1) (.c 0)), false)] 70 (fun q hq => by
    simp only [List.mem_singleton] at hq
    subst hq
    show (decide (x = k0) && decide (y = k0)) = false
    rw [← Bool.decide_and]
    exact decide_eq_false h') (by kernel_rfl)
 | false =>
  rw [if_neg (by decide)]
  by_cases h1 : rest m x = x
  ·
   rw [if_pos h1]
   by_cases h2 : rest m y = y
   ·
    rw [if_pos h2]
    by_cases h3 : Like m (kmul m y y) (kadd m (kmul m (kmul m x x) x) b)
    ·
     rw [if_pos h3]
     exact Zbe HG x y hx hy false [(.lk 1 (.u 2 (.v 0)) (.v 0), true), (.lk 1 (.u 2 (.v 1)) (.v 1), true), (.lk 0 (.mu (.v 1) (.v 1)) (.ad (.mu (.mu (.v 0) (.v 0)) (.v 0)) (.c 2)), true)] 0 (fun q hq => by
      simp only [List.mem_cons, List.not_mem_nil, or_false] at hq
      rcases hq with rfl | rfl | rfl
      ·
       exact decide_eq_true h1
      ·
       exact decide_eq_true h2
      ·
       exact (Zat _ _ _).trans (decide_eq_true h3)) (by kernel_rfl)
    ·
     rw [if_neg h3]
     exact Zbe HG x y hx hy false [(.lk 1 (.u 2 (.v 0)) (.v 0), true), (.lk 1 (.u 2 (.v 1)) (.v 1), true), (.lk 0 (.mu (.v 1) (.v 1)) (.ad (.mu (.mu (.v 0) (.v 0)) (.v 0)) (.c 2)), false)] 71 (fun q hq => by
      simp only [List.mem_cons, List.not_mem_nil, or_false] at hq
      rcases hq with rfl | rfl | rfl
      ·
       exact decide_eq_true h1
      ·
       exact decide_eq_true h2
      ·
       exact (Zat _ _ _).trans (decide_eq_false h3)) (by kernel_rfl)
   ·
    rw [if_neg h2]
    exact Zbe HG x y hx hy false [(.lk 1 (.u 2 (.v 0)) (.v 0), true), (.lk 1 (.u 2 (.v 1)) (.v 1), false)] 70 (fun q hq => by
     simp only [List.mem_cons, List.not_mem_nil, or_false] at hq
     rcases hq with rfl | rfl
     ·
      exact decide_eq_true h1
     ·
      exact decide_eq_false h2) (by kernel_rfl)
  ·
   rw [if_neg h1]
   exact Zbe HG x y hx hy false [(.lk 1 (.u 2 (.v 0)) (.v 0), false)] 70 (fun q hq => by
    simp only [List.mem_singleton] at hq
    subst hq
    exact decide_eq_false h1) (by kernel_rfl)
end
theorem Zc7 {w : World} {g p m : Nat} {b : K} (hG : GAt w g p m b) (s : T3) : Calls Tryz.prog 232 #[.pointer (some ⟨g, 0, none⟩), .agg (scS m s)] w fun e w' => e = .returned (.agg (scS m (dblS m s))) ∧ Below w.heap.size w w' :=
 ZaV hG s.1 s.2.1 s.2.2
theorem ZeB {w : World} {g p m : Nat} {b : K} (hG : GAt w g p m b) (s : T3) (q : K × K) : Calls Tryz.prog 188 #[.pointer (some ⟨g, 0, none⟩), .agg (scS m s), .agg (pl m q.1 q.2)] w fun e w' => e = .returned (.agg (scS m (plusS m s q))) ∧ Below w.heap.size w w' :=
 ZbC hG s.1 s.2.1 s.2.2 q.1 q.2
def stepS (m : Nat) (q : K × K) (bit : Bool) (s : T3) : T3 := red m (if bit = true then plusS m (red m (dblS m s)) q else dblS m s)
def timesJ (m : Nat) (q : K × K) (k : Nat) : Nat → T3
 | 0 => (k1, k1, k0)
 | j + 1 => stepS m q (bitq k j) (timesJ m q k j)
def timesS (m : Nat) (q : K × K) (k : Nat) : T3 := timesJ m q k (bl k)
end Go.Proofs.YtcbdbnfgnonacaaGreat.Q4
