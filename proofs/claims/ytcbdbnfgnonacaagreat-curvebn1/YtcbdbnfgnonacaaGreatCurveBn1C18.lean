/-
  Sums of points by numbers.
-/
import Derived.Test.YtcbdbnfgnonacaaGreatCurveBn1C10
import Derived.Test.YtcbdbnfgnonacaaGreatCurveBn1C11
import Derived.Test.YtcbdbnfgnonacaaGreatCurveBn1C17
import Derived.Test.YtcbdbnfgnonacaaGreatCurveBn1C15
namespace Go.Proofs.YtcbdbnfgnonacaaGreat.P4
open Go.RowKit Go.Shelf

def sz : Nat → Nat
  | 2 => 4
  | _ => 4

/-- Two that stand for the same, as a condition that nobody reckons. -/
noncomputable def likeB (m : Nat) (x y : K) : Bool := Classical.choose (⟨_, rfl⟩ : ∃ c : Bool, c = decide (Like m x y))

theorem likeB_eq (m : Nat) (x y : K) : likeB m x y = decide (Like m x y) := Classical.choose_spec (⟨_, rfl⟩ : ∃ c : Bool, c = decide (Like m x y))

structure Dt where
  m : Nat
  g : Nat
  p : Nat
  b : K
  bx : K
  bY : K
  kw : Nat
  v : Nat → K
  bo : Nat → Bool
  cv : Nat

/-- Kinds: 0 an element, 1 a number, 2 a word. -/
noncomputable abbrev al (D : Dt) : Al sz where
  K := K
  v := D.v
  c := fun k => match k with
    | 0 => k0
    | 1 => k1
    | 2 => D.b
    | 3 => D.bx
    | _ => D.bY
  u := fun k x => match k with
    | 0 => kneg D.m x
    | 1 => kinv D.m x
    | _ => rest D.m x
  b := fun k x y => match k with
    | 0 => kadd D.m x y
    | 1 => ksub D.m x y
    | _ => kmul D.m x y
  cells := fun k x => match k with
    | 0 => ev D.m x
    | 2 => W4.cs (limb D.kw)
    | _ => nv x
  hs := fun k x => match k with
    | 0 => ev_size D.m x
    | 1 => nv_size x
    | 2 => rfl
    | _ + 3 => nv_size x
  h1 := fun k x => match k with
    | 0 => ev_one D.m x
    | 1 => nv_one x
    | 2 => W4.one _
    | _ + 3 => nv_one x
  lk := fun k x y => match k with
    | 0 => likeB D.m x y
    | _ => decide (x = y)
  bo := D.bo
  xb := fun i => match i with
    | 0 => D.g
    | _ => D.cv
  ov := fun _ => ifv D.p
  ho := fun _ => ⟨rfl, rfl⟩

/-- Numbers that fit. -/
def ft (fl : Nat → Bool) : EX → Bool
  | .v i => fl i
  | .c 0 => true
  | .u 2 _ => true
  | _ => false

def bq : CX → CX → Option CX
  | x, .lit true => some x
  | x, .lit false => some (.no x)
  | .lit true, y => some y
  | .lit false, y => some (.no y)
  | _, _ => none

def eI (fl : Nat → Bool) (s : String) (xs : List SV) : Option SV := match xs with
  | [.one (.ov _), .row [.e 0 x], .row [.e 0 y]] => if s = "Add" then some (.row [.e 0 (.b 0 x y)]) else if s = "Sub" then some (.row [.e 0 (.b 1 x y)]) else if s = "Mul" then some (.row [.e 0 (.b 2 x y)]) else none
  | [.one (.ov _), .row [.e 0 x]] => if s = "Neg" then some (.row [.e 0 (.u 0 x)]) else if s = "Inv" then some (.row [.e 0 (.u 1 x)]) else if s = "Out" then some (.row [.e 1 (.u 2 x)]) else none
  | [.one (.ov _), .row [.e 1 x]] => if s = "In" ∧ ft fl x = true then some (.row [.e 0 x]) else none
  | _ => none

def eX0 (o t : Nat) : Option SV := if o = 0 ∧ t = 232 then some (.one (.ov 0)) else if o = 1 ∧ t = 32 then some (.row [.e 0 (.c 0)]) else if o = 1 + 4 ∧ t = 32 then some (.row [.e 0 (.c 1)]) else if o = 1 + 2 * 4 ∧ t = 32 then some (.row [.e 0 (.c 2)]) else none

def eX (XL : Nat → Nat → Nat → Option SV) (i o t : Nat) : Option SV := match XL i o t with
  | some y => some y
  | none => match i with
    | 0 => eX0 o t
    | _ => none

abbrev zE : Ch := .e 1 (.c 0)

abbrev fE : Ch := .s (.cx (.lit false))

abbrev zI : Ch := .s (.v (.int .u64 0))

def eZ (t : Nat) : Option (List Ch) := if t = 32 then some [zE] else if t = 262 then some [zE, zE] else if t = 264 then some [zE, zE, zE] else if t = 125 then some [zE, zE, fE] else if t = 34 then some [zE, zE, fE] else if t = 127 then some [zE, zE, zE, zE, fE, zI, zI, zI, zI] else if t = 235 then some [.s (.v .nilIface), zE, zE, zE, zE, zE, fE, zI, zI, zI, zI] else none

def eE (fl : Nat → Bool) (t : Nat) (l m : List Ch) : Option CX := match l, m with
  | [.e 0 x], [.e 0 y] => if t = 32 then some (.lk 0 x y) else none
  | [.e 1 x], [.e 1 y] => if t = 32 ∧ ft fl x = true ∧ ft fl y = true then some (.lk 1 x y) else none
  | [.e 0 x, .e 0 y], [.e 0 z, .e 0 u] => if t = 262 then some (.an (.lk 0 x z) (.lk 0 y u)) else none
  | [.e 1 x, .e 1 y, .s (.cx i)], [.e 1 z, .e 1 u, .s (.cx j)] => if t = 125 ∧ ft fl x = true ∧ ft fl y = true ∧ ft fl z = true ∧ ft fl u = true then (bq i j).map fun q => .an (.lk 1 x z) (.an (.lk 1 y u) q) else none
  | _, _ => none

/-- The field that a group stands on. -/
structure FAt (w : World) (p m : Nat) : Prop where
  ok : FOK w p m
  plt : p < w.heap.size

theorem FAt.below {w w' : World} {p m : Nat} (h : FAt w p m) (hb : Below w.heap.size w w') : FAt w' p m := ⟨h.ok.of_same (hb.block _ h.plt), Nat.lt_of_lt_of_le h.plt hb.size⟩

def envF (fl : Nat → Bool) (G : List (CX × Bool)) (X : Nat → List SV → Option SV) (XL : Nat → Nat → Nat → Option SV) (T : Nat → List SV → Option SV) : Env := ⟨aheadT X T, eI fl, XL, eZ, eE fl, G, fun s _ => s == "Add" || (s == "Sub" || (s == "Mul" || (s == "Neg" || (s == "Inv" || (s == "In" || s == "Out")))))⟩

def env (fl : Nat → Bool) (G : List (CX × Bool)) (X : Nat → List SV → Option SV) (XL : Nat → Nat → Nat → Option SV) (T : Nat → List SV → Option SV) : Env := envF fl G X (eX XL) T

theorem ft_ok {w : World} {D : Dt} {fl : Nat → Bool} (HG : FOK w D.p D.m) (hv : ∀ i, fl i = true → Fits (D.v i)) {x : EX} (h : ft fl x = true) : Fits ((al D).d x) := by
  unfold ft at h
  split at h
  · exact hv _ h
  · exact k0_fits
  · exact rest_fit HG _
  · cases h

theorem bq_ok {A : Al sz} {x y q : CX} (h : bq x y = some q) : A.cx q = (A.cx x == A.cx y) := by
  unfold bq at h
  split at h
  · cases h; simp [Al.cx]
  · cases h; simp [Al.cx]
  · cases h; simp [Al.cx]
  · cases h; simp [Al.cx]
  · cases h

section
variable {D : Dt} {β : Nat → Nat}
theorem rw_e (x : EX) : ((al D).rw β [.e 0 x]).toArray = ev D.m ((al D).d x) := by simp [Al.rw, Al.ch, al]

theorem rw_n (x : EX) : ((al D).rw β [.e 1 x]).toArray = nv ((al D).d x) := by simp [Al.rw, Al.ch, al]

theorem rw_pl (x y : EX) : ((al D).rw β [.e 0 x, .e 0 y]).toArray = pl D.m ((al D).d x) ((al D).d y) := by
  rw [pl_eq]
  apply Array.toList_inj.1
  simp [Al.rw, Al.ch, al]

theorem rw_sc (x y z : EX) : ((al D).rw β [.e 0 x, .e 0 y, .e 0 z]).toArray = sc D.m ((al D).d x) ((al D).d y) ((al D).d z) := by
  rw [sc_eq, pl_eq]
  apply Array.toList_inj.1
  simp [Al.rw, Al.ch, al]

theorem rw_pt (x y : EX) (i : CX) : ((al D).rw β [.e 1 x, .e 1 y, .s (.cx i)]).toArray = pt ((al D).d x) ((al D).d y) ((al D).cx i) := by
  rw [pt_eq]
  apply Array.toList_inj.1
  simp [Al.rw, Al.ch, al, Al.sc]

theorem rw_w (x : EX) : ((al D).rw β [.e 2 x]).toArray = W4.cs (limb D.kw) := by simp [Al.rw, Al.ch]

theorem sv_e (x : EX) : (al D).sv β (.row [.e 0 x]) = .agg (ev D.m ((al D).d x)) := by rw [Al.sv, rw_e]

end

theorem x_ok {w : World} {D : Dt} (HG : GAt w D.g D.p D.m D.b) {q t : Nat} {y : SV} (β : Nat → Nat) {V : World} (hV : Below w.heap.size w V) (h : eX0 q t = some y) : (loadVar t ⟨D.g, q, none⟩).run Tryz.prog V = .ok ((al D).sv β y) V := by
  have H := HG.below hV
  unfold eX0 at h
  split at h
  · rename_i hc
    obtain ⟨rfl, rfl⟩ := hc
    cases h
    exact ld1 (by kernel_rfl) H.fld
  · split at h
    · rename_i hc
      obtain ⟨rfl, rfl⟩ := hc
      cases h
      rw [sv_e]
      exact loadC V D.g _ _ _ _ H.zero underE rfl (infoE (ev_size _ _))
    · split at h
      · rename_i hc
        obtain ⟨rfl, rfl⟩ := hc
        cases h
        rw [sv_e]
        exact loadC V D.g _ _ _ _ H.one underE rfl (infoE (ev_size _ _))
      · split at h
        · rename_i hc
          obtain ⟨rfl, rfl⟩ := hc
          cases h
          rw [sv_e]
          exact loadC V D.g _ _ _ _ H.b underE rfl (infoE (ev_size _ _))
        · cases h

/-- Loads that are known besides. -/
def XLOK {sz : Nat → Nat} (A : Al sz) (XL : Nat → Nat → Nat → Option SV) (w : World) : Prop := ∀ i q t y β V, XL i q t = some y → Below w.heap.size w V → (loadVar t ⟨A.xb i, q, none⟩).run Tryz.prog V = .ok (A.sv β y) V

theorem XLOK.mono {sz : Nat → Nat} {A : Al sz} {XL : Nat → Nat → Nat → Option SV} {w V : World} (h : XLOK A XL w) (hV : Below w.heap.size w V) : XLOK A XL V := fun i q t y β U e hU => h i q t y β U e (hV.trans (hU.mono hV.size))

theorem z_ok {D : Dt} {t : Nat} {l : List Ch} (β : Nat → Nat) (V : World) (h : eZ t = some l) : ∃ z, (zeroValue t).run Tryz.prog V = .ok z V ∧ z.cells = ((al D).rw β l).toArray := by
  have hz : ((al D).ch β zE) = zn.toList := by
    show (nv k0).toList = _
    rw [nv_zero]
  unfold eZ at h
  split at h
  · rename_i hc
    subst hc
    cases h
    refine ⟨.agg zn, by kernel_rfl, ?_⟩
    simp only [Al.rw, hz]
    rfl
  rename_i hc
  clear hc
  split at h
  · rename_i hc
    subst hc
    cases h
    refine ⟨.agg (zn ++ zn), by kernel_rfl, ?_⟩
    simp only [Al.rw, hz]
    rfl
  rename_i hc
  clear hc
  split at h
  · rename_i hc
    subst hc
    cases h
    refine ⟨.agg (zn ++ zn ++ zn), by kernel_rfl, ?_⟩
    simp only [Al.rw, hz]
    rfl
  rename_i hc
  clear hc
  split at h
  · rename_i hc
    subst hc
    cases h
    refine ⟨.agg (zn ++ zn ++ #[.bool false]), by kernel_rfl, ?_⟩
    simp only [Al.rw, hz]
    rfl
  rename_i hc
  clear hc
  split at h
  · rename_i hc
    subst hc
    cases h
    refine ⟨.agg (zn ++ zn ++ #[.bool false]), by kernel_rfl, ?_⟩
    simp only [Al.rw, hz]
    rfl
  rename_i hc
  clear hc
  split at h
  · rename_i hc
    subst hc
    cases h
    refine ⟨.agg (zn ++ zn ++ zn ++ zn ++ #[.bool false] ++ Array.replicate 4 (.int .u64 0)), by kernel_rfl, ?_⟩
    simp only [Al.rw, hz]
    rfl
  rename_i hc
  clear hc
  split at h
  · rename_i hc
    subst hc
    cases h
    refine ⟨.agg (#[.nilIface] ++ zn ++ zn ++ zn ++ zn ++ zn ++ #[.bool false] ++ Array.replicate 4 (.int .u64 0)), by kernel_rfl, ?_⟩
    simp only [Al.rw, hz]
    rfl
  rename_i hc
  clear hc
  cases h

theorem e_ok {w : World} {D : Dt} {fl : Nat → Bool} (HG : FOK w D.p D.m) (hv : ∀ i, fl i = true → Fits (D.v i)) {t : Nat} {l k : List Ch} {c : CX} (β : Nat → Nat) (V : World) (h : eE fl t l k = some c) : Tryz.prog.eqGuardType Tryz.prog.depth t = false ∧ (Op.equalIn 10000 t (.agg ((al D).rw β l).toArray) (.agg ((al D).rw β k).toArray)).run Tryz.prog V = .ok ((al D).cx c) V := by
  have hF := HG
  unfold eE at h
  split at h
  · split at h
    · rename_i hc
      subst hc
      cases h
      rw [rw_e, rw_e]
      exact ⟨gqE, (eqE 9998 hF _ _ V).trans (by rw [← likeB_eq]; rfl)⟩
    · cases h
  · split at h
    · rename_i hc
      obtain ⟨rfl, h1, h2⟩ := hc
      cases h
      rw [rw_n, rw_n]
      exact ⟨gqE, eqN 9998 (ft_ok HG hv h1) (ft_ok HG hv h2) V⟩
    · cases h
  · split at h
    · rename_i hc
      subst hc
      cases h
      rw [rw_pl, rw_pl]
      exact ⟨gqPl, (eqPl hF _ _ _ _ V).trans (by rw [← likeB_eq, ← likeB_eq]; rfl)⟩
    · cases h
  · split at h
    · rename_i hc
      obtain ⟨rfl, h1, h2, h3, h4⟩ := hc
      obtain ⟨q, hq, rfl⟩ := Option.map_eq_some_iff.1 h
      rw [rw_pt, rw_pt]
      refine ⟨gqPt, (eqPt (ft_ok HG hv h1) (ft_ok HG hv h2) (ft_ok HG hv h3) (ft_ok HG hv h4) _ _ V).trans ?_⟩
      simp only [Al.cx, bq_ok hq]
    · cases h
  · cases h

set_option maxRecDepth 100000 in
theorem envF_ok {w : World} {D : Dt} {fl : Nat → Bool} {G : List (CX × Bool)} {X T : Nat → List SV → Option SV} {XL : Nat → Nat → Nat → Option SV} (HG : FAt w D.p D.m) (hv : ∀ i, fl i = true → Fits (D.v i)) (hG : ∀ x ∈ G, (al D).cx x.1 = x.2) (hX : TOK Tryz.prog (al D) X w) (hL : XLOK (al D) XL w) (hT : TOK Tryz.prog (al D) T w) : EnvOK Tryz.prog (al D) (envF fl G X XL T) w where
  G := hG
  F := fun s i h => by
    refine ⟨_, _, rfl, fun V => ?_⟩
    simp only [envF, Bool.or_eq_true, beq_iff_eq] at h
    rcases h with rfl | rfl | rfl | rfl | rfl | rfl | rfl
    · exact na_Add D.p V
    · exact na_Sub D.p V
    · exact na_Mul D.p V
    · exact na_Neg D.p V
    · exact na_Inv D.p V
    · exact na_In D.p V
    · exact na_Out D.p V
  T := ahead_ok hX hT
  I := fun s xs y β V h hV => by
    have hF := (HG.below hV).ok
    have h : eI fl s xs = some y := h
    unfold eI at h
    split at h
    · split at h
      · cases h; rename_i hs; subst hs; exact ⟨_, _, cm_Add D.p _ _ V, by simpa [Al.sv, Al.rw, Al.ch, al, Al.d] using c_Add hF _ _⟩
      · split at h
        · cases h; rename_i hs; subst hs; exact ⟨_, _, cm_Sub D.p _ _ V, by simpa [Al.sv, Al.rw, Al.ch, al, Al.d] using c_Sub hF _ _⟩
        · split at h
          · cases h; rename_i hs; subst hs; exact ⟨_, _, cm_Mul D.p _ _ V, by simpa [Al.sv, Al.rw, Al.ch, al, Al.d] using c_Mul hF _ _⟩
          · cases h
    · split at h
      · cases h; rename_i hs; subst hs; exact ⟨_, _, cm_Neg D.p _ V, by simpa [Al.sv, Al.rw, Al.ch, al, Al.d] using c_Neg hF _⟩
      · split at h
        · cases h; rename_i hs; subst hs; exact ⟨_, _, cm_Inv D.p _ V, by simpa [Al.sv, Al.rw, Al.ch, al, Al.d] using c_Inv hF _⟩
        · split at h
          · cases h; rename_i hs; subst hs; exact ⟨_, _, cm_Out D.p _ V, by simpa [Al.sv, Al.rw, Al.ch, al, Al.d] using c_Out hF _⟩
          · cases h
    · split at h
      · cases h; rename_i hs; obtain ⟨rfl, hx⟩ := hs; exact ⟨_, _, cm_In D.p _ V, by simpa [Al.sv, Al.rw, Al.ch, al, Al.d] using c_In hF _ (ft_ok HG.ok hv hx)⟩
      · cases h
    · cases h
  X := hL
  Z := fun t l β V h => z_ok β V h
  E := fun t l k c β V h => e_ok HG.ok hv β V h

theorem eX_ok {w : World} {D : Dt} {XL : Nat → Nat → Nat → Option SV} (HG : GAt w D.g D.p D.m D.b) (hL : XLOK (al D) XL w) : XLOK (al D) (eX XL) w := fun i q t y β V h hV => by
  unfold eX at h
  split at h
  · rename_i z hz
    cases h
    exact hL i q t y β V hz hV
  · split at h
    · exact x_ok HG β hV h
    · cases h

set_option maxRecDepth 100000 in
noncomputable def ens : List (TEn Tryz.prog) := [⟨238, Tryz.f238, Tryz.func238, enters_of Tryz.func238 (by kernel_rfl) rfl⟩,
  ⟨174, Tryz.f174, Tryz.func174, enters_of Tryz.func174 (by kernel_rfl) rfl⟩,
  ⟨182, Tryz.f182, Tryz.func182, enters_of Tryz.func182 (by kernel_rfl) rfl⟩,
  ⟨228, Tryz.f228, Tryz.func228, enters_of Tryz.func228 (by kernel_rfl) rfl⟩,
  ⟨173, Tryz.f173, Tryz.func173, enters_of Tryz.func173 (by kernel_rfl) rfl⟩,
  ⟨230, Tryz.f230, Tryz.func230, enters_of Tryz.func230 (by kernel_rfl) rfl⟩,
  ⟨179, Tryz.f179, Tryz.func179, enters_of Tryz.func179 (by kernel_rfl) rfl⟩,
  ⟨181, Tryz.f181, Tryz.func181, enters_of Tryz.func181 (by kernel_rfl) rfl⟩,
  ⟨180, Tryz.f180, Tryz.func180, enters_of Tryz.func180 (by kernel_rfl) rfl⟩,
  ⟨111, Tryz.f111, Tryz.func111, enters_of Tryz.func111 (by kernel_rfl) rfl⟩,
  ⟨85, Tryz.f85, Tryz.func85, enters_of Tryz.func85 (by kernel_rfl) rfl⟩,
  ⟨102, Tryz.f102, Tryz.func102, enters_of Tryz.func102 (by kernel_rfl) rfl⟩,
  ⟨117, Tryz.f117, Tryz.func117, enters_of Tryz.func117 (by kernel_rfl) rfl⟩,
  ⟨122, Tryz.f122, Tryz.func122, enters_of Tryz.func122 (by kernel_rfl) rfl⟩,
  ⟨103, Tryz.f103, Tryz.func103, enters_of Tryz.func103 (by kernel_rfl) rfl⟩,
  ⟨83, Tryz.f83, Tryz.func83, enters_of Tryz.func83 (by kernel_rfl) rfl⟩,
  ⟨84, Tryz.f84, Tryz.func84, enters_of Tryz.func84 (by kernel_rfl) rfl⟩,
  ⟨162, Tryz.f162, Tryz.func162, enters_of Tryz.func162 (by kernel_rfl) rfl⟩,
  ⟨178, Tryz.f178, Tryz.func178, enters_of Tryz.func178 (by kernel_rfl) rfl⟩]

noncomputable def tab : Nat → Option Func := tabL ens

theorem tab_ok : TabOK Tryz.prog tab := tabL_ok ens

theorem mixed : Tryz.prog.follows .mixedOrders = true := by kernel_rfl

noncomputable abbrev runG (fl : Nat → Bool) (G : List (CX × Bool)) (X : Nat → List SV → Option SV) (XL : Nat → Nat → Nat → Option SV) (fn : Func) (args : List SV) : Option SV := runS Tryz.prog sz (env fl G X XL (Tk Tryz.prog sz (env fl G X XL) tab 6)) fn 100 args

/-- A function, by running it on terms: over a field; over a group. -/
theorem env_T {w : World} {D : Dt} {fl : Nat → Bool} {G : List (CX × Bool)} {X : Nat → List SV → Option SV} {XL : Nat → Nat → Nat → Option SV} (HG : FAt w D.p D.m) (hv : ∀ i, fl i = true → Fits (D.v i)) (hG : ∀ x ∈ G, (al D).cx x.1 = x.2) (hX : TOK Tryz.prog (al D) X w) (hL : XLOK (al D) XL w) : EnvOK Tryz.prog (al D) (envF fl G X XL (Tk Tryz.prog sz (envF fl G X XL) tab 6)) w :=
  envF_ok HG hv hG hX hL (Tk_ok (A := al D) mixed tab_ok (fun _ _ hV hT => envF_ok (HG.below hV) hv hG (hX.mono hV) (hL.mono hV) hT) 6 w (Below.refl _ _))

theorem call_S {w : World} (D : Dt) (fl : Nat → Bool) (G : List (CX × Bool)) {X : Nat → List SV → Option SV} {XL : Nat → Nat → Nat → Option SV} (HG : GAt w D.g D.p D.m D.b) (hv : ∀ i, fl i = true → Fits (D.v i)) (hG : ∀ x ∈ G, (al D).cx x.1 = x.2) (hX : TOK Tryz.prog (al D) X w) (hL : XLOK (al D) XL w) {f : Nat} {fn : Func} (hf : Tryz.prog.funcs[f]? = some fn) {args : List SV} {y : SV} (h : runG fl G X XL fn args = some y) (β : Nat → Nat) :
    Calls Tryz.prog f (args.map ((al D).sv β)).toArray w fun e w' => e = .returned ((al D).sv β y) ∧ Below w.heap.size w w' :=
  run_S mixed (env_T ⟨HG.ok, HG.plt⟩ hv hG hX (eX_ok HG hL)) hf h

theorem noL {A : Al sz} (w : World) : XLOK A (fun _ _ _ => none) w := fun _ _ _ _ _ _ h => by cases h

end Go.Proofs.YtcbdbnfgnonacaaGreat.P4

namespace Go.Proofs.YtcbdbnfgnonacaaGreat.P4
open Go.RowKit Go.Shelf

abbrev T3 := K × K × K

noncomputable def scS (m : Nat) (s : T3) : Array Value := sc m s.1 s.2.1 s.2.2

def red (m : Nat) (s : T3) : T3 := (rest m s.1, rest m s.2.1, rest m s.2.2)

theorem scS_red (m : Nat) (s : T3) : scS m (red m s) = scS m s := by
  unfold scS red
  rw [sc_eq, sc_eq, pl_eq, pl_eq, ev_rest, ev_rest, ev_rest]

/-- A point and itself. -/
def dblS (m : Nat) (s : T3) : T3 :=
  let x := s.1
  let y := s.2.1
  let z := s.2.2
  let sq := kmul m y y
  let t1 := kmul m x sq
  let t2 := kadd m t1 t1
  let mid := kadd m t2 t2
  let sl0 := kmul m x x
  let sl := kadd m sl0 (kadd m sl0 sl0)
  let X := ksub m (kmul m sl sl) (kadd m mid mid)
  let q1 := kmul m sq sq
  let q2 := kadd m q1 q1
  let q3 := kadd m q2 q2
  let Y := ksub m (kmul m sl (ksub m mid X)) (kadd m q3 q3)
  (X, Y, kadd m (kmul m y z) (kmul m y z))

/-- Two points that are not the same. -/
def addS (m : Nat) (s : T3) (q : K × K) : T3 :=
  let x := s.1
  let y := s.2.1
  let z := s.2.2
  let sq := kmul m z z
  let X := kmul m q.1 sq
  let Y := kmul m q.2 (kmul m sq z)
  let across := ksub m X x
  let up := ksub m Y y
  let sq2 := kmul m across across
  let cube := kmul m sq2 across
  let mid := kmul m x sq2
  let X3 := ksub m (ksub m (kmul m up up) cube) (kadd m mid mid)
  let Y3 := ksub m (kmul m up (ksub m mid X3)) (kmul m y cube)
  (X3, Y3, kmul m z across)

/-- A scaled point and a place. -/
def plusS (m : Nat) (s : T3) (q : K × K) : T3 :=
  if Like m s.2.2 k0 then (q.1, q.2, k1)
  else if Like m (kmul m q.1 (kmul m s.2.2 s.2.2)) s.1 ∧ Like m (kmul m q.2 (kmul m (kmul m s.2.2 s.2.2) s.2.2)) s.2.1 then dblS m s
  else addS m s q

end Go.Proofs.YtcbdbnfgnonacaaGreat.P4

namespace Go.Proofs.YtcbdbnfgnonacaaGreat.P4
open Go.RowKit Go.Shelf

def nofit : Nat → Bool := fun _ => false

def fit2 : Nat → Bool
  | 0 => true
  | 1 => true
  | _ => false

def noX : Nat → Nat → Nat → Option SV := fun _ _ _ => none

abbrev gp0 : SV := .one (.xp 0 0)

abbrev ptE (x y : EX) (i : CX) : SV := .row [.e 1 x, .e 1 y, .s (.cx i)]

abbrev plE (x y : EX) : SV := .row [.e 0 x, .e 0 y]

abbrev v5 (x y z u t : K) : Nat → K
  | 0 => x
  | 1 => y
  | 2 => z
  | 3 => u
  | _ => t

theorem fits2 {x y z u t : K} (hx : Fits x) (hy : Fits y) : ∀ i, fit2 i = true → Fits (v5 x y z u t i)
  | 0, _ => hx
  | 1, _ => hy
  | _ + 2, h => by cases h

abbrev dt (m g p : Nat) (b : K) (v : Nat → K) (i : Bool) : Dt := ⟨m, g, p, b, b, b, 0, v, fun _ => i, 0⟩

section
variable {w : World} {g p m : Nat} {b : K} (HG : GAt w g p m b) (x y z : K)
include HG
theorem call_N (v : Nat → K) (G : List (CX × Bool)) (hG : ∀ x ∈ G, (al (dt m g p b v false)).cx x.1 = x.2) {f : Nat} {fn : Func} (hf : Tryz.prog.funcs[f]? = some fn) {args : List SV} {y : SV} (h : runG nofit G noT noX fn args = some y) :
    Calls Tryz.prog f (args.map ((al (dt m g p b v false)).sv fun _ => 0)).toArray w fun e w' => e = .returned ((al (dt m g p b v false)).sv (fun _ => 0) y) ∧ Below w.heap.size w w' := call_S (dt m g p b v false) nofit G HG (fun _ h => by cases h) hG (noT_ok w) (noL w) hf h _

theorem call_F (v : Nat → K) (i : Bool) (hv : ∀ i, fit2 i = true → Fits (v i)) (G : List (CX × Bool)) (hG : ∀ x ∈ G, (al (dt m g p b v i)).cx x.1 = x.2) {f : Nat} {fn : Func} (hf : Tryz.prog.funcs[f]? = some fn) {args : List SV} {y : SV} (h : runG fit2 G noT noX fn args = some y) :
    Calls Tryz.prog f (args.map ((al (dt m g p b v i)).sv fun _ => 0)).toArray w fun e w' => e = .returned ((al (dt m g p b v i)).sv (fun _ => 0) y) ∧ Below w.heap.size w w' := call_S (dt m g p b v i) fit2 G HG hv hG (noT_ok w) (noL w) hf h _

set_option maxRecDepth 100000
theorem double_any : Calls Tryz.prog 230 #[.pointer (some ⟨g, 0, none⟩), .agg (sc m x y z)] w fun e w' => e = .returned (.agg (scS m (dblS m (x, y, z)))) ∧ Below w.heap.size w w' := by
  have := call_N HG (v5 x y z x x) [] (fun _ h => by cases h) Tryz.func230 (args := [gp0, scE (.v 0, .v 1, .v 2)]) (y := scE (dblE (.v 0) (.v 1) (.v 2))) (by kernel_rfl)
  simp only [scE, Al.sv, List.map_cons, List.map_nil, rw_sc] at this
  exact this

theorem plus_any (a c : K) : Calls Tryz.prog 180 #[.pointer (some ⟨g, 0, none⟩), .agg (sc m x y z), .agg (pl m a c)] w fun e w' => e = .returned (.agg (scS m (plusS m (x, y, z) (a, c)))) ∧ Below w.heap.size w w' := by
  unfold plusS
  by_cases hz : Like m z k0
  · rw [if_pos hz]
    have := call_N HG (v5 x y z a c) [(.lk 0 (.v 2) (.c 0), true)] (fun q h => by simp only [List.mem_singleton] at h; subst h; exact (likeB_eq _ _ _).trans (decide_eq_true hz)) Tryz.func180 (args := [gp0, scE (.v 0, .v 1, .v 2), plE (.v 3) (.v 4)]) (y := scE (.v 3, .v 4, .c 1)) (by kernel_rfl)
    simp only [scE, Al.sv, List.map_cons, List.map_nil, rw_sc, rw_pl] at this
    exact this
  · rw [if_neg hz]
    by_cases hq : Like m (kmul m a (kmul m z z)) x ∧ Like m (kmul m c (kmul m (kmul m z z) z)) y
    · rw [if_pos hq]
      have := call_N HG (v5 x y z a c) [(.lk 0 (.v 2) (.c 0), false), (.lk 0 (.mu (.v 3) (.mu (.v 2) (.v 2))) (.v 0), true), (.lk 0 (.mu (.v 4) (.mu (.mu (.v 2) (.v 2)) (.v 2))) (.v 1), true)] (fun q h => by
        simp only [List.mem_cons, List.not_mem_nil, or_false] at h
        rcases h with rfl | rfl | rfl
        · exact (likeB_eq _ _ _).trans (decide_eq_false hz)
        · exact (likeB_eq _ _ _).trans (decide_eq_true hq.1)
        · exact (likeB_eq _ _ _).trans (decide_eq_true hq.2)) Tryz.func180 (args := [gp0, scE (.v 0, .v 1, .v 2), plE (.v 3) (.v 4)]) (y := scE (dblE (.v 0) (.v 1) (.v 2))) (by kernel_rfl)
      simp only [scE, Al.sv, List.map_cons, List.map_nil, rw_sc, rw_pl] at this
      exact this
    · rw [if_neg hq]
      have := call_N HG (v5 x y z a c) [(.lk 0 (.v 2) (.c 0), false), (.an (.lk 0 (.mu (.v 3) (.mu (.v 2) (.v 2))) (.v 0)) (.lk 0 (.mu (.v 4) (.mu (.mu (.v 2) (.v 2)) (.v 2))) (.v 1)), false)] (fun q h => by
        simp only [List.mem_cons, List.not_mem_nil, or_false] at h
        rcases h with rfl | rfl
        · exact (likeB_eq _ _ _).trans (decide_eq_false hz)
        · show (likeB m _ _ && likeB m _ _) = false
          rw [likeB_eq, likeB_eq, ← Bool.decide_and]
          exact decide_eq_false hq) Tryz.func180 (args := [gp0, scE (.v 0, .v 1, .v 2), plE (.v 3) (.v 4)]) (y := scE (addE (.v 0) (.v 1) (.v 2) (.v 3) (.v 4))) (by kernel_rfl)
      simp only [scE, Al.sv, List.map_cons, List.map_nil, rw_sc, rw_pl] at this
      exact this

theorem at_any (i : Bool) (hx : Fits x) (hy : Fits y) : Calls Tryz.prog 182 #[.pointer (some ⟨g, 0, none⟩), .agg (pt x y i)] w fun e w' => e = .returned (.agg (pl m x y)) ∧ Below w.heap.size w w' := by
  have := call_F HG (v5 x y x x x) i (fits2 hx hy) [] (fun _ h => by cases h) Tryz.func182 (args := [gp0, ptE (.v 0) (.v 1) (.at_ 0)]) (y := plE (.v 0) (.v 1)) (by kernel_rfl)
  simp only [Al.sv, List.map_cons, List.map_nil, rw_pl, rw_pt] at this
  exact this

theorem nowhere_any : Calls Tryz.prog 228 #[.pointer (some ⟨g, 0, none⟩)] w fun e w' => e = .returned (.agg (sc m k1 k1 k0)) ∧ Below w.heap.size w w' := by
  have := call_N HG (v5 b b b b b) [] (fun _ h => by cases h) Tryz.func228 (args := [gp0]) (y := scE (.c 1, .c 1, .c 0)) (by kernel_rfl)
  simp only [scE, Al.sv, List.map_cons, List.map_nil, rw_sc] at this
  exact this

theorem scale_inf : Calls Tryz.prog 181 #[.pointer (some ⟨g, 0, none⟩), .agg (pt x y true)] w fun e w' => e = .returned (.agg (sc m k1 k1 k0)) ∧ Below w.heap.size w w' := by
  have := call_N HG (v5 x y x x x) [] (fun _ h => by cases h) Tryz.func181 (args := [gp0, ptE (.v 0) (.v 1) (.lit true)]) (y := scE (.c 1, .c 1, .c 0)) (by kernel_rfl)
  simp only [scE, Al.sv, List.map_cons, List.map_nil, rw_sc, rw_pt] at this
  exact this

theorem scale_any (hx : Fits x) (hy : Fits y) : Calls Tryz.prog 181 #[.pointer (some ⟨g, 0, none⟩), .agg (pt x y false)] w fun e w' => e = .returned (.agg (sc m x y k1)) ∧ Below w.heap.size w w' := by
  have := call_F HG (v5 x y x x x) false (fits2 hx hy) [] (fun _ h => by cases h) Tryz.func181 (args := [gp0, ptE (.v 0) (.v 1) (.lit false)]) (y := scE (.v 0, .v 1, .c 1)) (by kernel_rfl)
  simp only [scE, Al.sv, List.map_cons, List.map_nil, rw_sc, rw_pt] at this
  exact this

theorem out_zero (hz : Like m z k0) : Calls Tryz.prog 179 #[.pointer (some ⟨g, 0, none⟩), .agg (sc m x y z)] w fun e w' => e = .returned (.agg (pt k0 k0 true)) ∧ Below w.heap.size w w' := by
  have := call_N HG (v5 x y z x x) [(.lk 0 (.v 2) (.c 0), true)] (fun q h => by simp only [List.mem_singleton] at h; subst h; exact (likeB_eq _ _ _).trans (decide_eq_true hz)) Tryz.func179 (args := [gp0, scE (.v 0, .v 1, .v 2)]) (y := ptE (.c 0) (.c 0) (.lit true)) (by kernel_rfl)
  simp only [scE, Al.sv, List.map_cons, List.map_nil, rw_sc, rw_pt] at this
  exact this

theorem out_any (hz : ¬ Like m z k0) : Calls Tryz.prog 179 #[.pointer (some ⟨g, 0, none⟩), .agg (sc m x y z)] w fun e w' => e = .returned (.agg (pt (rest m (kmul m x (kmul m (kinv m z) (kinv m z)))) (rest m (kmul m y (kmul m (kmul m (kinv m z) (kinv m z)) (kinv m z)))) false)) ∧ Below w.heap.size w w' := by
  have := call_N HG (v5 x y z x x) [(.lk 0 (.v 2) (.c 0), false)] (fun q h => by simp only [List.mem_singleton] at h; subst h; exact (likeB_eq _ _ _).trans (decide_eq_false hz)) Tryz.func179 (args := [gp0, scE (.v 0, .v 1, .v 2)]) (y := ptE (.u 2 (.mu (.v 0) (.mu (.u 1 (.v 2)) (.u 1 (.v 2))))) (.u 2 (.mu (.v 1) (.mu (.mu (.u 1 (.v 2)) (.u 1 (.v 2))) (.u 1 (.v 2))))) (.lit false)) (by kernel_rfl)
  simp only [scE, Al.sv, List.map_cons, List.map_nil, rw_sc, rw_pt] at this
  exact this

/-- What is wrong with a point. -/
def goodN (m : Nat) (b x y : K) (i : Bool) : Int :=
  if i = true then (if (decide (x = k0) && (decide (y = k0) && (true == true))) = true then 0 else 70)
  else if rest m x = x then (if rest m y = y then (if Like m (kmul m y y) (kadd m (kmul m (kmul m x x) x) b) then 0 else 71) else 70) else 70

theorem good_G (hx : Fits x) (hy : Fits y) (i : Bool) (G : List (CX × Bool)) (k : Int) (hG : ∀ q ∈ G, (al (dt m g p b (v5 x y x x x) i)).cx q.1 = q.2) (h : runG fit2 G noT noX Tryz.f111 [gp0, ptE (.v 0) (.v 1) (.lit i)] = some (.one (.v (.int .i64 k)))) :
    Calls Tryz.prog 111 #[.pointer (some ⟨g, 0, none⟩), .agg (pt x y i)] w fun e w' => e = .returned (.int .i64 k) ∧ Below w.heap.size w w' := by
  have := call_F HG (v5 x y x x x) i (fits2 hx hy) G hG Tryz.func111 h
  simp only [Al.sv, List.map_cons, List.map_nil, rw_pt] at this
  exact this

theorem good_any (hx : Fits x) (hy : Fits y) (i : Bool) : Calls Tryz.prog 111 #[.pointer (some ⟨g, 0, none⟩), .agg (pt x y i)] w fun e w' => e = .returned (.int .i64 (goodN m b x y i)) ∧ Below w.heap.size w w' := by
  unfold goodN
  cases i with
  | true =>
    rw [if_pos rfl]
    by_cases h : (decide (x = k0) && (decide (y = k0) && (true == true))) = true
    · rw [if_pos h]
      have h' : x = k0 ∧ y = k0 := by simpa using h
      exact good_G HG x y hx hy true [(.lk 1 (.v 0) (.c 0), true), (.lk 1 (.v 1) (.c 0), true)] 0 (fun q hq => by
        simp only [List.mem_cons, List.not_mem_nil, or_false] at hq
        rcases hq with rfl | rfl
        · exact decide_eq_true h'.1
        · exact decide_eq_true h'.2) (by kernel_rfl)
    · rw [if_neg h]
      have h' : ¬ (x = k0 ∧ y = k0) := by simpa using h
      exact good_G HG x y hx hy true [(.an (.lk 1 (.v 0) (.c 0)) (.lk 1 (.v 1) (.c 0)), false)] 70 (fun q hq => by
        simp only [List.mem_singleton] at hq
        subst hq
        show (decide (x = k0) && decide (y = k0)) = false
        rw [← Bool.decide_and]
        exact decide_eq_false h') (by kernel_rfl)
  | false =>
    rw [if_neg (by decide)]
    by_cases h1 : rest m x = x
    · rw [if_pos h1]
      by_cases h2 : rest m y = y
      · rw [if_pos h2]
        by_cases h3 : Like m (kmul m y y) (kadd m (kmul m (kmul m x x) x) b)
        · rw [if_pos h3]
          exact good_G HG x y hx hy false [(.lk 1 (.u 2 (.v 0)) (.v 0), true), (.lk 1 (.u 2 (.v 1)) (.v 1), true), (.lk 0 (.mu (.v 1) (.v 1)) (.ad (.mu (.mu (.v 0) (.v 0)) (.v 0)) (.c 2)), true)] 0 (fun q hq => by
            simp only [List.mem_cons, List.not_mem_nil, or_false] at hq
            rcases hq with rfl | rfl | rfl
            · exact decide_eq_true h1
            · exact decide_eq_true h2
            · exact (likeB_eq _ _ _).trans (decide_eq_true h3)) (by kernel_rfl)
        · rw [if_neg h3]
          exact good_G HG x y hx hy false [(.lk 1 (.u 2 (.v 0)) (.v 0), true), (.lk 1 (.u 2 (.v 1)) (.v 1), true), (.lk 0 (.mu (.v 1) (.v 1)) (.ad (.mu (.mu (.v 0) (.v 0)) (.v 0)) (.c 2)), false)] 71 (fun q hq => by
            simp only [List.mem_cons, List.not_mem_nil, or_false] at hq
            rcases hq with rfl | rfl | rfl
            · exact decide_eq_true h1
            · exact decide_eq_true h2
            · exact (likeB_eq _ _ _).trans (decide_eq_false h3)) (by kernel_rfl)
      · rw [if_neg h2]
        exact good_G HG x y hx hy false [(.lk 1 (.u 2 (.v 0)) (.v 0), true), (.lk 1 (.u 2 (.v 1)) (.v 1), false)] 70 (fun q hq => by
          simp only [List.mem_cons, List.not_mem_nil, or_false] at hq
          rcases hq with rfl | rfl
          · exact decide_eq_true h1
          · exact decide_eq_false h2) (by kernel_rfl)
    · rw [if_neg h1]
      exact good_G HG x y hx hy false [(.lk 1 (.u 2 (.v 0)) (.v 0), false)] 70 (fun q hq => by
        simp only [List.mem_singleton] at hq
        subst hq
        exact decide_eq_false h1) (by kernel_rfl)

end

end Go.Proofs.YtcbdbnfgnonacaaGreat.P4

namespace Go.Proofs.YtcbdbnfgnonacaaGreat
open Go.RowKit Go.Shelf

attribute [local go_sem] Oper.semAt_some

/-- How many bits a number has. -/
def bl (k : Nat) : Nat := if k = 0 then 0 else k.log2 + 1

theorem bl_iff (k i : Nat) : i < bl k ↔ 2 ^ i ≤ k := by
  unfold bl
  by_cases h : k = 0
  · subst h
    rw [if_pos rfl]
    have := Nat.two_pow_pos i
    omega
  · rw [if_neg h, ← Nat.le_log2 h]
    omega

theorem bl_lt (k : Nat) : k < 2 ^ bl k := by
  rcases Nat.lt_or_ge k (2 ^ bl k) with h | h
  · exact h
  · exact absurd ((bl_iff k (bl k)).2 h) (Nat.lt_irrefl _)

theorem bl_le {k n : Nat} (h : k < 2 ^ n) : bl k ≤ n := by
  rcases Nat.lt_or_ge n (bl k) with h' | h'
  · exact absurd ((bl_iff k n).1 h') (by omega)
  · exact h'

/-- The bit that comes behind q others. -/
def bitq (k q : Nat) : Bool := decide (k / 2 ^ (bl k - 1 - q) % 2 = 1)

theorem limb_bit9 (k i : Nat) : limb k (i / 64) / 2 ^ (i % 64) % 2 = k / 2 ^ i % 2 := by
  unfold limb
  have e : (18446744073709551616 : Nat) = 2 ^ 64 := by decide
  have h : i = 64 * (i / 64) + i % 64 := by omega
  have hm : i % 64 < 64 := Nat.mod_lt _ (by decide)
  generalize i / 64 = a at *
  generalize i % 64 = b at *
  subst h
  rw [e, ← Nat.pow_mul, Nat.pow_add, ← Nat.div_div_eq_div_mul]
  generalize k / 2 ^ (64 * a) = x
  have e2 : (2 : Nat) ^ 64 = 2 ^ b * (2 * 2 ^ (63 - b)) := by rw [← Nat.mul_assoc, Nat.mul_comm (2 ^ b) 2, ← Nat.pow_succ', ← Nat.pow_add]; congr 1; omega
  rw [e2, Nat.mod_mul_right_div_self, Nat.mod_mul_right_mod]

theorem top_bit {k n : Nat} (h : k < 2 ^ (n + 1)) : k / 2 ^ n % 2 = 1 ↔ n < bl k := by
  rw [bl_iff]
  have h2 : k / 2 ^ n < 2 := (Nat.div_lt_iff_lt_mul (Nat.two_pow_pos n)).2 (by rw [Nat.pow_succ] at h; omega)
  rw [Nat.mod_eq_of_lt h2]
  constructor
  · intro h1
    have := Nat.div_mul_le_self k (2 ^ n)
    rw [h1] at this
    omega
  · intro h1
    have : 1 ≤ k / 2 ^ n := (Nat.le_div_iff_mul_le (Nat.two_pow_pos n)).2 (by omega)
    omega

/-- The word that the iterator reads. -/
def RowK (B k : Nat) (W : World) : Prop := W.heap[B]? = some (.cells (W4.cs (limb k)) 65 (0, 0))

def KpK (B k : Nat) (W W' : World) : Prop := RowK B k W → RowK B k W'

set_option maxHeartbeats 2000000 in
set_option maxRecDepth 100000 in
theorem bits1_any (m : Nat) (hm : 1 ≤ m) (l B k : Nat) (hk : k < 2 ^ 256) (J : Nat → World → Prop) (Jx : World → Prop)
    (hY : ∀ (q : Nat) (V : World), q < bl k → J q V → YieldAt Fence.wide (m - 1) Tryz.prog l #[.bool (bitq k q)] V fun e V' => (e = .returned (.bool true) ∧ J (q + 1) V' ∧ KpK B k V V') ∨ (e = .returned (.bool false) ∧ Jx V'))
    (W : World) (hr : RowK B k W) (h0 : J 0 W) :
    CallsIn Fence.wide m Tryz.prog 251 #[.func (.yield l) #[] #[], .pointer (some ⟨B, 0, none⟩)] W fun e W' => (∃ v, e = .returned v) ∧ (J (bl k) W' ∨ Jx W') := by
  have HR := hideP hr
  have HY := hideP hY
  have HL := hideP (bl_le hk)
  clear hY hr hk
  refine callsIn_of_wp Tryz.func251 rfl trivial ?_ rfl
  simp only [Tryz.ntmps251, List.size_toArray, List.length_cons, List.length_nil, Nat.reduceAdd, Nat.reduceSub, Array.replicate_succ, Array.replicate_zero, List.push_toArray, List.append_toArray, List.nil_append, List.cons_append]
  gi_wp2
  gi_loopw [3, 4] (fun b i wr => ∃ n : Nat, n ≤ 256 ∧ b = .bool (decide (n < bl k)) ∧ i = .int .i64 ((n : Int) - 1) ∧ J (bl k - n) wr ∧ Hid (RowK B k wr)) (fun _ i _ => (intOf i + 1).toNat)
  case atStart =>
    have := HL.out
    exact ⟨256, Nat.le_refl _, by rw [decide_eq_false (by omega)], rfl, by rw [show bl k - 256 = 0 by omega]; exact h0, HR⟩
  case round =>
    obtain ⟨n, hn, rfl, rfl, hJ, hR⟩ := hrel
    cases n with
    | zero =>
      have HJ := hideP hJ
      clear hJ
      gi_wp2
      go_end0
      exact ⟨⟨_, rfl⟩, .inl HJ.out⟩
    | succ i =>
      have hi : ((i + 1 : Nat) : Int) - 1 = (i : Int) := by omega
      rw [hi]
      have hcell : wr.cell? ⟨B, i / 64, none⟩ = some (.int .u64 (limb k (i / 64))) := by
        have h4 : i / 64 < 4 := by omega
        refine blk_cell hR.out ?_
        match i / 64, h4 with
        | 0, _ => rfl
        | 1, _ => rfl
        | 2, _ => rfl
        | 3, _ => rfl
      have hge : (0 : Int) ≤ (i : Int) := by omega
      have hw1 : wrap64 ((i : Int) / 64) = ((i / 64 : Nat) : Int) := by unfold wrap64; omega
      have hw3 : IntKind.i64.wrap ((i : Int) - 1) = (i : Int) - 1 := by rw [IntKind.wrap_i64]; omega
      have hix : ((i / 64 : Nat) : Int) < 4 := by omega
      have hset : (Int.tmod ((limb k (i / 64) : Int) / 2 ^ (i % 64)) 2 == (1 : Int)) = decide (k / 2 ^ i % 2 = 1) := by
        have e : ((limb k (i / 64) : Int) / 2 ^ (i % 64)) = ((limb k (i / 64) / 2 ^ (i % 64) : Nat) : Int) := by simp
        rw [e, Int.tmod_eq_emod_of_nonneg (Int.natCast_nonneg _), ← limb_bit9, Bool.eq_iff_iff, beq_iff_eq, decide_eq_true_eq]
        omega
      have HN : Hid (i ≤ 256) := Nat.le_of_succ_le hn
      have HMJ : Hid (i + 1 ≤ 256) := hn
      have HTB := hideP (fun h : bl k ≤ i + 1 => top_bit (n := i) (Nat.lt_of_lt_of_le (bl_lt k) (Nat.pow_le_pow_right (by decide) h)))
      have HEX : Hid (((i : Int) - 1) = ((i : Nat) : Int) - 1) := rfl
      generalize limb k (i / 64) = x at *
      generalize hqq : i / 64 = q at *
      have HQQ := hideP hqq
      clear hqq hn
      rcases Nat.lt_or_ge i (bl k) with hc | hc
      · have hyy := HY.out (bl k - (i + 1)) wr (by omega) hJ
        have hbq : bitq k (bl k - (i + 1)) = decide (k / 2 ^ i % 2 = 1) := by unfold bitq; rw [show bl k - 1 - (bl k - (i + 1)) = i by omega]
        rw [hbq] at hyy
        obtain ⟨fn, tmps, assign, body, hy, hRd⟩ := hyy
        have HC := hideP hc
        have H1 : Hid (decide (i < bl k) = true) := decide_eq_true hc
        have H2 : Hid (bl k - (i + 1) + 1 = bl k - i) := (by omega : bl k - (i + 1) + 1 = bl k - i)
        have hb2 : (decide (i + 1 < bl k) = true) ∨ (decide (i + 1 < bl k) = false ∧ decide (k / 2 ^ i % 2 = 1) = true) := by
          rcases Nat.lt_or_ge (i + 1) (bl k) with h | h
          · exact .inl (decide_eq_true h)
          · exact .inr ⟨decide_eq_false (by omega), decide_eq_true ((HTB.out h).2 hc)⟩
        clear HTB hbq hJ hc
        generalize decide (k / 2 ^ i % 2 = 1) = bb at *
        generalize decide (i + 1 < bl k) = bg at *
        have fin : ∀ (e : Ending) (W3 : World), ((e = .returned (.bool true) ∧ J (bl k - (i + 1) + 1) W3 ∧ KpK B k wr W3) ∨ (e = .returned (.bool false) ∧ Jx W3)) → True := fun _ _ _ => trivial
        clear fin
        rcases hb2 with rfl | ⟨rfl, rfl⟩
        · gi_wp2
          refine hRd.mono ?_
          rintro e W3 (⟨rfl, hJ3, hk3⟩ | ⟨rfl, hJx3⟩)
          · have HR3 := hideP (hk3 hR.out)
            have HJ3 := hideP hJ3
            clear hJ3 hk3 hRd hcell
            gi_wp2
            exact ⟨⟨i, HN.out, by rw [H1.out], rfl, by rw [← H2.out]; exact HJ3.out, HR3⟩, by simp [intOf]⟩
          · gi_wp2
            refine bodyPost_ret (results_none rfl _ _ _) rfl ?_
            exact ⟨⟨_, rfl⟩, .inr hJx3⟩
        · gi_wp2
          refine hRd.mono ?_
          rintro e W3 (⟨rfl, hJ3, hk3⟩ | ⟨rfl, hJx3⟩)
          · have HR3 := hideP (hk3 hR.out)
            have HJ3 := hideP hJ3
            clear hJ3 hk3 hRd hcell
            gi_wp2
            exact ⟨⟨i, HN.out, by rw [H1.out], rfl, by rw [← H2.out]; exact HJ3.out, HR3⟩, by simp [intOf]⟩
          · gi_wp2
            refine bodyPost_ret (results_none rfl _ _ _) rfl ?_
            exact ⟨⟨_, rfl⟩, .inr hJx3⟩
      · have h1 : decide (i + 1 < bl k) = false := decide_eq_false (by omega)
        have h2 : decide (k / 2 ^ i % 2 = 1) = false := decide_eq_false (fun h => by have := (HTB.out (by omega)).1 h; omega)
        have H1 : Hid (decide (i < bl k) = false) := decide_eq_false (by omega)
        have H2 : Hid (bl k - (i + 1) = bl k - i) := (by omega : bl k - (i + 1) = bl k - i)
        have HJ := hideP hJ
        rw [h2] at hset
        rw [h1]
        clear h1 h2 HTB hJ hc
        gi_wp2
        refine ⟨fun f h => (by cases h), ?_⟩
        gi_wp2
        exact ⟨⟨i, HN.out, by rw [H1.out], rfl, by rw [← H2.out]; exact HJ.out, hR⟩, by simp [intOf]⟩

/-- The iterator over a word's bits. -/
theorem bits_gives (m : Nat) (hm : 1 ≤ m) (B k : Nat) (hk : k < 2 ^ 256) (w : World) (hr : RowK B k w) :
    Gives m Tryz.prog 251 #[.pointer (some ⟨B, 0, none⟩)] (fun q => #[.bool (bitq k q)]) (bl k) (KpK B k) w := by
  intro l J Jx W hW _ _ hY h0
  exact bits1_any m hm l B k hk J Jx hY W (below_other hW hr) h0

set_option maxHeartbeats 1000000 in
set_option maxRecDepth 100000 in
theorem bits_any (k : Nat) (w : World) : Calls Tryz.prog 229 #[.agg (W4.cs (limb k))] w fun e w' => e = .returned (.func (.func 251) #[] #[.pointer (some ⟨w.heap.size, 0, none⟩)]) ∧ w' = w.alloc (.cells (W4.cs (limb k)) 65) := by
  rw [show W4.cs (limb k) = #[.int .u64 (limb k 0), .int .u64 (limb k 1), .int .u64 (limb k 2), .int .u64 (limb k 3)] from rfl]
  go_enter Tryz.func229, Tryz.ntmps229
  go_wp2
  go_ret
  exact ⟨rfl, rfl⟩

end Go.Proofs.YtcbdbnfgnonacaaGreat

namespace Go.Proofs.YtcbdbnfgnonacaaGreat.P4
open Go.RowKit Go.Shelf

theorem double_S {w : World} {g p m : Nat} {b : K} (hG : GAt w g p m b) (s : T3) : Calls Tryz.prog 230 #[.pointer (some ⟨g, 0, none⟩), .agg (scS m s)] w fun e w' => e = .returned (.agg (scS m (dblS m s))) ∧ Below w.heap.size w w' :=
  double_any hG s.1 s.2.1 s.2.2

theorem plus_S {w : World} {g p m : Nat} {b : K} (hG : GAt w g p m b) (s : T3) (q : K × K) : Calls Tryz.prog 180 #[.pointer (some ⟨g, 0, none⟩), .agg (scS m s), .agg (pl m q.1 q.2)] w fun e w' => e = .returned (.agg (scS m (plusS m s q))) ∧ Below w.heap.size w w' :=
  plus_any hG s.1 s.2.1 s.2.2 q.1 q.2

/-- One bit more. -/
def stepS (m : Nat) (q : K × K) (bit : Bool) (s : T3) : T3 := red m (if bit = true then plusS m (red m (dblS m s)) q else dblS m s)

/-- A point so many times, by the bits of k: behind j bits. -/
def timesJ (m : Nat) (q : K × K) (k : Nat) : Nat → T3
  | 0 => (k1, k1, k0)
  | j + 1 => stepS m q (bitq k j) (timesJ m q k j)

def timesS (m : Nat) (q : K × K) (k : Nat) : T3 := timesJ m q k (bl k)

end Go.Proofs.YtcbdbnfgnonacaaGreat.P4
