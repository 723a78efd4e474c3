/-
 A point's bytes.
-/
import Derived.Test.YtcbdbnfgnonacaaGreatCurveBn1C25
set_option maxHeartbeats 4000000
set_option maxRecDepth 100000
namespace Go.Proofs.YtcbdbnfgnonacaaGreat.Q6
open Go.RowKit Go.Shelf
def szq : Nat → Nat := fun _ => 6
noncomputable abbrev alq (m p : Nat) (v : Nat → Nat) : Al szq where
 K := Nat
 v := v
 c := fun _ => 0
 u := fun _ x => x
 b := fun _ x _ => x
 cells := fun k x => match k with
  | 0 => P6.ev m x
  | _ => P6.nv x
 hs := fun k x => match k with
  | 0 => P6.ZaF m x
  | _ + 1 => P6.Zao x
 h1 := fun k x => match k with
  | 0 => P6.Zb4 m x
  | _ + 1 => P6.Zba x
 lk := fun _ _ _ => false
 bo := fun _ => false
 xb := fun _ => p
 ov := fun _ => .bool false
 ho := fun _ => ⟨rfl, rfl⟩
def rT (fl : Nat → Bool) (f : Nat) (xs : List SV) : Option SV := match xs with
 | [.one (.xp 0 0), .row [.e 1 (.v i)]] => if f = 211 ∧ fl i = true then some (.row [.e 0 (.v i)]) else none
 | _ => none
section
variable {w : World} {p m : Nat} (hG : RAt w p m) {fl : Nat → Bool} (v : Nat → Nat)
theorem h_e (x : EX) (β : Nat → Nat) : ((alq m p v).rw β [.e 0 x]).toArray = P6.ev m ((alq m p v).d x) := by simp [Al.rw, Al.ch, alq]
theorem h_n (x : EX) (β : Nat → Nat) : ((alq m p v).rw β [.e 1 x]).toArray = P6.nv ((alq m p v).d x) := by simp [Al.rw, Al.ch, alq]
include hG
theorem Zni (hv : ∀ i, fl i = true → P6.Fits (v i)) : TOK Tryz.prog (alq m p v) (rT fl) w := fun f xs y β V h hV => by
 have H := (hG.below hV).ok
 unfold rT at h
 split at h
 ·
  split at h
  ·
   rename_i e; obtain ⟨rfl, hi⟩ := e; cases h; refine ⟨en Tryz.func211, ?_⟩; simp only [Al.sv, List.map_cons, List.map_nil, h_e, h_n]; exact P6.c_In H _ (hv _ hi)
  ·
   cases h
 ·
  cases h
theorem ZjR (hv : ∀ i, fl i = true → P6.Fits (v i)) {f : Nat} {fn : Func} (hf : Tryz.prog.funcs[f]? = some fn) {args : List SV} {y : SV} (h : runS Tryz.prog szq (env0 (rT fl)) fn 100 args = some y) : Calls Tryz.prog f (args.map ((alq m p v).sv fun _ => 0)).toArray w fun e w' => e = .returned ((alq m p v).sv (fun _ => 0) y) ∧ Below w.heap.size w w' :=
 ZfQ (by kernel_rfl) (ZcY (Zni hG v hv)) hf h
end
abbrev rcE : SV := .row [.s (.xp 0 0)]
def qv (x y : K) : Nat → Nat
 | 0 => x.1
 | 1 => x.2
 | 2 => y.1
 | _ => y.2
section
variable {p m : Nat} {v : Nat → Nat}
theorem Zn2 : (alq m p v).sv (fun _ => 0) rcE = .agg #[.pointer (some ⟨p, 0, none⟩)] := rfl
theorem sq_e (x y : EX) : (alq m p v).sv (fun _ => 0) (.row [.e 0 x, .e 0 y]) = .agg (ev m ((alq m p v).d x, (alq m p v).d y)) := by
 rw [Al.sv, Zb0]
 congr 1
 apply Array.toList_inj.1
 simp [Al.rw, Al.ch]
theorem sq_n (x y : EX) : (alq m p v).sv (fun _ => 0) (.row [.e 1 x, .e 1 y]) = .agg (nv ((alq m p v).d x, (alq m p v).d y)) := by
 rw [Al.sv, Za3]
 congr 1
 apply Array.toList_inj.1
 simp [Al.rw, Al.ch]
end
set_option maxRecDepth 100000
theorem qIn {w : World} {p m : Nat} (hG : RAt w p m) (x : K) (hx : Fits x) : Calls Tryz.prog 303 #[.agg #[.pointer (some ⟨p, 0, none⟩)], .agg (nv x)] w fun e w' => e = .returned (.agg (ev m (x))) ∧ Below w.heap.size w w' := by
 have := ZjR hG (fl := fun i => i == 0 || i == 1) (qv x x) (fun i h => by match i, h with | 0, _ => exact hx.1 | 1, _ => exact hx.2) Tryz.func303 (args := [rcE, .row [.e 1 (.v 0), .e 1 (.v 1)]]) (y := .row [.e 0 (.v 0), .e 0 (.v 1)]) (by kernel_rfl)
 simp only [List.map_cons, List.map_nil, Zn2, sq_e, sq_n] at this
 exact this
def ifv (p : Nat) : Value := .iface 151 (.agg #[.pointer (some ⟨p, 0, none⟩)])
def rcv (p : Nat) : Value := .agg #[.pointer (some ⟨p, 0, none⟩)]
section
variable (p : Nat) (a b : Value) (w : World)
set_option maxRecDepth 100000
theorem ZgF : (callMethod (ifv p) "In" #[a]).run Tryz.prog w = .ok (.enter 303 #[rcv p, a]) w := by kernel_rfl
theorem ZgG : (nilAhead (Tryz.prog.types.size + Made.depth) 151 (rcv p) "In").run Tryz.prog w = .ok (some false) w := by kernel_rfl
end
theorem RAt.of {w : World} {p m : Nat} (h : FOK w p m) : RAt w p m := by
 obtain ⟨f, h1, h2⟩ := h.ex
 exact ⟨h, h2.lt⟩
section
variable {w : World} {p m : Nat} (hg : FOK w p m) (x y : K)
include hg
theorem c_In (hx : Fits x) : Calls Tryz.prog 303 #[rcv p, .agg (nv x)] w fun e w' => e = .returned (.agg (ev m x)) ∧ Below w.heap.size w w' := qIn (RAt.of hg) x hx
end
theorem Zfl : Fits k0 := ⟨P6.Zfl, P6.Zfl⟩
structure GAt (w : World) (g p m : Nat) (b : K) : Prop where
 fld : w.cell? ⟨g, 0, none⟩ = some (ifv p)
 zero : w.rangeAt g 1 (ev m k0).toList
 one : w.rangeAt g (1 + 12) (ev m k1).toList
 b : w.rangeAt g (1 + 2 * 12) (ev m b).toList
 ok : FOK w p m
 glt : g < w.heap.size
 plt : p < w.heap.size
theorem Zay {w w' : World} {g o : Nat} {l : List Value} (h : w'.heap[g]? = w.heap[g]?) (hr : w.rangeAt g o l) : w'.rangeAt g o l := fun j v hv => by
 have := hr j v hv
 unfold World.cell? at this ⊢
 rw [h]
 exact this
theorem GAt.same {w w' : World} {g p m : Nat} {b : K} (h : GAt w g p m b) (hg : w'.heap[g]? = w.heap[g]?) (hp : w'.heap[p]? = w.heap[p]?) (hs : w.heap.size ≤ w'.heap.size) : GAt w' g p m b :=
 ⟨by have := h.fld; unfold World.cell? at this ⊢; rw [hg]; exact this, Zay hg h.zero, Zay hg h.one, Zay hg h.b, h.ok.of_same hp, Nat.lt_of_lt_of_le h.glt hs, Nat.lt_of_lt_of_le h.plt hs⟩
theorem GAt.below {w w' : World} {g p m : Nat} {b : K} (h : GAt w g p m b) (hb : Below w.heap.size w w') : GAt w' g p m b := h.same (hb.block _ h.glt) (hb.block _ h.plt) hb.size
def zn : Array Value := Array.replicate 12 (.int .u64 0)
noncomputable def pt (x y : K) (i : Bool) : Array Value := Classical.choose (⟨_, rfl⟩ : ∃ C : Array Value, C = nv x ++ (nv y ++ #[.bool i]))
theorem Zbh (x y : K) (i : Bool) : pt x y i = nv x ++ (nv y ++ #[.bool i]) := Classical.choose_spec (⟨_, rfl⟩ : ∃ C : Array Value, C = nv x ++ (nv y ++ #[.bool i]))
theorem ZcB : nv k0 = zn := by first | (rw [Za3]; rfl) | (rw [Za3, P6.Za3, P6.Za3]; rfl)
def sz : Nat → Nat
 | 2 => 4
 | _ => 12
structure Dt where
 m : Nat
 g : Nat
 p : Nat
 b : K
 bx : K
 bY : K
 kw : Nat
 v : Nat → K
 bo : Nat → Bool
 cv : Nat
noncomputable abbrev al (D : Dt) : Al sz where
 K := K
 v := D.v
 c := fun _ => k0
 u := fun _ x => x
 b := fun _ x _ => x
 cells := fun k x => match k with
  | 0 => ev D.m x
  | 2 => W4.cs (limb D.kw)
  | _ => nv x
 hs := fun k x => match k with
  | 0 => ZaF D.m x
  | 1 => Zao x
  | 2 => rfl
  | _ + 3 => Zao x
 h1 := fun k x => match k with
  | 0 => Zb4 D.m x
  | 1 => Zba x
  | 2 => W4.one _
  | _ + 3 => Zba x
 lk := fun _ _ _ => true
 bo := D.bo
 xb := fun _ => D.g
 ov := fun _ => ifv D.p
 ho := fun _ => ⟨rfl, rfl⟩
def ft (fl : Nat → Bool) : EX → Bool
 | .v i => fl i
 | .c 0 => true
 | _ => false
def eI (fl : Nat → Bool) (s : String) (xs : List SV) : Option SV := match xs with
 | [.one (.ov _), .row [.e 1 x]] => if s = "In" ∧ ft fl x = true then some (.row [.e 0 x]) else none
 | _ => none
abbrev zE : Ch := .e 1 (.c 0)
abbrev fE : Ch := .s (.cx (.lit false))
abbrev zI : Ch := .s (.v (.int .u64 0))
def eZ (t : Nat) : Option (List Ch) := if t = 56 then some [zE] else if t = 258 then some [.s (.v .nilIface), zE, zE, zE, zE, zE, fE, zI, zI, zI, zI] else none
structure FAt (w : World) (p m : Nat) : Prop where
 ok : FOK w p m
 plt : p < w.heap.size
theorem FAt.below {w w' : World} {p m : Nat} (h : FAt w p m) (hb : Below w.heap.size w w') : FAt w' p m := ⟨h.ok.of_same (hb.block _ h.plt), Nat.lt_of_lt_of_le h.plt hb.size⟩
def envF (fl : Nat → Bool) (G : List (CX × Bool)) (X : Nat → List SV → Option SV) (XL : Nat → Nat → Nat → Option SV) (T : Nat → List SV → Option SV) : Env := ⟨aheadT X T, eI fl, XL, eZ, fun _ _ _ => none, G, fun s _ => s == "In"⟩
section
variable {D : Dt} {β : Nat → Nat}
theorem rw_w (x : EX) : ((al D).rw β [.e 2 x]).toArray = W4.cs (limb D.kw) := by simp [Al.rw, Al.ch]
end
def XLOK {sz : Nat → Nat} (A : Al sz) (XL : Nat → Nat → Nat → Option SV) (w : World) : Prop := ∀ i q t y β V, XL i q t = some y → Below w.heap.size w V → (loadVar t ⟨A.xb i, q, none⟩).run Tryz.prog V = .ok (A.sv β y) V
theorem XLOK.mono {sz : Nat → Nat} {A : Al sz} {XL : Nat → Nat → Nat → Option SV} {w V : World} (h : XLOK A XL w) (hV : Below w.heap.size w V) : XLOK A XL V := fun i q t y β U e hU => h i q t y β U e (hV.trans (hU.mono hV.size))
theorem z_ok {D : Dt} {t : Nat} {l : List Ch} (β : Nat → Nat) (V : World) (h : eZ t = some l) : ∃ z, (zeroValue t).run Tryz.prog V = .ok z V ∧ z.cells = ((al D).rw β l).toArray := by
 have hz : ((al D).ch β zE) = zn.toList := by
  show (nv k0).toList = _
  rw [ZcB]
 unfold eZ at h
 split at h
 ·
  rename_i hc
  subst hc
  cases h
  refine ⟨.agg zn, by kernel_rfl, ?_⟩
  simp only [Al.rw, hz]
  rfl
 rename_i hc
 clear hc
 split at h
 ·
  rename_i hc
  subst hc
  cases h
  refine ⟨.agg (#[.nilIface] ++ zn ++ zn ++ zn ++ zn ++ zn ++ #[.bool false] ++ Array.replicate 4 (.int .u64 0)), by kernel_rfl, ?_⟩
  simp only [Al.rw, hz]
  rfl
 ·
  cases h
theorem Zdc {D : Dt} {fl : Nat → Bool} (hv : ∀ i, fl i = true → Fits (D.v i)) {x : EX} (h : ft fl x = true) : Fits ((al D).d x) := by
 unfold ft at h
 split at h
 ·
  exact hv _ h
 ·
  exact Zfl
 ·
  cases h
theorem Zb9 {w : World} {D : Dt} {fl : Nat → Bool} {G : List (CX × Bool)} {X T : Nat → List SV → Option SV} {XL : Nat → Nat → Nat → Option SV} (HG : FAt w D.p D.m) (hv : ∀ i, fl i = true → Fits (D.v i)) (hG : ∀ x ∈ G, (al D).cx x.1 = x.2) (hX : TOK Tryz.prog (al D) X w) (hL : XLOK (al D) XL w) (hT : TOK Tryz.prog (al D) T w) : EnvOK Tryz.prog (al D) (envF fl G X XL T) w where
 G := hG
 F := fun s i h => by
  refine ⟨_, _, rfl, fun V => ?_⟩
  simp only [envF, beq_iff_eq] at h
  subst h
  exact ZgG D.p V
 T := Zdy hX hT
 I := fun s xs y β V h hV => by
  have hF := (HG.below hV).ok
  have h : eI fl s xs = some y := h
  unfold eI at h
  split at h
  ·
   split at h
   ·
    cases h; rename_i hs; obtain ⟨rfl, hx⟩ := hs; exact ⟨_, _, ZgF D.p _ V, by simpa [Al.sv, Al.rw, Al.ch, al, Al.d] using c_In hF _ (Zdc hv hx)⟩
   ·
    cases h
  ·
   cases h
 X := hL
 Z := fun t l β V h => z_ok β V h
 E := fun t l k c β V h => by cases h
def tab : Nat → Option Func := fun _ => none
theorem Zee : TabOK Tryz.prog tab := fun _ _ h => by cases h
theorem mixed : Tryz.prog.follows .mixedOrders = true := by kernel_rfl
theorem ZfW {w : World} {D : Dt} {fl : Nat → Bool} {G : List (CX × Bool)} {X : Nat → List SV → Option SV} {XL : Nat → Nat → Nat → Option SV} (HG : FAt w D.p D.m) (hv : ∀ i, fl i = true → Fits (D.v i)) (hG : ∀ x ∈ G, (al D).cx x.1 = x.2) (hX : TOK Tryz.prog (al D) X w) (hL : XLOK (al D) XL w) : EnvOK Tryz.prog (al D) (envF fl G X XL (Tk Tryz.prog sz (envF fl G X XL) tab 6)) w :=
 Zb9 HG hv hG hX hL (ZiM (A := al D) mixed Zee (fun _ _ hV hT => Zb9 (HG.below hV) hv hG (hX.mono hV) (hL.mono hV) hT) 6 w (Below.refl _ _))
theorem noL {A : Al sz} (w : World) : XLOK A (fun _ _ _ => none) w := fun _ _ _ _ _ _ h => by cases h
def fit2 : Nat → Bool
 | 0 => true
 | 1 => true
 | _ => false
def noX : Nat → Nat → Nat → Option SV := fun _ _ _ => none
abbrev v5 (x y z u t : K) : Nat → K
 | 0 => x
 | 1 => y
 | 2 => z
 | 3 => u
 | _ => t
theorem fits2 {x y z u t : K} (hx : Fits x) (hy : Fits y) : ∀ i, fit2 i = true → Fits (v5 x y z u t i)
 | 0, _ => hx
 | 1, _ => hy
 | _ + 2, h => by cases h
section
variable {w : World} {g p m : Nat} {b : K} (HG : GAt w g p m b) (x y z : K)
include HG
set_option maxRecDepth 100000
end
attribute [local go_sem] Oper.semAt_some
structure GB (w : World) (g : Nat) (x y : K) (k : Nat) : Prop where
 base : w.rangeAt g (1 + 3 * 12) (pt x y false).toList
 ord : w.rangeAt g (2 + 5 * 12) (W4.cs (limb k)).toList
 lt : g < w.heap.size
theorem GB.below {w w' : World} {g k : Nat} {x y : K} (h : GB w g x y k) (hb : Below w.heap.size w w') : GB w' g x y k :=
 ⟨Zay (hb.block _ h.lt) h.base, Zay (hb.block _ h.lt) h.ord, Nat.lt_of_lt_of_le h.lt hb.size⟩
structure CAt (w : World) (c g p m : Nat) (b bx bY : K) (k : Nat) : Prop where
 at_ : w.cell? ⟨c, 2, none⟩ = some (.pointer (some ⟨g, 0, none⟩))
 ga : GAt w g p m b
 gb : GB w g bx bY k
 clt : c < w.heap.size
end Go.Proofs.YtcbdbnfgnonacaaGreat.Q6
namespace Go.Proofs.YtcbdbnfgnonacaaGreat.W4
open Go.RowKit Go.Shelf
theorem Zka (X : Nat) (w : World) : Calls Tryz.prog 135 #[wv X] w fun r w' => (∃ g, r = .returned (.slice (some ⟨g, 0, none⟩) 32 32) ∧ w'.heap[g]? = some (.cells (cb 32 (fun j => byt X (32 - 1 - j))) 5 (0, 0))) ∧ Below w.heap.size w w' := by
 have hmk : (Instr.makeSlice 93 (.int .i64 (32 : Int)) (.int .i64 (32 : Int))).run Tryz.prog (w.alloc (.cells #[.int .u64 (limb X 0), .int .u64 (limb X 1), .int .u64 (limb X 2), .int .u64 (limb X 3)] 32 (0, 0))) = .ok (.slice (some ⟨w.heap.size + 1, 0, none⟩) 32 32) ((w.alloc (.cells #[.int .u64 (limb X 0), .int .u64 (limb X 1), .int .u64 (limb X 2), .int .u64 (limb X 3)] 32 (0, 0))).alloc (.cells (cb 32 (fun _ => 0)) 5)) := by
  have := ZhD (w.alloc (.cells #[.int .u64 (limb X 0), .int .u64 (limb X 1), .int .u64 (limb X 2), .int .u64 (limb X 3)] 32 (0, 0))) 32 (by decide)
  rw [World.size_alloc] at this
  exact this
 unfold wv cs
 go_enter Tryz.func135, Tryz.ntmps135
 go_wp2_with fail
 refine Zaj (fun W0 hW0 => ?_)
 have hG : W0.heap[w.heap.size + 1]? = some (.cells (cb 32 (fun _ => 0)) 5 (0, 0)) := by
  rw [hW0]
  exact Zat _ _ _
 have hA : W0.heap[w.heap.size]? = some (.cells (cs (limb X)) 32 (0, 0)) := by
  rw [hW0]
  exact (Zah _ _ (by simp)).trans (Zaf _ _)
 have HA := hideP hA
 have HBW : Hid (Below w.heap.size w W0) := by
  show Below _ _ _
  rw [hW0]
  repeat first | exact Below.refl _ _ | (refine Below.alloc ?_ (by simp <;> omega) _)
 have HG := hideP hG
 clear hW0 hG hmk hA
 go_loopw [11] (fun i wr => ∃ k : Nat, k ≤ 32 ∧ i = .int .i64 k ∧ wr.heap[w.heap.size + 1]? = some (.cells (cb 32 (fun j => if 32 - k ≤ j then byt X (32 - 1 - j) else 0)) 5 (0, 0)) ∧ But (w.heap.size + 1) W0 wr) (fun i _ => 32 - (intOf i).toNat)
 case atStart => exact ⟨0, Nat.zero_le _, rfl, by rw [ZeT (g := fun _ => 0) (fun j hj => by rw [if_neg (by omega)])]; exact HG.out, But.refl _ _⟩
 case round =>
  obtain ⟨k, hk, rfl, hg, hb⟩ := hrel
  by_cases hlt : k < 32
  ·
   have hq : k / 8 < 4 := by omega
   have ca : wr.cell? ⟨w.heap.size, k / 8, none⟩ = some (.int .u64 (limb X (k / 8))) := (hb.cell (show w.heap.size ≠ w.heap.size + 1 by omega)).trans (Zac HA.out (get (limb X) hq))
   have cg := Zac hg (Zd7 _ (show 32 - 1 - k < 32 by omega))
   have fr : ∀ o, wr.frozen? ⟨w.heap.size + 1, o, none⟩ = false := fun o => Zap hg
   have h3 := Zaw (o := 32 - 1 - k) hg (.int .u8 ((byt X k : Nat) : Int))
   rw [cb_set, ZeT (g := fun j => if 32 - (k + 1) ≤ j then byt X (32 - 1 - j) else 0) (fun j hj => by
    by_cases h1 : j = 32 - 1 - k
    ·
     rw [if_pos h1, if_pos (by omega), h1]
     congr 1
     omega
    ·
     rw [if_neg h1]
     by_cases h2 : 32 - k ≤ j
     ·
      rw [if_pos h2, if_pos (by omega)]
     ·
      rw [if_neg h2, if_neg (by omega)])] at h3
   have HBT : Hid ((limb X (k / 8) : Int) / 2 ^ (8 * (k % 8)) % 256 = (byt X k : Int)) := by
    show _ = _
    unfold byt
    simp
   have H3 := hideP h3
   have HB := hideP hb
   have HKS : Hid (k + 1 ≤ 32) := hlt
   have hlt' : (k : Int) < 32 := by omega
   have e1 : IntKind.i64.wrap ((32 : Int) - 1 - (k : Int)) = ((32 - 1 - k : Nat) : Int) := by rw [IntKind.wrap_i64]; omega
   have e4 : IntKind.i64.wrap ((k : Int) + 1) = (k : Int) + 1 := by rw [IntKind.wrap_i64]; omega
   have d1 : ((k : Int)).tdiv 8 = ((k / 8 : Nat) : Int) := by rw [Int.tdiv_eq_ediv_of_nonneg (by omega)]; omega
   have d1' : IntKind.i64.wrap ((k / 8 : Nat) : Int) = ((k / 8 : Nat) : Int) := by rw [IntKind.wrap_i64]; omega
   have d2 : ((k : Int)).tmod 8 = ((k % 8 : Nat) : Int) := by rw [Int.tmod_eq_emod_of_nonneg (by omega)]; omega
   have d2' : IntKind.i64.wrap ((k % 8 : Nat) : Int) = ((k % 8 : Nat) : Int) := by rw [IntKind.wrap_i64]; omega
   have d3 : IntKind.i64.wrap (8 * ((k % 8 : Nat) : Int)) = ((8 * (k % 8) : Nat) : Int) := by rw [IntKind.wrap_i64]; omega
   have g1 : ((k / 8 : Nat) : Int) < 4 := by omega
   have g2 : ((8 * (k % 8) : Nat) : Int) < 64 := by omega
   have g3 : ((32 - 1 - k : Nat) : Int) < 32 := by omega
   simp only [Int.reduceSub, Nat.reduceSub] at e1 g3 cg H3
   generalize limb X (k / 8) = lv at *
   generalize byt X k = bk at *
   generalize 8 * (k % 8) = sh at *
   generalize k / 8 = q at *
   generalize k % 8 = r at *
   clear hg hb hk hlt h3 
   go_wp2_with fail
   refine ⟨⟨k + 1, HKS.out, by go_num, ?_, HB.out.set _ _⟩, by have := HKS.out; simp [intOf]; omega⟩
   rw [HBT.out]
   exact H3.out
  ·
   have hkn : k = 32 := by omega
   have hnl : ¬ (k : Int) < 32 := by omega
   rw [hkn, ZeT (g := fun j => byt X (32 - 1 - j)) (fun j hj => by rw [if_pos (by omega)])] at hg
   have H3 := hideP hg
   have HB := hideP hb
   clear hg hb hk hlt hkn
   go_wp2
   go_ret
   exact ⟨⟨_, rfl, H3.out⟩, HBW.out.trans (HB.out.below.mono (by omega))⟩
theorem Znl {ao : Option Addr} {n c : Nat} {bs : Nat → Nat} (hn : n ≤ 32) (w : World) (h : BS w ao n c bs) : Calls Tryz.prog 206 #[.slice ao n c] w fun r w' => r = .returned (.tuple #[wv (bv bs n n), .int .i64 0]) ∧ Below w.heap.size w w' := by
 have g1 : ¬ (32 : Int) < (n : Int) := by omega
 have e1 : IntKind.i64.wrap (32 : Int) = 32 := by rw [IntKind.wrap_i64]; omega
 have HS := hideP h
 have HL := hideP hn
 have e0 : IntKind.i64.wrap ((n : Int) - 1) = (n : Int) - 1 := by rw [IntKind.wrap_i64]; omega
 clear h hn
 go_enter Tryz.func206, Tryz.ntmps206
 refine Zae (fun K0 HK0 => ?_)
 go_wp2_with fail
 refine HK0.out _ _ ?_
 refine Zae (fun K1 HK1 => ?_)
 go_wp2_with fail
 refine HK1.out _ _ ?_
 refine Zaj (fun W0 hW0 => ?_)
 have hD : W0.heap[w.heap.size]? = some (.cells (cs (fun _ => 0)) 32 (0, 0)) := by
  rw [hW0]
  exact (Zah _ _ (by simp)).trans (Zaf _ _)
 have hG : W0.heap[w.heap.size + 1]? = some (.cells (cs (fun _ => 0)) 32 (0, 0)) := by
  rw [hW0]
  exact Zat _ _ _
 have HBW : Hid (Below w.heap.size w W0) := by
  show Below _ _ _
  rw [hW0]
  repeat first | exact Below.refl _ _ | (refine Below.alloc ?_ (by simp <;> omega) _)
 obtain ⟨q0, q1, q2, q3⟩ := cells hG
 have HG := hideP hG
 have HD := hideP hD
 clear hW0 hG hD
 refine Zae (fun K2 HK2 => ?_)
 refine Zae (fun K3 HK3 => ?_)
 go_wp2_with fail
 refine HK3.out _ _ ?_
 clear q0 q1 q2 q3
 refine wp_cond_false (by show Value.bool (decide ((32 : Int) < (n : Int))) = Value.bool false; rw [decide_eq_false (by omega)]) (wp_skip ?_)
 refine HK2.out _ _ ?_
 refine Zae (fun K4 HK4 => ?_)
 clear g1 e1
 go_wp2_with fail
 go_loopw [15] (fun i wr => ∃ k : Nat, k ≤ n ∧ i = .int .i64 k ∧ wr.heap[w.heap.size + 1]? = some (.cells (cs (limb (bv bs n k))) 32 (0, 0)) ∧ But (w.heap.size + 1) W0 wr) (fun i _ => n - (intOf i).toNat)
 case atStart => exact ⟨0, Nat.zero_le _, rfl, by rw [bv, Zbe (g := fun _ => 0) (fun j _ => by simp [limb])]; exact HG.out, But.refl _ _⟩
 case round =>
  obtain ⟨k, hk, rfl, hg, hb⟩ := hrel
  by_cases hlt : k < n
  ·
   have hL := HL.out
   have hq : k / 8 < 4 := by omega
   have hV := Zmo HS.out.lt n k
   have hd := HS.out.lt (n - 1 - k)
   have cg := Zac hg (get _ hq)
   have fr : ∀ o, wr.frozen? ⟨w.heap.size + 1, o, none⟩ = false := fun o => Zap hg
   have hor := Zmp (limb (bv bs n k) (k / 8)) (bs (n - 1 - k)) (8 * (k % 8)) (ZeS hV) hd (by omega)
   have hN := ZeR (bv bs n k) (bs (n - 1 - k)) k
   have h3 := Zaw (o := k / 8) hg (.int .u64 ((limb (bv bs n k) (k / 8) + bs (n - 1 - k) * 2 ^ (8 * (k % 8)) : Nat) : Int))
   rw [set _ _ hq, Zbe (g := limb (bv bs n (k + 1))) (fun j _ => by
    rw [bv, hN j hV hd]
    by_cases h1 : j = k / 8
    ·
     rw [if_pos h1, if_pos h1, h1]
    ·
     rw [if_neg h1, if_neg h1])] at h3
   have h3' : (wr.drew.setCell ⟨w.heap.size + 1, k / 8, none⟩ (.int .u64 ((limb (bv bs n k) (k / 8) + bs (n - 1 - k) * 2 ^ (8 * (k % 8)) : Nat) : Int))).heap[w.heap.size + 1]? = some (.cells (cs (limb (bv bs n (k + 1)))) 32 (0, 0)) := h3
   have H3 := hideP h3'
   have HB := hideP hb
   have HKS : Hid (k + 1 ≤ n) := hlt
   obtain ⟨ad, rfl, hix⟩ := ((HS.out.moved HBW.out).cell (n - 1 - k) (by omega))
   have hne : (ad.add (n - 1 - k)).block ≠ w.heap.size + 1 := by
    have := (HS.out.cell (n - 1 - k) (by omega))
    obtain ⟨ad', e', hc'⟩ := this
    cases e'
    have := World.block_lt_of_cell? w _ hc'
    omega
   have hix2 : wr.cell? (ad.add (n - 1 - k)) = some (.int .u8 (bs (n - 1 - k))) := by
    rw [← hix]
    simp only [World.cell?, hb.same _ hne]
   have hlt' : (k : Int) < n := by omega
   have i1 : ((n - 1 - k : Nat) : Int) < n := by omega
   have e1 : IntKind.i64.wrap ((n : Int) - 1 - (k : Int)) = ((n - 1 - k : Nat) : Int) := by rw [IntKind.wrap_i64]; omega
   have e4 : IntKind.i64.wrap ((k : Int) + 1) = (k : Int) + 1 := by rw [IntKind.wrap_i64]; omega
   have d1 : ((k : Int)).tdiv 8 = ((k / 8 : Nat) : Int) := by rw [Int.tdiv_eq_ediv_of_nonneg (by omega)]; omega
   have d1' : IntKind.i64.wrap ((k / 8 : Nat) : Int) = ((k / 8 : Nat) : Int) := by rw [IntKind.wrap_i64]; omega
   have d2 : ((k : Int)).tmod 8 = ((k % 8 : Nat) : Int) := by rw [Int.tmod_eq_emod_of_nonneg (by omega)]; omega
   have d2' : IntKind.i64.wrap ((k % 8 : Nat) : Int) = ((k % 8 : Nat) : Int) := by rw [IntKind.wrap_i64]; omega
   have d3 : IntKind.i64.wrap (8 * ((k % 8 : Nat) : Int)) = ((8 * (k % 8) : Nat) : Int) := by rw [IntKind.wrap_i64]; omega
   have d5 : IntKind.u64.wrap ((bs (n - 1 - k) : Nat) : Int) = ((bs (n - 1 - k) : Nat) : Int) := by rw [IntKind.wrap_u64]; omega
   have g1 : ((k / 8 : Nat) : Int) < 4 := by omega
   have g2 : ((8 * (k % 8) : Nat) : Int) < 64 := by omega
   have hp : 2 ^ (8 * (k % 8)) ≤ 2 ^ 56 := Nat.pow_le_pow_right (by decide) (by omega)
   have h60 : (2 : Nat) ^ 56 = 72057594037927936 := by decide
   have hm := Nat.mul_le_mul_right (2 ^ (8 * (k % 8))) (show bs (n - 1 - k) ≤ 255 by omega)
   have hwd : IntKind.u64.wrap ((bs (n - 1 - k) : Int) * 2 ^ (8 * (k % 8))) = ((bs (n - 1 - k) * 2 ^ (8 * (k % 8)) : Nat) : Int) := by
    have e : ((bs (n - 1 - k) : Int) * 2 ^ (8 * (k % 8))) = ((bs (n - 1 - k) * 2 ^ (8 * (k % 8)) : Nat) : Int) := by simp
    rw [e, M64.wrapN _ (by omega)]
   have hor2 : bits .or .u64 (limb (bv bs n k) (k / 8) : Int) ((bs (n - 1 - k) : Int) * 2 ^ (8 * (k % 8))) = ((limb (bv bs n k) (k / 8) + bs (n - 1 - k) * 2 ^ (8 * (k % 8)) : Nat) : Int) := by
    rw [← hor]
    congr 1
   have HOR := hideP hor2
   clear hor hor2
   generalize limb (bv bs n k) (k / 8) = lv at *
   generalize bs (n - 1 - k) = dg at *
   generalize n - 1 - k = ix at *
   generalize k / 8 = q at *
   generalize 8 * (k % 8) = sh at *
   generalize k % 8 = r at *
   clear hg hb hk hlt hN hV hL h3 h3' hp h60 hm hd hix hne
   go_wp2_with fail
   go_region
   go_wp2_with fail
   refine ⟨⟨k + 1, HKS.out, by go_num, ?_, HB.out.drew.set _ _⟩, by have := HKS.out; simp [intOf]; omega⟩
   rw [HOR.out]
   exact H3.out
  ·
   have hkn : k = n := by omega
   have hnl : ¬ (k : Int) < n := by omega
   rw [hkn] at hg
   have H3 := hideP hg
   have HB := hideP hb
   have HDx := hideP ((hb.same _ (show w.heap.size ≠ w.heap.size + 1 by omega)).trans HD.out)
   clear hg hb hk hlt hkn
   go_wp2_with fail
   refine HK4.out _ _ ?_
   refine Zkv (fun _ _ h => h) rfl rfl rfl (by decide) (by decide) (by show 38 < 39; decide) (by show 3 < 39; decide) rfl under rfl (info _) (one _) (Zag H3.out) (by have h1 := ZcT HDx.out; rw [Za6] at h1 ⊢; exact h1) ?_
   intro wS hBut
   exact ⟨rfl, HBW.out.trans ((HB.out.below.mono (by omega)).trans hBut.below)⟩
end Go.Proofs.YtcbdbnfgnonacaaGreat.W4
namespace Go.Proofs.YtcbdbnfgnonacaaGreat
open Go.RowKit Go.Shelf
def beh (n : Nat) (f g : Nat → Nat) (j : Nat) : Nat := if j < n then f j else g (j - n)
theorem Zeo {w : World} {g n : Nat} {f : Nat → Nat} {ao : Option Addr} {n2 c2 : Nat} {f2 : Nat → Nat} (ty : Nat) (hf : ∀ j, f j < 256) (hg : w.heap[g]? = some (.cells (cb n f) 5 (0, 0))) (hn : n ≤ 1000) (hn2 : n2 ≤ 1000) (h0 : 0 < n2) (h : BS w ao n2 c2 f2) :
  ∃ b cap w', (Builtin.append_ #[93, 93] ty #[.slice (some ⟨g, 0, none⟩) n n, .slice ao n2 c2]).run Tryz.prog w = .ok (.slice (some ⟨b, 0, none⟩) (n + n2) cap) w' ∧ w.heap.size ≤ b ∧ BS w' (some ⟨b, 0, none⟩) (n + n2) cap (beh n f f2) ∧ Below w.heap.size w w' := by
 obtain ⟨i0, hi, hz0, hz1, hz2⟩ := info_parts Tryz.bytes5
 have hlen : ((List.range n2).map (fun j => Value.int .u8 (f2 j))).length = n2 := by simp
 have hone : ∀ u ∈ (List.range n2).map (fun j => Value.int .u8 (f2 j)), u.oneCell' = true := by
  intro v hv
  simp only [List.mem_map] at hv
  obtain ⟨x, _, rfl⟩ := hv
  rfl
 have hT := Tryz.undB
 obtain ⟨ad, rfl, _⟩ := h.cell 0 h0
 have hs : Src Tryz.prog i0.size 93 (.slice (some ad) n2 c2) n2 ((List.range n2).map (fun j => Value.int .u8 (f2 j))) w := by
  refine Src.ofSlice w hT ad n2 c2 _ (by rw [hlen, hz1, Nat.mul_one]) (fun j v hv => ?_) hone
  simp only [List.getElem?_map, Option.map_eq_some_iff] at hv
  obtain ⟨x, hx, rfl⟩ := hv
  obtain ⟨hj, rfl⟩ := List.getElem?_eq_some_iff.1 hx
  simp only [List.length_range] at hj
  obtain ⟨ad', e, h⟩ := h.cell j hj
  cases e
  rw [List.getElem_range]
  exact h
 have hcap : Builtin.nextslicecap (n + n2) n * i0.bytes ≤ 281474976710656 := by
  rw [hz2]
  have := nextslicecap_le (need := n + n2) (old := n) (by omega)
  omega
 have hl1 : ((List.range n).map (fun j => Value.int .u8 (f j))).length = n := by simp
 have hold : (Builtin.firstCells i0.size n (.slice (some ⟨g, 0, none⟩) n n)).run Tryz.prog w.drew = .ok ((List.range n).map (fun j => Value.int .u8 (f j))).toArray w.drew := by
  refine run_firstCells_some _ _ _ _ _ _ _ (by rw [hl1, hz1, Nat.mul_one]) (fun j v hv => ?_)
  rw [Zc7]
  refine Zac (w := w.drew) hg ?_
  unfold cb
  rw [List.getElem?_toArray]
  exact hv
 have hr := run_append_grow_src (P := Tryz.prog) w 93 93 ty 5 i0 (.int .u8 0) hT hi hz0 (some ⟨g, 0, none⟩) n n _ hold (.slice (some ad) n2 c2) n2 _ hs (by omega) (by omega) hcap
 refine ⟨_, _, _, hr, Nat.le_refl _, ⟨fun j => ?_, ?_, ?_, fun j hj => ⟨_, rfl, ?_⟩, fun h => by cases h⟩, ((Below.refl _ w).drew).alloc (Nat.le_refl _) _⟩
 ·
  unfold beh
  split
  ·
   exact hf _
  ·
   exact h.lt _
 ·
  exact grownCap_ge w (n + n2) n 5
 ·
  exact grownCap_le_maxLen w (n + n2) n 5 (by unfold maxLen; omega)
 ·
  rw [Zc7]
  refine Zac (Zaf w.drew _) ?_
  rw [Array.getElem?_append_left (by simp; omega), List.getElem?_toArray]
  unfold beh
  by_cases hj1 : j < n
  ·
   rw [List.getElem?_append_left (by omega), if_pos hj1]
   simp [hj1]
  ·
   rw [List.getElem?_append_right (by omega), if_neg hj1, hl1]
   simp [show j - n < n2 by omega]
theorem ZeD {op : Oper} {l : List Value} {ds : List Deferred} {w w' : World} {K : Act → World → Prop} {Q : Exit → Act → World → Prop} (x y : Operand) (d : Nat) (ho : op.op = .call { callee := .builtin .append, args := #[x, y], argTypes := #[93, 93] }) (hd : op.dst = some d) {xv yv v : Value}
  (hx : Act.eval { tmps := l.toArray, defers := ds } x = xv) (hy : Act.eval { tmps := l.toArray, defers := ds } y = yv) (hr : (Builtin.append_ #[93, 93] op.type #[xv, yv]).run Tryz.prog w = .ok v w')
  (h : K { tmps := (l.set d v).toArray, defers := ds } w') : op.wp Tryz.prog { tmps := l.toArray, defers := ds } w K Q := by
 have hk : K (Act.put { tmps := l.toArray, defers := ds } op.dst v) w' := by rw [hd, Zaa]; exact h
 unfold Oper.wp
 simp [execOp, ho, resolve, invoke, builtin, hx, hy, hr, Result.andThen]
 exact hk
theorem Zhe (W : World) (n : Nat) (hn : n ≤ 1000) : (Instr.makeSlice 93 (.int .i64 (n : Int)) (.int .i64 (n : Int))).run Tryz.prog W = .ok (.slice (some ⟨W.heap.size, 0, none⟩) n n) (W.alloc (.cells (cb n (fun _ => 0)) 5)) := by
 obtain ⟨i0, hi, hz, hs, hb⟩ := info_parts Tryz.bytes5
 have := run_makeSlice (P := Tryz.prog) (w := W) 93 5 i0 (.int .u8 0) Tryz.undB hi hz .i64 .i64 n n (by omega) (by omega) (by rw [hs]; omega) (by rw [hb]; omega) (by omega)
 have e : madeCells (Value.int IntKind.u8 0).cells (Int.toNat n * 1) = cb n (fun _ => 0) := by
  apply Array.ext_getElem?
  intro i
  rw [Nat.mul_one, Int.toNat_natCast]
  by_cases h : i < n
  ·
   rw [Zd7 _ h]
   simp [madeCells, h, Value.cells, Nat.mod_one]
  ·
   rw [Array.getElem?_eq_none (by rw [size_madeCells]; omega), Array.getElem?_eq_none (by rw [Zd6]; omega)]
 rw [this, hs, e]
 simp
theorem Zkb {w : World} {g n : Nat} {f : Nat → Nat} (hf : ∀ j, f j < 256) (hn : n ≤ 1000) (h : w.heap[g]? = some (.cells (cb n f) 5 (0, 0))) : BS w (some ⟨g, 0, none⟩) n n f :=
 ⟨hf, Nat.le_refl _, by unfold maxLen; omega, fun j hj => ⟨_, rfl, by rw [Zc7]; exact Zac h (Zd7 f hj)⟩, fun h => by cases h⟩
theorem Zgl (x : Nat) (w : World) : Calls Tryz.prog 135 #[.agg (P4.nv x)] w fun r w' => (∃ g, r = .returned (.slice (some ⟨g, 0, none⟩) 32 32) ∧ w'.heap[g]? = some (.cells (cb 32 (fun j => byt x (31 - j))) 5 (0, 0))) ∧ Below w.heap.size w w' := by
 rw [P4.Za3]
 exact W4.Zka x w
def wr1 (x y : Nat) (i : Bool) (j : Nat) : Nat := if i = true then 0 else beh 32 (fun j => byt x (31 - j)) (fun j => byt y (31 - j)) j
theorem Zkc (x y : Nat) (w : World) : Calls Tryz.prog 60 #[.agg (P4.pt x y false)] w fun e w' => (∃ b cap, e = .returned (.slice (some ⟨b, 0, none⟩) 64 cap) ∧ w.heap.size ≤ b ∧ BS w' (some ⟨b, 0, none⟩) 64 cap (wr1 x y false)) ∧ Below w.heap.size w w' := by
 go_enter Tryz.func60, Tryz.ntmps60
 refine Zae (fun K0 HK0 => ?_)
 go_wp2_with fail
 refine HK0.out _ _ ?_
 clear HK0 K0
 refine Zaj (fun W0 hW0 => ?_)
 have hb0 : W0.heap[w.heap.size]? = some (.cells (P4.pt x y false) 34 (0, 0)) := by
  rw [hW0]
  exact Zaf _ _
 have hbw : Below w.heap.size w W0 := by
  rw [hW0]
  exact (Below.refl _ _).alloc (Nat.le_refl _) _
 clear hW0
 have H0 := hideP hb0
 have HBW := hideP hbw
 have hlt := Zab hb0
 clear hb0 hbw
 generalize w.heap.size = N at *
 refine Zae (fun K2 HK2 => ?_)
 refine Zae (fun K1 HK1 => ?_)
 refine wp_region_list ?_
 refine Zad rfl (fun K hK => ?_)
 go_simp
 refine hK _ _ ?_
 clear hK K
 refine Zad rfl (fun K hK => ?_)
 have hf := P4.pt_i H0.out
 go_simp
 refine hK _ _ ?_
 clear hK K hf
 refine wpList_nil ?_
 refine HK1.out _ _ ?_
 clear HK1 K1
 refine wp_cond_false rfl ?_
 refine wp_skip ?_
 refine HK2.out _ _ ?_
 clear HK2 K2
 refine Zae (fun K1 HK1 => ?_)
 refine Zai (S := fun V => Below W0.heap.size W0 V) (by kernel_rfl) (Below.refl _ _).drew (fun hS => ?_)
 refine tkG 0 hS ?_
 simp only [Zaa, Zs, Zz]
 refine Zak (i := 1) (v := .agg (P4.nv x)) rfl (by kernel_rfl) (by kernel_rfl) (by kernel_rfl) (fun _ _ _ h => h) (Zbu (by kernel_rfl) 32 _ rfl N 0 rfl (P4.nv x) _ (fun V hV => P4.pt_x ((hV.block _ hlt).trans H0.out)) P4.underE rfl (P4.infoE (P4.Zao _))) hS ?_
 simp only [Zaa, Zs, Zz]
 refine tkG 3 hS ?_
 simp only [Zaa, Zs, Zz]
 refine Zak (i := 4) (v := .agg (P4.nv y)) rfl (by kernel_rfl) (by kernel_rfl) (by kernel_rfl) (fun _ _ _ h => h) (Zbu (by kernel_rfl) 32 _ rfl N 4 rfl (P4.nv y) _ (fun V hV => P4.pt_y ((hV.block _ hlt).trans H0.out)) P4.underE rfl (P4.infoE (P4.Zao _))) hS ?_
 simp only [Zaa, Zs, Zz]
 refine rd1 2 (fun K hK => ?_)
 refine Za7 (by kernel_rfl) ?_
 refine ZaN (av := #[.agg (P4.nv x)]) _ _ 8 rfl rfl (by simp only [List.map_toArray, List.map_cons, List.map_nil]; rfl) (en Tryz.func135) (Zgl x _) ?_
 rintro e x1 ⟨⟨g1, rfl, hg1⟩, hb1⟩
 refine ⟨_, rfl, hK.out _ _ (hS.trans (hb1.mono hS.size)) (fun hS => ?_)⟩
 clear hK K hb1
 simp only [Zs, Zz]
 refine rd1 5 (fun K hK => ?_)
 refine Za7 (by kernel_rfl) ?_
 refine ZaN (av := #[.agg (P4.nv y)]) _ _ 11 rfl rfl (by simp only [List.map_toArray, List.map_cons, List.map_nil]; rfl) (en Tryz.func135) (Zgl y _) ?_
 rintro e x2 ⟨⟨g2, rfl, hg2⟩, hb2⟩
 have hg1' := (hb2.block _ (Zab hg1)).trans hg1
 refine ⟨_, rfl, hK.out _ _ (hS.trans (hb2.mono hS.size)) (fun hS => ?_)⟩
 clear hK K hb2 hg1
 simp only [Zs, Zz]
 refine rd1 6 (fun K hK => ?_)
 refine Za7 (by kernel_rfl) ?_
 obtain ⟨b, cap, x3, hr, hbl, hBS, hb3⟩ := Zeo (f := fun j => byt x (31 - j)) (f2 := fun j => byt y (31 - j)) (n := 32) (n2 := 32) (c2 := 32) 93 (fun j => Zl1 _ _) hg1' (by omega) (by omega) (by omega) (Zkb (fun j => Zl1 _ _) (by omega) hg2)
 refine ZeD (.tmp 8) (.tmp 11) 12 rfl rfl rfl rfl hr ?_
 have hsz := hS.size
 have hbl' : W0.heap.size ≤ b := by omega
 refine hK.out _ _ (hS.trans (hb3.mono hS.size)) (fun hS => ?_)
 clear hK K hb3 hr hg1' hg2
 simp only [Zs, Zz]
 refine tkG 7 hS ?_
 simp only [Zaa, Zs, Zz]
 refine wpAnyH_done (by kernel_rfl) ?_ _
 refine HK1.out _ _ ?_
 refine wp_ret ?_
 exact bodyPost_ret_by (results_tmp rfl _ _ _) rfl ⟨⟨b, cap, rfl, by omega, hBS⟩, HBW.out.trans (hS.mono (by omega))⟩
end Go.Proofs.YtcbdbnfgnonacaaGreat
