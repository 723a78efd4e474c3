/-
 The law's short and cut.
-/
import Derived.Test.YtcbdbnfgnonacaaGreatCurveBn1C27
set_option maxHeartbeats 8000000
set_option maxRecDepth 100000
namespace Go.Proofs.YtcbdbnfgnonacaaGreat.P6
open Go.RowKit Go.Shelf
noncomputable def te (o b x y : K) (k : Nat) : Array Value := Classical.choose (⟨_, rfl⟩ : ∃ C : Array Value, C = nv o ++ (nv b ++ (pt x y false ++ W4.cs (limb k))))
theorem Zep (o b x y : K) (k : Nat) : te o b x y k = nv o ++ (nv b ++ (pt x y false ++ W4.cs (limb k))) := Classical.choose_spec (⟨_, rfl⟩ : ∃ C : Array Value, C = nv o ++ (nv b ++ (pt x y false ++ W4.cs (limb k))))
abbrev gcE : List Ch := [.s (.ov 0), .e 0 (.c 0), .e 0 (.v 0), .e 0 (.v 1), .e 1 (.v 2), .e 1 (.v 3), fE, .e 2 (.c 0)]
set_option maxRecDepth 100000
theorem Zbd {w : World} {p m : Nat} (hG : FAt w p m) (b bx bY : K) (k : Nat) (h1 : Fits k1) (hb : Fits b) : Calls Tryz.prog 79 #[ifv p, .agg (te k1 b bx bY k)] w fun e w' => (∃ g, e = .returned (.pointer (some ⟨g, 0, none⟩)) ∧ w.heap.size ≤ g ∧ GAt w' g p m b ∧ GB w' g bx bY k) ∧ Below w.heap.size w w' := by
 have h := Zk9 (A := al ⟨m, 0, p, b, bx, bY, k, v5 k1 b bx bY bY, fun _ => false, 0⟩) (β := fun _ => 0) mixed (ZfW (X := noT) (XL := noX) (fl := fit2) (G := []) hG (fits2 h1 hb) (fun _ h => by cases h) (ZdN w) (noL w)) Tryz.func79 (fuel := 100) (args := [.one (.ov 0), .row [.e 1 (.v 0), .e 1 (.v 1), .e 1 (.v 2), .e 1 (.v 3), fE, .e 2 (.c 0)]]) (l := gcE) (t := 253) (by kernel_rfl)
 have e : ((al ⟨m, 0, p, b, bx, bY, k, v5 k1 b bx bY bY, fun _ => false, 0⟩).rw (fun _ => 0) [.e 1 (.v 0), .e 1 (.v 1), .e 1 (.v 2), .e 1 (.v 3), fE, .e 2 (.c 0)]).toArray = te k1 b bx bY k := by
  rw [Zep, Zbh]
  apply Array.toList_inj.1
  simp [Al.rw, Al.ch, Al.sc, Al.cx, Al.d]
  rfl
 simp only [List.map_cons, List.map_nil, Al.sv, e] at h
 refine h.mono fun e' w' hw => ?_
 obtain ⟨g, rfl, hg, hc, hb⟩ := hw
 have hr := Zag hc
 rw [List.toList_toArray] at hr
 have H := hG.below hb
 have hs := Zab hc
 refine ⟨⟨g, rfl, hg, ⟨?_, ?_, ?_, ?_, H.ok, hs, H.plt⟩, ⟨?_, ?_, hs⟩⟩, hb⟩
 ·
  exact Za2 hr (m := [.s (.ov 0)]) (o := 0) (k := 1) (by kernel_rfl) 0 _ rfl
 ·
  have := Za2 hr (m := [.e 0 (.c 0)]) (o := 1) (k := 6) (by kernel_rfl)
  simp [Al.rw, Al.ch] at this
  exact this
 ·
  have := Za2 hr (m := [.e 0 (.v 0)]) (o := 1 + 6) (k := 6) (by kernel_rfl)
  simp [Al.rw, Al.ch] at this
  exact this
 ·
  have := Za2 hr (m := [.e 0 (.v 1)]) (o := 1 + 2 * 6) (k := 6) (by kernel_rfl)
  simp [Al.rw, Al.ch] at this
  exact this
 ·
  have := Za2 hr (m := [.e 1 (.v 2), .e 1 (.v 3), fE]) (o := 1 + 3 * 6) (k := 2 * 6 + 1) (by kernel_rfl)
  rw [Zbh]
  simp [Al.rw, Al.ch, Al.sc, Al.cx] at this ⊢
  exact this
 ·
  have := Za2 hr (m := [.e 2 (.c 0)]) (o := 2 + 5 * 6) (k := 4) (by kernel_rfl)
  simp [Al.rw, Al.ch] at this
  exact this
def cB : K := 4
def cX : K := 3685416753713387016781088315183077757961620795782546409894578378688607592378376318836054947676345821548104185464507
def cY : K := 1339506544944476473020471379941921221584933875938349620426543736416511423956333506472724655353366534992391756441569
noncomputable def tR : List Ch := match runS Tryz.prog sz (env0 (factT [(161, [], .row [.e 2 (.c 0)])])) Tryz.f80 100 [] with
 | some (.row l) => l
 | _ => []
set_option maxRecDepth 100000
theorem Zhf (A : Al sz) (h : ∀ x, (A.cells 2 x).toList = (W4.cs (limb nBlsR)).toList) : (A.rw (fun _ => 0) tR).toArray = te k1 cB cX cY nBlsR := by
 have h : ∀ x, A.ch (fun _ => 0) (.e 2 x) = (W4.cs (limb nBlsR)).toList := fun x => h _
 rw [Zep, Zbh, Za3, Za3, Za3, Za3]
 apply Array.toList_inj.1
 rw [show tR = (tR.take (4 * 6 + 1)) ++ [.e 2 (.c 0)] by kernel_rfl, Ze3]
 simp only [Al.rw, h, List.append_nil]
 kernel_rfl
theorem ZbF (w : World) : Calls Tryz.prog 80 #[] w fun e w' => e = .returned (.agg (te k1 cB cX cY nBlsR)) ∧ Below w.heap.size w w' := by
 have := ZfQ (w := w) (A := al ⟨0, 0, 0, k0, k0, k0, nBlsR, fun _ => k0, fun _ => false, 0⟩) (β := fun _ => 0) mixed (ZcY (Zcy (l := [(161, [], .row [.e 2 (.c 0)])]) ⟨⟨en Tryz.func161, fun β V _ => by
  simp only [Al.sv, rw_w, List.map_nil]
  exact ZfZ V⟩, trivial⟩)) Tryz.func80 (fuel := 100) (args := []) (y := .row tR) (by kernel_rfl)
 simp only [Al.sv, List.map_nil] at this
 rw [Zhf _ (fun _ => rfl)] at this
 exact this
end Go.Proofs.YtcbdbnfgnonacaaGreat.P6
namespace Go.Proofs.YtcbdbnfgnonacaaGreat.Q6
open Go.RowKit Go.Shelf
noncomputable def te (o b x y : K) (k : Nat) : Array Value := Classical.choose (⟨_, rfl⟩ : ∃ C : Array Value, C = nv o ++ (nv b ++ (pt x y false ++ W4.cs (limb k))))
theorem Zep (o b x y : K) (k : Nat) : te o b x y k = nv o ++ (nv b ++ (pt x y false ++ W4.cs (limb k))) := Classical.choose_spec (⟨_, rfl⟩ : ∃ C : Array Value, C = nv o ++ (nv b ++ (pt x y false ++ W4.cs (limb k))))
abbrev gcE : List Ch := [.s (.ov 0), .e 0 (.c 0), .e 0 (.v 0), .e 0 (.v 1), .e 1 (.v 2), .e 1 (.v 3), fE, .e 2 (.c 0)]
set_option maxRecDepth 100000
theorem Zbd {w : World} {p m : Nat} (hG : FAt w p m) (b bx bY : K) (k : Nat) (h1 : Fits k1) (hb : Fits b) : Calls Tryz.prog 81 #[ifv p, .agg (te k1 b bx bY k)] w fun e w' => (∃ g, e = .returned (.pointer (some ⟨g, 0, none⟩)) ∧ w.heap.size ≤ g ∧ GAt w' g p m b ∧ GB w' g bx bY k) ∧ Below w.heap.size w w' := by
 have h := Zk9 (A := al ⟨m, 0, p, b, bx, bY, k, v5 k1 b bx bY bY, fun _ => false, 0⟩) (β := fun _ => 0) mixed (ZfW (X := noT) (XL := noX) (fl := fit2) (G := []) hG (fits2 h1 hb) (fun _ h => by cases h) (ZdN w) (noL w)) Tryz.func81 (fuel := 100) (args := [.one (.ov 0), .row [.e 1 (.v 0), .e 1 (.v 1), .e 1 (.v 2), .e 1 (.v 3), fE, .e 2 (.c 0)]]) (l := gcE) (t := 258) (by kernel_rfl)
 have e : ((al ⟨m, 0, p, b, bx, bY, k, v5 k1 b bx bY bY, fun _ => false, 0⟩).rw (fun _ => 0) [.e 1 (.v 0), .e 1 (.v 1), .e 1 (.v 2), .e 1 (.v 3), fE, .e 2 (.c 0)]).toArray = te k1 b bx bY k := by
  rw [Zep, Zbh]
  apply Array.toList_inj.1
  simp [Al.rw, Al.ch, Al.sc, Al.cx, Al.d]
  rfl
 simp only [List.map_cons, List.map_nil, Al.sv, e] at h
 refine h.mono fun e' w' hw => ?_
 obtain ⟨g, rfl, hg, hc, hb⟩ := hw
 have hr := Zag hc
 rw [List.toList_toArray] at hr
 have H := hG.below hb
 have hs := Zab hc
 refine ⟨⟨g, rfl, hg, ⟨?_, ?_, ?_, ?_, H.ok, hs, H.plt⟩, ⟨?_, ?_, hs⟩⟩, hb⟩
 ·
  exact Za2 hr (m := [.s (.ov 0)]) (o := 0) (k := 1) (by kernel_rfl) 0 _ rfl
 ·
  have := Za2 hr (m := [.e 0 (.c 0)]) (o := 1) (k := 12) (by kernel_rfl)
  simp [Al.rw, Al.ch] at this
  exact this
 ·
  have := Za2 hr (m := [.e 0 (.v 0)]) (o := 1 + 12) (k := 12) (by kernel_rfl)
  simp [Al.rw, Al.ch] at this
  exact this
 ·
  have := Za2 hr (m := [.e 0 (.v 1)]) (o := 1 + 2 * 12) (k := 12) (by kernel_rfl)
  simp [Al.rw, Al.ch] at this
  exact this
 ·
  have := Za2 hr (m := [.e 1 (.v 2), .e 1 (.v 3), fE]) (o := 1 + 3 * 12) (k := 2 * 12 + 1) (by kernel_rfl)
  rw [Zbh]
  simp [Al.rw, Al.ch, Al.sc, Al.cx] at this ⊢
  exact this
 ·
  have := Za2 hr (m := [.e 2 (.c 0)]) (o := 2 + 5 * 12) (k := 4) (by kernel_rfl)
  simp [Al.rw, Al.ch] at this
  exact this
def cB : K := (4, 4)
def cX : K := (352701069587466618187139116011060144890029952792775240219908644239793785735715026873347600343865175952761926303160, 3059144344244213709971259814753781636986470325476647558659373206291635324768958432433509563104347017837885763365758)
def cY : K := (1985150602287291935568054521177171638300868978215655730859378665066344726373823718423869104263333984641494340347905, 927553665492332455747201965776037880757740193453592970025027978793976877002675564980949289727957565575433344219582)
noncomputable def tR : List Ch := match runS Tryz.prog sz (env0 (factT [(161, [], .row [.e 2 (.c 0)])])) Tryz.f82 100 [] with
 | some (.row l) => l
 | _ => []
set_option maxRecDepth 100000
theorem Zhf (A : Al sz) (h : ∀ x, (A.cells 2 x).toList = (W4.cs (limb nBlsR)).toList) : (A.rw (fun _ => 0) tR).toArray = te k1 cB cX cY nBlsR := by
 have h : ∀ x, A.ch (fun _ => 0) (.e 2 x) = (W4.cs (limb nBlsR)).toList := fun x => h _
 rw [Zep, Zbh, Za3, Za3, Za3, Za3, P6.Za3, P6.Za3, P6.Za3, P6.Za3, P6.Za3, P6.Za3, P6.Za3, P6.Za3]
 apply Array.toList_inj.1
 rw [show tR = (tR.take (4 * 12 + 1)) ++ [.e 2 (.c 0)] by kernel_rfl, Ze3]
 simp only [Al.rw, h, List.append_nil]
 kernel_rfl
theorem ZbF (w : World) : Calls Tryz.prog 82 #[] w fun e w' => e = .returned (.agg (te k1 cB cX cY nBlsR)) ∧ Below w.heap.size w w' := by
 have := ZfQ (w := w) (A := al ⟨0, 0, 0, k0, k0, k0, nBlsR, fun _ => k0, fun _ => false, 0⟩) (β := fun _ => 0) mixed (ZcY (Zcy (l := [(161, [], .row [.e 2 (.c 0)])]) ⟨⟨en Tryz.func161, fun β V _ => by
  simp only [Al.sv, rw_w, List.map_nil]
  exact ZfZ V⟩, trivial⟩)) Tryz.func82 (fuel := 100) (args := []) (y := .row tR) (by kernel_rfl)
 simp only [Al.sv, List.map_nil] at this
 rw [Zhf _ (fun _ => rfl)] at this
 exact this
end Go.Proofs.YtcbdbnfgnonacaaGreat.Q6
namespace Go.Proofs.YtcbdbnfgnonacaaGreat.C6
open Go.RowKit Go.Shelf
structure Made (w : World) (c : Nat) : Prop where
 ex : ∃ r g1 g2, w.cell? ⟨c, 0, none⟩ = some (.pointer (some ⟨r, 0, none⟩)) ∧ P6.CAt w c g1 r nBlsP P6.cB P6.cX P6.cY nBlsR ∧ Q6.CAt w c g2 r nBlsP Q6.cB Q6.cX Q6.cY nBlsR
theorem Zf5 (r : Nat) (w : World) : (Instr.build 151 #[(0, .pointer (some ⟨r, 0, none⟩))]).run Tryz.prog w = .ok (.agg #[.pointer (some ⟨r, 0, none⟩)]) w := by kernel_rfl
theorem Zhg (r g1 g2 : Nat) (w : World) : (Instr.build 158 #[(0, .pointer (some ⟨r, 0, none⟩)), (1, .pointer (some ⟨g1, 0, none⟩)), (2, .pointer (some ⟨g2, 0, none⟩))]).run Tryz.prog w = .ok (.agg #[.pointer (some ⟨r, 0, none⟩), .pointer (some ⟨g1, 0, none⟩), .pointer (some ⟨g2, 0, none⟩)]) w := by kernel_rfl
theorem ZcQ (w : World) : Calls Tryz.prog 14 #[] w fun e w' => (∃ c, e = .returned (.pointer (some ⟨c, 0, none⟩)) ∧ w.heap.size ≤ c ∧ Made w' c) ∧ Below w.heap.size w w' := by
 go_enter Tryz.func14, Tryz.ntmps14
 refine Zae (fun K0 HK0 => ?_)
 go_wp2_with fail
 refine HK0.out _ _ ?_
 clear HK0 K0
 refine Zae (fun K1 HK1 => ?_)
 refine wp_region_list ?_
 refine Zad rfl (fun K hK => ?_)
 refine ZaX (av := #[]) _ _ 4 rfl rfl (by simp only [List.map_toArray, List.map_nil]) (en Tryz.func78) (Zj2 _) ?_
 intro x1 hb1
 refine hK _ _ ?_
 clear hK K
 simp only [Zs, Zz]
 refine Zad rfl (fun K hK => ?_)
 refine ZaN (av := #[.agg (W6.cs (limb nBlsP))]) _ _ 5 rfl rfl (by simp only [List.map_toArray, List.map_cons, List.map_nil]; rfl) (en Tryz.func77) (W6.ZgD nBlsP (by decide +kernel) (by decide +kernel) (by decide +kernel) x1) ?_
 rintro e x2 ⟨r, rfl, hr1, hgood, hb2⟩
 refine ⟨_, rfl, hK _ _ ?_⟩
 clear hK K
 simp only [Zs, Zz]
 have hB2 : Below w.heap.size w x2 := hb1.trans (hb2.mono hb1.size)
 have hFA : P6.FAt x2 r nBlsP := by
  obtain ⟨f, h1, h2⟩ := hgood.ex
  exact ⟨hgood, h2.lt⟩
 have hr0 : w.heap.size ≤ r := Nat.le_trans hb1.size hr1
 have HF := hideP hFA
 have HB2 := hideP hB2
 clear hgood hFA hB2 hb1 hb2 hr1
 iterate 5
  refine Zad rfl (fun K hK => ?_)
  go_simp
  refine hK _ _ ?_
  clear hK K
 refine wpList_nil ?_
 refine HK1.out _ _ ?_
 clear HK1 K1
 refine Zae (fun K1 HK1 => ?_)
 refine wp_region_list ?_
 iterate 3
  refine Zad rfl (fun K hK => ?_)
  go_simp
  refine hK _ _ ?_
  clear hK K
 refine Zad rfl (fun K hK => ?_)
 refine ZaX (av := #[]) _ _ 11 rfl rfl (by simp only [List.map_toArray, List.map_nil]) (en Tryz.func80) (P6.ZbF _) ?_
 intro x3 hb3
 refine hK _ _ ?_
 clear hK K
 simp only [Zs, Zz]
 refine Zad rfl (fun K hK => ?_)
 refine ZaN (av := #[P6.ifv r, .agg (P6.te P6.k1 P6.cB P6.cX P6.cY nBlsR)]) _ _ 12 rfl rfl (by simp only [List.map_toArray, List.map_cons, List.map_nil]; rfl) (en Tryz.func79) (P6.Zbd (HF.out.below hb3) _ _ _ _ (by unfold P6.Fits; decide +kernel) (by unfold P6.Fits; decide +kernel)) ?_
 rintro e x4 ⟨⟨g1, rfl, hg1, ga1, gb1⟩, hb4⟩
 refine ⟨_, rfl, hK _ _ ?_⟩
 clear hK K
 simp only [Zs, Zz]
 have h24 : Below x2.heap.size x2 x4 := hb3.trans (hb4.mono hb3.size)
 have hF4 := HF.out.below h24
 have HG1 := hideP (And.intro ga1 gb1)
 clear ga1 gb1 hb3 hb4 hg1
 refine Zad rfl (fun K hK => ?_)
 go_simp
 refine hK _ _ ?_
 clear hK K
 refine Zad rfl (fun K hK => ?_)
 refine P6.ZbD 151 _ #[(0, .pointer (some ⟨r, 0, none⟩))] 14 rfl rfl (by simp only [List.map_toArray, List.map_cons, List.map_nil]; rfl) (v := .agg #[.pointer (some ⟨r, 0, none⟩)]) (Zf5 r _) ?_
 refine hK _ _ ?_
 clear hK K
 simp only [Zs, Zz]
 refine Zad rfl (fun K hK => ?_)
 go_simp
 refine hK _ _ ?_
 clear hK K
 refine Zad rfl (fun K hK => ?_)
 refine ZaX (av := #[]) _ _ 16 rfl rfl (by simp only [List.map_toArray, List.map_nil]) (en Tryz.func82) (Q6.ZbF _) ?_
 intro x5 hb5
 refine hK _ _ ?_
 clear hK K
 simp only [Zs, Zz]
 have hF5 := hF4.below hb5
 refine Zad rfl (fun K hK => ?_)
 refine ZaN (av := #[Q6.ifv r, .agg (Q6.te Q6.k1 Q6.cB Q6.cX Q6.cY nBlsR)]) _ _ 17 rfl rfl (by simp only [List.map_toArray, List.map_cons, List.map_nil]; rfl) (en Tryz.func81) (Q6.Zbd ⟨hF5.ok, hF5.plt⟩ _ _ _ _ (by unfold Q6.Fits P6.Fits; decide +kernel) (by unfold Q6.Fits P6.Fits; decide +kernel)) ?_
 rintro e x6 ⟨⟨g2, rfl, hg2, ga2, gb2⟩, hb6⟩
 refine ⟨_, rfl, hK _ _ ?_⟩
 clear hK K
 simp only [Zs, Zz]
 have h46 : Below x4.heap.size x4 x6 := hb5.trans (hb6.mono hb5.size)
 have HG2 := hideP (And.intro ga2 gb2)
 clear ga2 gb2 hb5 hb6 hg2 hF5 hF4
 refine Zad rfl (fun K hK => ?_)
 refine P6.ZbD 158 _ #[(0, .pointer (some ⟨r, 0, none⟩)), (1, .pointer (some ⟨g1, 0, none⟩)), (2, .pointer (some ⟨g2, 0, none⟩))] 18 rfl rfl (by simp only [List.map_toArray, List.map_cons, List.map_nil]; rfl) (Zhg r g1 g2 _) ?_
 refine hK _ _ ?_
 clear hK K
 simp only [Zs, Zz]
 refine Zad rfl (fun K hK => ?_)
 go_simp
 refine hK _ _ ?_
 clear hK K
 refine ZaT (fun x7 hx7 => ?_)
 have h7 := Zaf x6 (.cells #[.pointer (some ⟨r, 0, none⟩), .pointer (some ⟨g1, 0, none⟩), .pointer (some ⟨g2, 0, none⟩)] 158 (0, 0))
 have h67 := (Below.refl x6.heap.size x6).alloc (Nat.le_refl _) (.cells #[.pointer (some ⟨r, 0, none⟩), .pointer (some ⟨g1, 0, none⟩), .pointer (some ⟨g2, 0, none⟩)] 158 (0, 0))
 rw [← hx7] at h7 h67
 clear hx7
 have h47 : Below x4.heap.size x4 x7 := h46.trans (h67.mono h46.size)
 have h27 : Below x2.heap.size x2 x7 := h24.trans (h47.mono h24.size)
 have hlc := Zab h7
 have HM : Hid (Made x7 x6.heap.size) := ⟨r, g1, g2, Zac h7 rfl, ⟨Zac h7 rfl, HG1.out.1.below h47, HG1.out.2.below h47, hlc⟩, ⟨Zac h7 rfl, HG2.out.1.below h67, HG2.out.2.below h67, hlc⟩⟩
 have HW : Hid (Below w.heap.size w x7) := HB2.out.trans (h27.mono HB2.out.size)
 have hsz : w.heap.size ≤ x6.heap.size := Nat.le_trans HB2.out.size (Nat.le_trans h24.size h46.size)
 clear h7 h67 h47 h27 h24 h46 HG1 HG2 hlc
 refine Zad rfl (fun K hK => ?_)
 go_simp
 refine hK _ _ ?_
 clear hK K
 refine wpList_nil ?_
 refine HK1.out _ _ ?_
 refine wp_ret ?_
 exact bodyPost_ret_by (results_tmp rfl _ _ _) rfl ⟨⟨x6.heap.size, rfl, hsz, HM.out⟩, HW.out⟩
end Go.Proofs.YtcbdbnfgnonacaaGreat.C6
namespace Go.Proofs.YtcbdbnfgnonacaaGreat
open Go.RowKit Go.Shelf
theorem Zlr {P : Program} {op : Oper} {l : List Value} {ds : List Deferred} {w w' : World} {K : Act → World → Prop} {Q : Exit → Act → World → Prop} (t : TypeId) (a b : Operand) (d : Nat) (ho : op.op = .makeSlice t a b) (hd : op.dst = some d) {av bv v : Value}
  (ha : Act.eval { tmps := l.toArray, defers := ds } a = av) (hb : Act.eval { tmps := l.toArray, defers := ds } b = bv) (hr : (Instr.makeSlice t av bv).run P w = .ok v w')
  (h : K { tmps := (l.set d v).toArray, defers := ds } w') : op.wp P { tmps := l.toArray, defers := ds } w K Q := by
 have hk : K (Act.put { tmps := l.toArray, defers := ds } op.dst v) w' := by rw [hd, Zaa]; exact h
 unfold Oper.wp
 simp [execOp, ho, ha, hb, hr, Result.andThen]
 exact hk
theorem mulm {m a b a' b' : Nat} (h1 : a % m = a' % m) (h2 : b % m = b' % m) : a * b % m = a' * b' % m := by
 rw [Nat.mul_mod a b, h1, h2, ← Nat.mul_mod]
theorem Zkg {m x y z : Nat} (Z : Nat) (hz : ¬ P4.Like m z P4.k0) (hm : m - 2 < 2 ^ 256) (hZ : pm m 256 z (m - 2) = Z) : P4.outS m (x, y, z) = (x * (Z * Z) % m, y * (Z * Z * Z) % m, false) := by
 have h1 : z ^ (m - 2) % m = Z % m := by rw [← hZ, Zlj _ _ _ _ hm, Nat.mod_mod]
 unfold P4.outS
 rw [if_neg hz]
 have e1 : x * (z ^ (m - 2) * z ^ (m - 2)) % m = x * (Z * Z) % m := mulm rfl (mulm h1 h1)
 have e2 : y * (z ^ (m - 2) * z ^ (m - 2) * z ^ (m - 2)) % m = y * (Z * Z * Z) % m := mulm rfl (mulm (mulm h1 h1) h1)
 show (x * (z ^ (m - 2) * z ^ (m - 2)) % m, y * (z ^ (m - 2) * z ^ (m - 2) * z ^ (m - 2)) % m, false) = _
 rw [e1, e2]
def dx2 : Nat := 1368015179489954701390400359078579693043519447331113978918064868415326638035
def dy2 : Nat := 9918110051302171585080402603319702774565515993150576347155970296011118125764
theorem Zgm : P4.goodN nBnP P4.cB P4.cX P4.cY false = 0 := by decide +kernel
theorem good_2 : P4.goodN nBnP P4.cB dx2 dy2 false = 0 := by decide +kernel
theorem Znn : P4.timesS nBnP (P4.cX, P4.cY) 2 = (nBnP - 23, nBnP - 11, 4) := by decide +kernel
theorem mul_2 : P4.mulP nBnP P4.cB P4.cX P4.cY false 2 = (dx2, dy2, false) := by
 unfold P4.mulP
 rw [if_pos Zgm]
 show P4.outS nBnP (if false = true then _ else P4.timesS nBnP (P4.cX, P4.cY) 2) = _
 rw [if_neg (by decide), Znn]
 rw [Zkg (pm nBnP 256 4 (nBnP - 2)) (by decide +kernel) (by decide +kernel) rfl]
 decide +kernel
theorem Zno : re1 (beh 63 (fun _ => 0) (fun _ => 1)) = 71 := by decide +kernel
theorem Zkh : P4.Fits P4.cX ∧ P4.Fits P4.cY ∧ P4.Fits dx2 ∧ P4.Fits dy2 := by unfold P4.Fits; decide +kernel
theorem wr_2 : wr1 dx2 dy2 false 1 = 6 ∧ wr1 dx2 dy2 false 2 = 68 ∧ wr1 dx2 dy2 false 63 = 196 := by decide +kernel
theorem Zki (w : World) : Calls Tryz.prog 12 #[] w fun e w' => e = .returned (.bool true) ∧ Below w.heap.size w w' := by
 go_enter Tryz.func12, Tryz.ntmps12
 refine Zae (fun K0 HK0 => ?_)
 go_wp2_with fail
 refine HK0.out _ _ ?_
 clear HK0 K0
 refine Zae (fun K1 HK1 => ?_)
 refine wp_region_list ?_
 refine Zad rfl (fun K hK => ?_)
 refine ZaN (av := #[]) _ _ 7 rfl rfl (by simp only [List.map_toArray, List.map_nil]) (en Tryz.func13) (C4.ZcQ _) ?_
 rintro e x1 ⟨⟨c, rfl, hc1, hM⟩, hb1⟩
 refine ⟨_, rfl, hK _ _ ?_⟩
 clear hK K
 simp only [Zs, Zz]
 have HM := hideP hM
 have HB1 := hideP hb1
 clear hM hb1
 refine Zad rfl (fun K hK => ?_)
 go_simp
 refine hK _ _ ?_
 clear hK K
 refine wpList_nil ?_
 refine HK1.out _ _ ?_
 clear HK1 K1
 refine Zae (fun K2 HK2 => ?_)
 refine Zae (fun K1 HK1 => ?_)
 refine wp_region_list ?_
 refine Zad rfl (fun K hK => ?_)
 go_simp
 refine hK _ _ ?_
 clear hK K
 refine Zad rfl (fun K hK => ?_)
 go_simp
 refine hK _ _ ?_
 clear hK K
 refine Zad rfl (fun K hK => ?_)
 go_simp
 refine hK _ _ ?_
 clear hK K
 refine Za1 (by kernel_rfl) (fun K hK => ?_)
 refine ZaN (av := #[]) _ _ 11 rfl rfl (by simp only [List.map_toArray, List.map_nil]) (en Tryz.func14) (C6.ZcQ _) ?_
 rintro e x2 ⟨⟨c', rfl, hc2, _⟩, hb2⟩
 refine ⟨_, rfl, hK _ _ ?_⟩
 clear hK K
 simp only [Zs, Zz]
 have HM2 := hideP (HM.out.below hb2)
 have HB2 := hideP (HB1.out.trans (hb2.mono HB1.out.size))
 clear HM HB1 hb2
 refine Za1 (by kernel_rfl) (fun K hK => ?_)
 go_simp
 refine hK _ _ ?_
 clear hK K
 refine Zad rfl (fun K hK => ?_)
 go_simp
 refine hK _ _ ?_
 clear hK K
 refine wpList_nil ?_
 refine HK1.out _ _ ?_
 clear HK1 K1
 refine wp_cond_false rfl ?_
 refine wp_skip ?_
 refine HK2.out _ _ ?_
 clear HK2 K2
 refine Zae (fun K1 HK1 => ?_)
 refine wp_region_list ?_
 refine Zad rfl (fun K hK => ?_)
 go_simp
 refine hK _ _ ?_
 clear hK K
 refine Zad rfl (fun K hK => ?_)
 go_simp
 refine hK _ _ ?_
 clear hK K
 obtain ⟨r, g1, g2, _, hC, _⟩ := HM2.out.ex
 obtain ⟨f1, f2, f3, f4⟩ := Zkh
 refine Zad rfl (fun K hK => ?_)
 refine ZaX (av := #[.pointer (some ⟨c, 0, none⟩)]) _ _ 17 rfl rfl (by simp only [List.map_toArray, List.map_cons, List.map_nil]; rfl) (en Tryz.func16) (P4.Zll hC) ?_
 intro x3 hb3
 refine hK _ _ ?_
 clear hK K
 simp only [Zs, Zz]
 refine Zad rfl (fun K hK => ?_)
 refine P4.ZbD 65 _ #[(0, .int .u64 2)] 18 rfl rfl (by simp only [List.map_toArray, List.map_cons, List.map_nil]; rfl) (v := .agg (W4.cs (limb 2))) (by kernel_rfl) ?_
 refine hK _ _ ?_
 clear hK K
 simp only [Zs, Zz]
 refine Zad rfl (fun K hK => ?_)
 have hmul := P4.ZjK (hC.below hb3) P4.cX P4.cY f1 f2 false 2 (by decide)
 rw [mul_2, Zgm] at hmul
 refine ZaX (av := #[.pointer (some ⟨c, 0, none⟩), .agg (P4.pt P4.cX P4.cY false), .agg (W4.cs (limb 2))]) _ _ 19 rfl rfl (by simp only [List.map_toArray, List.map_cons, List.map_nil]; rfl) (en Tryz.func43) hmul ?_
 clear hmul
 intro x4 hb4
 refine hK _ _ ?_
 clear hK K
 simp only [Zs, Zz]
 have h24 : Below x2.heap.size x2 x4 := hb3.trans (hb4.mono hb3.size)
 have HC4 := hideP (hC.below h24)
 have HB4 := hideP (HB2.out.trans (h24.mono HB2.out.size))
 clear hC hb3 hb4 h24 HB2 HM2
 refine Zad rfl (fun K hK => ?_)
 go_simp
 refine hK _ _ ?_
 clear hK K
 refine Zad rfl (fun K hK => ?_)
 go_simp
 refine hK _ _ ?_
 clear hK K
 refine Zad rfl (fun K hK => ?_)
 go_simp
 refine hK _ _ ?_
 clear hK K
 refine Zad rfl (fun K hK => ?_)
 go_simp
 refine hK _ _ ?_
 clear hK K
 refine ZaT (fun x4a hx => ?_)
 have hbn : ∃ C : Array Value, x4a.heap[x4.heap.size]? = some (.cells C 34 (0, 0)) ∧ C.size = 9 := by
  rw [hx]
  exact ⟨_, Zaf _ _, rfl⟩
 have hbe : Below x4.heap.size x4 x4a := by
  rw [hx]
  exact (Below.refl _ _).alloc (Nat.le_refl _) _
 clear hx
 obtain ⟨Cn, hbn, hsn⟩ := hbn
 have hQ := KQ.start hbn hsn
 refine Zav rfl 34 (.tmp 2) (.tmp 20) rfl rfl x4.heap.size 0 (P4.pt dx2 dy2 false) rfl rfl (hQ.there (P4.Zau _ _ _)) (P4.infoA (P4.Zau _ _ _)) (P4.Zdm _ _ _) ?_
 have gn := hQ.put (C := P4.pt dx2 dy2 false) (P4.Zau _ _ _)
 have hQ2 := hQ.store (C := P4.pt dx2 dy2 false) (P4.Zau _ _ _)
 generalize World.setCells x4a x4.heap.size 0 (P4.pt dx2 dy2 false).toList = x4b at gn hQ2 ⊢
 have hbs : Below x4.heap.size x4 x4b := hbe.trans hQ2.below
 have Gp := hideP gn
 clear hQ hQ2 hbn hbe gn hsn
 have HC5 := hideP (HC4.out.below hbs)
 have HB5 := hideP (HB4.out.trans (hbs.mono HB4.out.size))
 generalize x4.heap.size = L at *
 clear hbs HC4 HB4
 refine Zad rfl (fun K hK => ?_)
 go_simp
 refine hK _ _ ?_
 clear hK K
 refine wpList_nil ?_
 refine HK1.out _ _ ?_
 clear HK1 K1
 refine Zae (fun K1 HK1 => ?_)
 refine wp_region_list ?_
 have lL := Zab Gp.out
 refine Zax rfl 34 (.tmp 2) 22 rfl rfl L 0 (P4.pt dx2 dy2 false) rfl _ (Zag Gp.out) P4.underA rfl (P4.infoA (P4.Zau _ _ _)) ?_
 simp only [Zs, Zz]
 refine Zad rfl (fun K hK => ?_)
 refine ZaN (av := #[.agg (P4.pt dx2 dy2 false)]) _ _ 23 rfl rfl (by simp only [List.map_toArray, List.map_cons, List.map_nil]; rfl) (en Tryz.func60) (Zkc dx2 dy2 _) ?_
 rintro e x5 ⟨⟨bb, cap, rfl, hbl, hBS⟩, hb5⟩
 refine ⟨_, rfl, hK _ _ ?_⟩
 clear hK K
 simp only [Zs, Zz]
 have Gp5 := hideP ((hb5.block _ lL).trans Gp.out)
 have HC6 := hideP (HC5.out.below hb5)
 have HB6 := hideP (HB5.out.trans (hb5.mono HB5.out.size))
 have HBS := hideP hBS
 have lL5 := Zab Gp5.out
 clear Gp HC5 HB5 hb5 hBS hbl lL
 refine Zad rfl (fun K hK => ?_)
 go_simp
 refine hK _ _ ?_
 clear hK K
 refine wpList_nil ?_
 refine HK1.out _ _ ?_
 clear HK1 K1
 refine Zae (fun K1 HK1 => ?_)
 refine wp_region_list ?_
 refine Zad rfl (fun K hK => ?_)
 refine Zlr 93 _ _ 25 rfl rfl rfl rfl (Zhe x5 63 (by omega)) ?_
 refine hK _ _ ?_
 clear hK K
 simp only [Zs, Zz]
 refine ZaT (fun x6 hx6 => ?_)
 have hrow : x6.heap[x5.heap.size]? = some (.cells (cb 63 (fun _ => 0)) 5 (0, 0)) := by
  rw [hx6]
  exact Zaf _ _
 have hb6 : Below x5.heap.size x5 x6 := by
  rw [hx6]
  exact (Below.refl _ _).alloc (Nat.le_refl _) _
 clear hx6
 have hwM := HB6.out.size
 have lM := Zab hrow
 generalize hM : x5.heap.size = M at *
 refine Zad rfl (fun K hK => ?_)
 go_simp
 refine hK _ _ ?_
 clear hK K
 refine ZaT (fun x7 hx7 => ?_)
 have hone : x7.heap[x6.heap.size]? = some (.cells (cb 1 (fun _ => 1)) 5 (0, 0)) := by
  rw [hx7]
  exact Zaf _ _
 have hb7 : Below x6.heap.size x6 x7 := by
  rw [hx7]
  exact (Below.refl _ _).alloc (Nat.le_refl _) _
 clear hx7
 have hrow7 := (hb7.block _ (Zab hrow)).trans hrow
 have hM0 : M ≤ x6.heap.size := Nat.le_of_lt lM
 have hs7 := hb7.size
 generalize x6.heap.size = M1 at *
 obtain ⟨b9, cap9, x8, hr, hbl, hBS9, hb8⟩ := Zeo (f := fun _ => 0) (f2 := fun _ => 1) (n := 63) (n2 := 1) (c2 := 1) 93 (fun j => by omega) hrow7 (by omega) (by omega) (by omega) (Zkb (fun j => by omega) (by omega) hone)
 refine Zad rfl (fun K hK => ?_)
 refine ZeD (.tmp 25) (.tmp 26) 27 rfl rfl rfl rfl hr ?_
 refine hK _ _ ?_
 clear hK K hr
 simp only [Zs, Zz]
 have hM1 : M ≤ M1 := hM0
 have h78 : Below M1 x6 x8 := hb7.trans (hb8.mono hs7)
 have h58 : Below M x5 x8 := hb6.trans (h78.mono hM1)
 have hBSr : BS x8 (some ⟨b9, 0, none⟩) 64 cap9 (beh 63 (fun _ => 0) (fun _ => 1)) := hBS9
 have hread := Zkf 71 (Or.inr (Or.inr rfl)) x8 hBSr Zno
 rw [if_neg (by decide)] at hread
 have Gp8 := hideP ((h58.block _ lL5).trans Gp5.out)
 have HC8 := hideP (HC6.out.below (hM ▸ h58))
 have HB8 := hideP (HB6.out.trans (h58.mono hwM))
 have HBS8 := hideP (HBS.out.moved (hM ▸ h58))
 clear Gp5 HC6 HB6 HBS h58 h78 hb6 hb7 hb8 hrow hrow7 hone hBS9 hbl
 refine Zad rfl (fun K hK => ?_)
 refine ZaX (av := #[.slice (some ⟨b9, 0, none⟩) 64 cap9]) _ _ 28 rfl rfl (by simp only [List.map_toArray, List.map_cons, List.map_nil]; rfl) (en Tryz.func58) hread ?_
 intro x9 hb9
 refine hK _ _ ?_
 clear hK K hread hBSr
 simp only [Zs, Zz]
 have lL8 := Zab Gp8.out
 have Gp9 := hideP ((hb9.block _ lL8).trans Gp8.out)
 have HC9 := hideP (HC8.out.below hb9)
 have HB9 := hideP (HB8.out.trans (hb9.mono HB8.out.size))
 have HBS9 := hideP (HBS8.out.moved hb9)
 have lL9 := Zab Gp9.out
 clear Gp8 HC8 HB8 HBS8 hb9 lL8
 refine Zad rfl (fun K hK => ?_)
 go_simp
 refine hK _ _ ?_
 clear hK K
 refine Zad rfl (fun K hK => ?_)
 go_simp
 refine hK _ _ ?_
 clear hK K
 refine Zad rfl (fun K hK => ?_)
 go_simp
 refine hK _ _ ?_
 clear hK K
 refine Zad rfl (fun K hK => ?_)
 go_simp
 refine hK _ _ ?_
 clear hK K
 refine ZaT (fun x9a hx => ?_)
 have hbn : ∃ C : Array Value, x9a.heap[x9.heap.size]? = some (.cells C 34 (0, 0)) ∧ C.size = 9 := by
  rw [hx]
  exact ⟨_, Zaf _ _, rfl⟩
 have hbe : Below x9.heap.size x9 x9a := by
  rw [hx]
  exact (Below.refl _ _).alloc (Nat.le_refl _) _
 clear hx
 obtain ⟨Cn, hbn, hsn⟩ := hbn
 have hQ := KQ.start hbn hsn
 refine Zav rfl 34 (.tmp 5) (.tmp 29) rfl rfl x9.heap.size 0 (P4.pt 0 0 false) rfl rfl (hQ.there (P4.Zau _ _ _)) (P4.infoA (P4.Zau _ _ _)) (P4.Zdm _ _ _) ?_
 have gn := hQ.put (C := P4.pt 0 0 false) (P4.Zau _ _ _)
 have hQ2 := hQ.store (C := P4.pt 0 0 false) (P4.Zau _ _ _)
 generalize World.setCells x9a x9.heap.size 0 (P4.pt 0 0 false).toList = x9b at gn hQ2 ⊢
 have hbs : Below x9.heap.size x9 x9b := hbe.trans hQ2.below
 have Gq := hideP gn
 clear hQ hQ2 hbn hbe gn hsn
 have Gp10 := hideP ((hbs.block _ lL9).trans Gp9.out)
 have HC10 := hideP (HC9.out.below hbs)
 have HB10 := hideP (HB9.out.trans (hbs.mono HB9.out.size))
 have HBS10 := hideP (HBS9.out.moved hbs)
 clear Gp9 HC9 HB9 HBS9 hbs Gq
 refine Zad rfl (fun K hK => ?_)
 go_simp
 refine hK _ _ ?_
 clear hK K
 refine wpList_nil ?_
 refine HK1.out _ _ ?_
 clear HK1 K1
 obtain ⟨w1, w2, w3⟩ := wr_2
 have c1 : x9b.cell? ⟨bb, 1, none⟩ = some (.int .u8 6) := by
  obtain ⟨ad, e, h⟩ := HBS10.out.cell 1 (by omega)
  cases e
  rw [Zc7, w1] at h
  exact h
 have c2 : x9b.cell? ⟨bb, 2, none⟩ = some (.int .u8 68) := by
  obtain ⟨ad, e, h⟩ := HBS10.out.cell 2 (by omega)
  cases e
  rw [Zc7, w2] at h
  exact h
 have c3 : x9b.cell? ⟨bb, 63, none⟩ = some (.int .u8 196) := by
  obtain ⟨ad, e, h⟩ := HBS10.out.cell 63 (by omega)
  cases e
  rw [Zc7, w3] at h
  exact h
 clear w1 w2 w3
 refine Zae (fun K1 HK1 => ?_)
 refine wp_region_list ?_
 refine Zad rfl (fun K hK => ?_)
 go_simp
 refine hK _ _ ?_
 clear hK K
 refine Zad rfl (fun K hK => ?_)
 go_simp
 refine hK _ _ ?_
 clear hK K
 refine Zad rfl (fun K hK => ?_)
 go_simp
 refine hK _ _ ?_
 clear hK K
 refine Za1 (by kernel_rfl) (fun K hK => ?_)
 go_simp
 refine hK _ _ ?_
 clear hK K
 refine Za1 (by kernel_rfl) (fun K hK => ?_)
 go_simp
 refine hK _ _ ?_
 clear hK K
 refine Za1 (by kernel_rfl) (fun K hK => ?_)
 go_simp
 refine hK _ _ ?_
 clear hK K
 refine Zad rfl (fun K hK => ?_)
 go_simp
 refine hK _ _ ?_
 clear hK K
 refine Zad rfl (fun K hK => ?_)
 go_simp
 refine hK _ _ ?_
 clear hK K
 refine Za1 (by kernel_rfl) (fun K hK => ?_)
 go_simp
 refine hK _ _ ?_
 clear hK K
 refine Za1 (by kernel_rfl) (fun K hK => ?_)
 go_simp
 refine hK _ _ ?_
 clear hK K
 refine Za1 (by kernel_rfl) (fun K hK => ?_)
 go_simp
 refine hK _ _ ?_
 clear hK K
 refine Za1 (by kernel_rfl) (fun K hK => ?_)
 go_simp
 refine hK _ _ ?_
 clear hK K
 refine Zad rfl (fun K hK => ?_)
 go_simp
 refine hK _ _ ?_
 clear hK K
 refine Zad rfl (fun K hK => ?_)
 go_simp
 refine hK _ _ ?_
 clear hK K
 refine Za1 (by kernel_rfl) (fun K hK => ?_)
 go_simp
 refine hK _ _ ?_
 clear hK K
 refine Za1 (by kernel_rfl) (fun K hK => ?_)
 go_simp
 refine hK _ _ ?_
 clear hK K
 refine Za1 (by kernel_rfl) (fun K hK => ?_)
 go_simp
 refine hK _ _ ?_
 clear hK K
 refine Za1 (by kernel_rfl) (fun K hK => ?_)
 go_simp
 refine hK _ _ ?_
 clear hK K
 refine Zad rfl (fun K hK => ?_)
 go_simp
 refine hK _ _ ?_
 clear hK K
 refine Zad rfl (fun K hK => ?_)
 go_simp
 refine hK _ _ ?_
 clear hK K
 refine Za1 (by kernel_rfl) (fun K hK => ?_)
 go_simp
 refine hK _ _ ?_
 clear hK K
 refine Za1 (by kernel_rfl) (fun K hK => ?_)
 go_simp
 refine hK _ _ ?_
 clear hK K
 refine Za1 (by kernel_rfl) (fun K hK => ?_)
 go_simp
 refine hK _ _ ?_
 clear hK K
 refine Za1 (by kernel_rfl) (fun K hK => ?_)
 go_simp
 refine hK _ _ ?_
 clear hK K
 refine Zad rfl (fun K hK => ?_)
 go_simp
 refine hK _ _ ?_
 clear hK K
 refine Zad rfl (fun K hK => ?_)
 go_simp
 refine hK _ _ ?_
 clear hK K
 refine Za1 (by kernel_rfl) (fun K hK => ?_)
 go_simp
 refine hK _ _ ?_
 clear hK K
 refine Za1 (by kernel_rfl) (fun K hK => ?_)
 go_simp
 refine hK _ _ ?_
 clear hK K
 refine Zad rfl (fun K hK => ?_)
 go_simp
 refine hK _ _ ?_
 clear hK K
 refine Zad rfl (fun K hK => ?_)
 go_simp
 refine hK _ _ ?_
 clear hK K
 refine Za1 (by kernel_rfl) (fun K hK => ?_)
 go_simp
 refine hK _ _ ?_
 clear hK K
 refine Za1 (by kernel_rfl) (fun K hK => ?_)
 refine Za8 34 (.tmp 2) 62 rfl rfl L 0 (P4.pt dx2 dy2 false) rfl _ (Zag Gp10.out) P4.underA rfl (by rw [Array.length_toList]; exact P4.infoA (P4.Zau _ _ _)) ?_
 refine hK _ _ ?_
 clear hK K
 simp only [Zs, Zz]
 have hgd := P4.Zf0 HC10.out dx2 dy2 f3 f4 false
 rw [good_2] at hgd
 refine Za1 (by kernel_rfl) (fun K hK => ?_)
 refine ZbM (.tmp 61) (.tmp 62) _ 63 rfl rfl rfl rfl (en Tryz.func35) hgd ?_
 intro x10 hb10
 refine hK _ _ ?_
 clear hK K hgd
 simp only [Zs, Zz]
 have Gp11 := hideP ((hb10.block _ (Zab Gp10.out)).trans Gp10.out)
 have HB11 := hideP (HB10.out.trans (hb10.mono HB10.out.size))
 clear Gp10 HB10 HC10 HBS10 hb10 c1 c2 c3
 refine Za1 (by kernel_rfl) (fun K hK => ?_)
 go_simp
 refine hK _ _ ?_
 clear hK K
 refine Zad rfl (fun K hK => ?_)
 go_simp
 refine hK _ _ ?_
 clear hK K
 refine Zad rfl (fun K hK => ?_)
 go_simp
 refine hK _ _ ?_
 clear hK K
 refine Za1 (by kernel_rfl) (fun K hK => ?_)
 go_simp
 refine hK _ _ ?_
 clear hK K
 refine Za1 (by kernel_rfl) (fun K hK => ?_)
 have hf := P4.pt_i Gp11.out
 go_simp
 refine hK _ _ ?_
 clear hK K hf
 refine Za1 (by kernel_rfl) (fun K hK => ?_)
 go_simp
 refine hK _ _ ?_
 clear hK K
 refine Zad rfl (fun K hK => ?_)
 go_simp
 refine hK _ _ ?_
 clear hK K
 refine Zad rfl (fun K hK => ?_)
 go_simp
 refine hK _ _ ?_
 clear hK K
 refine wpList_nil ?_
 refine HK1.out _ _ ?_
 clear HK1 K1
 refine wp_ret ?_
 exact bodyPost_ret_by (results_tmp rfl _ _ _) rfl ⟨rfl, HB11.out⟩
theorem ZhV {P : Program} {t e e3 : TypeId} {d n : Nat} {f1 f2 f3 f4 f5 : Field} {d1 : TypeDesc} {A1 B1 C1 D1 A2 B2 C2 D2 : Array Value} {i1 i2 ba bb bc bd : Bool} {w : World} (hu : P.underlying t = some (.struct #[f1, f2, f3, f4, f5])) (hst : P.stoodInHeld t = false)
  (hn1 : f1.name ≠ "_") (hn2 : f2.name ≠ "_") (hn3 : f3.name ≠ "_") (hn4 : f4.name ≠ "_") (hn5 : f5.name ≠ "_") (ht1 : f1.type = e) (ht2 : f2.type = e) (ht3 : f3.type = e) (ht4 : f4.type = e) (ht5 : f5.type = e3) (ho1 : f1.offset = 0) (ho2 : f2.offset = n) (ho3 : f3.offset = n + n) (ho4 : f4.offset = n + n + n) (ho5 : f5.offset = n + n + n + n)
  (hu1 : P.underlying e = some d1) (hd1 : d1.isRow = true) (hi1 : (P.info? e).map (·.size) = some n) (hk : P.plainKey e3 = true)
  (ha1 : A1.size = n) (hb1 : B1.size = n) (hc1 : C1.size = n) (hd1' : D1.size = n) (ha2 : A2.size = n) (hb2 : B2.size = n) (hc2 : C2.size = n) (hd2 : D2.size = n)
  (ea : (Op.equalIn d e (.agg A1) (.agg A2)).run P w = .ok ba w) (eb : (Op.equalIn d e (.agg B1) (.agg B2)).run P w = .ok bb w) (ec : (Op.equalIn d e (.agg C1) (.agg C2)).run P w = .ok bc w) (ed : (Op.equalIn d e (.agg D1) (.agg D2)).run P w = .ok bd w) (ei : (Op.equalIn d e3 (.bool i1) (.bool i2)).run P w = .ok (i1 == i2) w) :
  (Op.equalIn (d + 1) t (.agg (A1 ++ (B1 ++ (C1 ++ (D1 ++ #[.bool i1]))))) (.agg (A2 ++ (B2 ++ (C2 ++ (D2 ++ #[.bool i2])))))).run P w = .ok (ba && (bb && (bc && (bd && (i1 == i2))))) w := by
 have hp : (program : Sem Program).run P w = .ok P w := rfl
 have pa1 := ZaO (P := P) (w := w) (A := #[]) (off := 0) (X := A1) (C := B1 ++ (C1 ++ (D1 ++ #[.bool i1]))) hu1 hd1 hi1 rfl ha1
 have pa2 := ZaO (P := P) (w := w) (A := #[]) (off := 0) (X := A2) (C := B2 ++ (C2 ++ (D2 ++ #[.bool i2]))) hu1 hd1 hi1 rfl ha2
 have pb1 := ZaO (P := P) (w := w) (A := A1) (X := B1) (C := C1 ++ (D1 ++ #[.bool i1])) hu1 hd1 hi1 ha1 hb1
 have pb2 := ZaO (P := P) (w := w) (A := A2) (X := B2) (C := C2 ++ (D2 ++ #[.bool i2])) hu1 hd1 hi1 ha2 hb2
 have pc1 := ZaO (P := P) (w := w) (A := A1 ++ B1) (off := n + n) (X := C1) (C := D1 ++ #[.bool i1]) hu1 hd1 hi1 (by rw [Array.size_append, ha1, hb1]) hc1
 have pc2 := ZaO (P := P) (w := w) (A := A2 ++ B2) (off := n + n) (X := C2) (C := D2 ++ #[.bool i2]) hu1 hd1 hi1 (by rw [Array.size_append, ha2, hb2]) hc2
 have pd1 := ZaO (P := P) (w := w) (A := A1 ++ (B1 ++ C1)) (off := n + n + n) (X := D1) (C := #[.bool i1]) hu1 hd1 hi1 (by rw [Array.size_append, Array.size_append, ha1, hb1, hc1]; omega) hd1'
 have pd2 := ZaO (P := P) (w := w) (A := A2 ++ (B2 ++ C2)) (off := n + n + n) (X := D2) (C := #[.bool i2]) hu1 hd1 hi1 (by rw [Array.size_append, Array.size_append, ha2, hb2, hc2]; omega) hd2
 have r1 : (part e3 (A1 ++ (B1 ++ (C1 ++ (D1 ++ #[.bool i1])))) (n + n + n + n)).run P w = .ok (.bool i1) w := run_part_plain _ hk (by rw [Array.getElem?_append_right (by omega), Array.getElem?_append_right (by omega), Array.getElem?_append_right (by omega), Array.getElem?_append_right (by omega), show n + n + n + n - A1.size - B1.size - C1.size - D1.size = 0 by omega]; rfl)
 have r2 : (part e3 (A2 ++ (B2 ++ (C2 ++ (D2 ++ #[.bool i2])))) (n + n + n + n)).run P w = .ok (.bool i2) w := run_part_plain _ hk (by rw [Array.getElem?_append_right (by omega), Array.getElem?_append_right (by omega), Array.getElem?_append_right (by omega), Array.getElem?_append_right (by omega), show n + n + n + n - A2.size - B2.size - C2.size - D2.size = 0 by omega]; rfl)
 simp only [Array.append_assoc] at pc1 pc2 pd1 pd2
 rw [Array.empty_append] at pa1 pa2
 generalize hA : A1 ++ (B1 ++ (C1 ++ (D1 ++ #[.bool i1]))) = X1 at *
 generalize hB : A2 ++ (B2 ++ (C2 ++ (D2 ++ #[.bool i2]))) = X2 at *
 unfold Op.equalIn
 simp only [Sem.run_bind, run_underlying hu w, Result.andThen, hp, hst]
 generalize hc : (i1 == i2) = c at *
 cases ba <;> cases bb <;> cases bc <;> cases bd <;> cases c <;> simp [Sem.run_bind, hn1, hn2, hn3, hn4, hn5, ht1, ht2, ht3, ht4, ht5, ho1, ho2, ho3, ho4, ho5, pa1, pa2, pb1, pb2, pc1, pc2, pd1, pd2, r1, r2, ea, eb, ec, ed, ei, Result.andThen]
noncomputable def Zeq : Array Field := fsOf (Tryz.prog.underlying 30)
theorem eqPn {a b c d a' b' c' d' : Nat} (i i' : Bool) (ha : a < W6.R) (hb : b < W6.R) (hc : c < W6.R) (hd : d < W6.R) (ha' : a' < W6.R) (hb' : b' < W6.R) (hc' : c' < W6.R) (hd' : d' < W6.R) (w : World) :
  (Op.equalIn 10000 30 (.agg (pn a b c d i)) (.agg (pn a' b' c' d' i'))).run Tryz.prog w = .ok (decide (a = a') && (decide (b = b') && (decide (c = c') && (decide (d = d') && (i == i'))))) w := by
 rw [Zcg, Zcg]
 have e : ∀ x : Nat, P6.nv x = W6.cs (limb x) := P6.Za3
 have q := fun (x y : Nat) (hx : x < W6.R) (hy : y < W6.R) => P6.eqv 9997 hx hy w
 simp only [e] at q
 have ei : (Op.equalIn 9999 4 (.bool i) (.bool i')).run Tryz.prog w = .ok (i == i') w := by
  unfold Op.equalIn
  simp [go_sem]
 exact ZhV (P := Tryz.prog) (d := 9999) (n := 6) (e := 28) (e3 := 4) (f1 := Zeq[0]!) (f2 := Zeq[1]!) (f3 := Zeq[2]!) (f4 := Zeq[3]!) (f5 := Zeq[4]!) (by kernel_rfl) (by kernel_rfl) (by decide +kernel) (by decide +kernel) (by decide +kernel) (by decide +kernel) (by decide +kernel) (by kernel_rfl) (by kernel_rfl) (by kernel_rfl) (by kernel_rfl) (by kernel_rfl) (by kernel_rfl) (by kernel_rfl) (by kernel_rfl) (by kernel_rfl) (by kernel_rfl) P6.underE rfl (by kernel_rfl) (by kernel_rfl)
  (W6.Za6 _) (W6.Za6 _) (W6.Za6 _) (W6.Za6 _) (W6.Za6 _) (W6.Za6 _) (W6.Za6 _) (W6.Za6 _) (q _ _ ha ha') (q _ _ hb hb') (q _ _ hc hc') (q _ _ hd hd') ei
theorem gqPn : Tryz.prog.eqGuardType Tryz.prog.depth 30 = false := by kernel_rfl
def MD4 : VP := fun v w => ∃ c, v = .pointer (some ⟨c, 0, none⟩) ∧ C4.Made w c
theorem Zls : Stab MD4 := by
 rintro v w w' ⟨c, rfl, h⟩ hb
 exact ⟨c, rfl, h.below hb⟩
theorem MD4.moved {v : Value} {w w' : World} (h : MD4 v w) (hb : Below w.heap.size w w') : MD4 v w' := Zls v w w' h hb
theorem bn_L (w : World) : Calls Tryz.prog 13 #[] w fun r w' => (∃ v, r = .returned v ∧ MD4 v w') ∧ Below w.heap.size w w' := by
 refine (C4.ZcQ w).mono ?_
 rintro r w' ⟨⟨c, rfl, _, h⟩, hb⟩
 exact ⟨⟨_, rfl, c, rfl, h⟩, hb⟩
theorem Zkj {n : Nat} (hn : n = 4 ∨ n = 6) (a b : Nat) (hb : ∀ j, j < n → limb b j = limb a j) (w : World) : Calls Tryz.prog 110 #[.agg (W6.cs (limb a)), .int .i64 n] w fun r w' => (∃ v', r = .returned v' ∧ LW w' v' n (limb b)) ∧ Below w.heap.size w w' := by
 have HB := hideP hb
 have HN := hideP hn
 clear hb
 go_enter Tryz.func110, Tryz.ntmps110
 refine Zae (fun K0 HK0 => ?_)
 go_wp2_with fail
 refine HK0.out _ _ ?_
 clear HK0 K0
 refine Zaj (fun W0 hW0 => ?_)
 have hB0 : W0.heap[w.heap.size]? = some (.cells (W6.cs (limb a)) 28 (0, 0)) := by
  rw [hW0]
  exact Zaf _ _
 have HBW : Hid (Below w.heap.size w W0) := by
  show Below _ _ _
  rw [hW0]
  repeat first | exact Below.refl _ _ | (refine Below.alloc ?_ (by simp <;> omega) _)
 have hLW : LW W0 (.slice (some ⟨w.heap.size, 0, none⟩) n 6) n (limb a) := ⟨_, _, _, rfl, by omega, by decide, Zab hB0, fun j hj => by
  rw [Nat.zero_add]
  refine Zac hB0 ?_
  match j, hj with
  | 0, _ => rfl
  | 1, _ => rfl
  | 2, _ => rfl
  | 3, _ => rfl
  | 4, _ => rfl
  | 5, _ => rfl
  | _ + 6, hj => omega⟩
 clear hW0 hB0
 obtain ⟨g, cap, w9, hr9, hO, hb9⟩ := ZdC (by omega) (by omega) hLW
 have H9 := hideP (And.intro hO hb9)
 clear hO hb9 hLW
 have hend : Hid (LW w9 (.slice (some ⟨g, 0, none⟩) n cap) n (limb b) ∧ Below w.heap.size w w9) := by
  refine ⟨?_, HBW.out.trans (H9.out.2.mono HBW.out.size)⟩
  rcases H9.out.1 with ⟨_, ⟨e, h9⟩ | ⟨g', cap', cur, e, h1, h2, h3, h4, h5, h6⟩⟩
  ·
   cases e
  ·
   cases e
   refine ⟨g, 0, cap, rfl, h3, h4, Zab h2, fun j hj => ?_⟩
   refine Zac h2 ?_
   rw [Nat.mul_one] at h6
   rw [Nat.zero_add]
   have e : cur[j]? = (cur.toList.take n)[j]? := by
    rw [List.getElem?_take, if_pos hj, Array.getElem?_toList]
   rw [e, h6, ZdB hj, HB.out j hj]
 rcases hn with rfl | rfl
 ·
  go_wp2_with (at_builtin; refine ZaQ rfl _ _ 37 rfl rfl rfl rfl hr9 ?_; clear hr9)
  go_ret
  exact ⟨⟨_, rfl, hend.out.1⟩, hend.out.2⟩
 ·
  go_wp2_with (at_builtin; refine ZaQ rfl _ _ 37 rfl rfl rfl rfl hr9 ?_; clear hr9)
  go_ret
  exact ⟨⟨_, rfl, hend.out.1⟩, hend.out.2⟩
def shortN (k : Nat) : Nat := if k % 8 = 1 then k else k % 18446744073709551616
theorem limb0 (k : Nat) : limb k 0 = k % 18446744073709551616 := by
 unfold limb
 rw [Nat.pow_zero, Nat.div_one]
theorem Zlt (k : Nat) (h : k % 8 ≠ 1) : W4.cs (limb (shortN k)) = #[.int .u64 (limb k 0), .int .u64 0, .int .u64 0, .int .u64 0] := by
 unfold shortN
 rw [if_neg h]
 have e : ∀ j, 0 < j → limb (k % 18446744073709551616) j = 0 := fun j hj => ZcG (n := 1) (by rw [Nat.pow_one]; exact Nat.mod_lt _ (by decide)) hj
 show #[Value.int .u64 (limb _ 0), .int .u64 (limb _ 1), .int .u64 (limb _ 2), .int .u64 (limb _ 3)] = _
 rw [e 1 (by decide), e 2 (by decide), e 3 (by decide), limb0, limb0, Nat.mod_mod]
 rfl
theorem mod8 (k : Nat) : limb k 0 % 8 = k % 8 := by
 rw [limb0]
 omega
theorem Zkk (k : Nat) (w : World) : Calls Tryz.prog 32 #[.agg (W4.cs (limb k))] w fun r w' => r = .returned (.agg (W4.cs (limb (shortN k)))) ∧ Below w.heap.size w w' := by
 have h8 := mod8 k
 have HE : Hid (k % 8 = 1 → W4.cs (limb (shortN k)) = #[.int .u64 (limb k 0), .int .u64 (limb k 1), .int .u64 (limb k 2), .int .u64 (limb k 3)]) := fun h => by
  unfold shortN
  rw [if_pos h]
  rfl
 have HE2 := hideP (Zlt k)
 rw [show W4.cs (limb k) = #[.int .u64 (limb k 0), .int .u64 (limb k 1), .int .u64 (limb k 2), .int .u64 (limb k 3)] from rfl]
 generalize W4.cs (limb (shortN k)) = R at *
 generalize limb k 0 = a at *
 generalize limb k 1 = b at *
 generalize limb k 2 = c at *
 generalize limb k 3 = d at *
 go_enter Tryz.func32, Tryz.ntmps32
 by_cases hk : k % 8 = 1
 ·
  have hm : a % 8 = 1 := by omega
  obtain rfl := HE.out hk
  clear HE HE2 h8
  have hm2 : (a : Int) % 8 = 1 := by omega
  go_wp2_with fail
  refine bodyPost_ret_by (ZaD rfl rfl (loadC _ (w.heap.size + 1) 0 65 _ (.array 4 27) (Zag (Zat _ _ _)) (by kernel_rfl) rfl (by kernel_rfl))) rfl ?_
  exact ⟨rfl, by repeat first | exact Below.refl _ _ | (refine Below.setCell ?_ (by simp <;> omega) _) | (refine Below.alloc ?_ (by simp <;> omega) _)⟩
 ·
  have hm : ¬ a % 8 = 1 := by omega
  obtain rfl := HE2.out hk
  clear HE HE2 h8
  have hm2 : ¬ (a : Int) % 8 = 1 := by omega
  go_wp2_with fail
  refine bodyPost_ret_by (ZaD rfl rfl (loadC _ (w.heap.size + 1) 0 65 _ (.array 4 27) (Zag (Zat _ _ _)) (by kernel_rfl) rfl (by kernel_rfl))) rfl ?_
  exact ⟨rfl, by repeat first | exact Below.refl _ _ | (refine Below.setCell ?_ (by simp <;> omega) _) | (refine Below.alloc ?_ (by simp <;> omega) _)⟩
end Go.Proofs.YtcbdbnfgnonacaaGreat
