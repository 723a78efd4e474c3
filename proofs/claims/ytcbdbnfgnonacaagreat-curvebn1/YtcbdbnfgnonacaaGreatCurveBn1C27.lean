/-
 A point out of bytes: bn254's E1, all of it.
-/
import Derived.Test.YtcbdbnfgnonacaaGreatCurveBn1C26
set_option maxHeartbeats 4000000
set_option maxRecDepth 100000
namespace Go.Proofs.YtcbdbnfgnonacaaGreat.P4
open Go.RowKit Go.Shelf
noncomputable def te (o b x y : K) (k : Nat) : Array Value := Classical.choose (⟨_, rfl⟩ : ∃ C : Array Value, C = nv o ++ (nv b ++ (pt x y false ++ W4.cs (limb k))))
theorem Zep (o b x y : K) (k : Nat) : te o b x y k = nv o ++ (nv b ++ (pt x y false ++ W4.cs (limb k))) := Classical.choose_spec (⟨_, rfl⟩ : ∃ C : Array Value, C = nv o ++ (nv b ++ (pt x y false ++ W4.cs (limb k))))
abbrev gcE : List Ch := [.s (.ov 0), .e 0 (.c 0), .e 0 (.v 0), .e 0 (.v 1), .e 1 (.v 2), .e 1 (.v 3), fE, .e 2 (.c 0)]
set_option maxRecDepth 100000
theorem Zbd {w : World} {p m : Nat} (hG : FAt w p m) (b bx bY : K) (k : Nat) (h1 : Fits k1) (hb : Fits b) : Calls Tryz.prog 73 #[ifv p, .agg (te k1 b bx bY k)] w fun e w' => (∃ g, e = .returned (.pointer (some ⟨g, 0, none⟩)) ∧ w.heap.size ≤ g ∧ GAt w' g p m b ∧ GB w' g bx bY k) ∧ Below w.heap.size w w' := by
 have h := Zk9 (A := al ⟨m, 0, p, b, bx, bY, k, v5 k1 b bx bY bY, fun _ => false, 0⟩) (β := fun _ => 0) mixed (ZfW (X := noT) (XL := noX) (fl := fit2) (G := []) hG (fits2 h1 hb) (fun _ h => by cases h) (ZdN w) (noL w)) Tryz.func73 (fuel := 100) (args := [.one (.ov 0), .row [.e 1 (.v 0), .e 1 (.v 1), .e 1 (.v 2), .e 1 (.v 3), fE, .e 2 (.c 0)]]) (l := gcE) (t := 235) (by kernel_rfl)
 have e : ((al ⟨m, 0, p, b, bx, bY, k, v5 k1 b bx bY bY, fun _ => false, 0⟩).rw (fun _ => 0) [.e 1 (.v 0), .e 1 (.v 1), .e 1 (.v 2), .e 1 (.v 3), fE, .e 2 (.c 0)]).toArray = te k1 b bx bY k := by
  rw [Zep, Zbh]
  apply Array.toList_inj.1
  simp [Al.rw, Al.ch, Al.sc, Al.cx, Al.d]
  rfl
 simp only [List.map_cons, List.map_nil, Al.sv, e] at h
 refine h.mono fun e' w' hw => ?_
 obtain ⟨g, rfl, hg, hc, hb⟩ := hw
 have hr := Zag hc
 rw [List.toList_toArray] at hr
 have H := hG.below hb
 have hs := Zab hc
 refine ⟨⟨g, rfl, hg, ⟨?_, ?_, ?_, ?_, H.ok, hs, H.plt⟩, ⟨?_, ?_, hs⟩⟩, hb⟩
 ·
  exact Za2 hr (m := [.s (.ov 0)]) (o := 0) (k := 1) (by kernel_rfl) 0 _ rfl
 ·
  have := Za2 hr (m := [.e 0 (.c 0)]) (o := 1) (k := 4) (by kernel_rfl)
  simp [Al.rw, Al.ch] at this
  exact this
 ·
  have := Za2 hr (m := [.e 0 (.v 0)]) (o := 1 + 4) (k := 4) (by kernel_rfl)
  simp [Al.rw, Al.ch] at this
  exact this
 ·
  have := Za2 hr (m := [.e 0 (.v 1)]) (o := 1 + 2 * 4) (k := 4) (by kernel_rfl)
  simp [Al.rw, Al.ch] at this
  exact this
 ·
  have := Za2 hr (m := [.e 1 (.v 2), .e 1 (.v 3), fE]) (o := 1 + 3 * 4) (k := 2 * 4 + 1) (by kernel_rfl)
  rw [Zbh]
  simp [Al.rw, Al.ch, Al.sc, Al.cx] at this ⊢
  exact this
 ·
  have := Za2 hr (m := [.e 2 (.c 0)]) (o := 2 + 5 * 4) (k := 4) (by kernel_rfl)
  simp [Al.rw, Al.ch] at this
  exact this
def cB : K := 3
def cX : K := 1
def cY : K := 2
noncomputable def tR : List Ch := match runS Tryz.prog sz (env0 (factT [(154, [], .row [.e 2 (.c 0)])])) Tryz.f74 100 [] with
 | some (.row l) => l
 | _ => []
set_option maxRecDepth 100000
theorem Zhf (A : Al sz) (h : ∀ x, (A.cells 2 x).toList = (W4.cs (limb nBnR)).toList) : (A.rw (fun _ => 0) tR).toArray = te k1 cB cX cY nBnR := by
 have h : ∀ x, A.ch (fun _ => 0) (.e 2 x) = (W4.cs (limb nBnR)).toList := fun x => h _
 rw [Zep, Zbh, Za3, Za3, Za3, Za3]
 apply Array.toList_inj.1
 rw [show tR = (tR.take (4 * 4 + 1)) ++ [.e 2 (.c 0)] by kernel_rfl, Ze3]
 simp only [Al.rw, h, List.append_nil]
 kernel_rfl
theorem ZbF (w : World) : Calls Tryz.prog 74 #[] w fun e w' => e = .returned (.agg (te k1 cB cX cY nBnR)) ∧ Below w.heap.size w w' := by
 have := ZfQ (w := w) (A := al ⟨0, 0, 0, k0, k0, k0, nBnR, fun _ => k0, fun _ => false, 0⟩) (β := fun _ => 0) mixed (ZcY (Zcy (l := [(154, [], .row [.e 2 (.c 0)])]) ⟨⟨en Tryz.func154, fun β V _ => by
  simp only [Al.sv, rw_w, List.map_nil]
  exact Zh6 V⟩, trivial⟩)) Tryz.func74 (fuel := 100) (args := []) (y := .row tR) (by kernel_rfl)
 simp only [Al.sv, List.map_nil] at this
 rw [Zhf _ (fun _ => rfl)] at this
 exact this
end Go.Proofs.YtcbdbnfgnonacaaGreat.P4
namespace Go.Proofs.YtcbdbnfgnonacaaGreat.Q4
open Go.RowKit Go.Shelf
noncomputable def te (o b x y : K) (k : Nat) : Array Value := Classical.choose (⟨_, rfl⟩ : ∃ C : Array Value, C = nv o ++ (nv b ++ (pt x y false ++ W4.cs (limb k))))
theorem Zep (o b x y : K) (k : Nat) : te o b x y k = nv o ++ (nv b ++ (pt x y false ++ W4.cs (limb k))) := Classical.choose_spec (⟨_, rfl⟩ : ∃ C : Array Value, C = nv o ++ (nv b ++ (pt x y false ++ W4.cs (limb k))))
abbrev gcE : List Ch := [.s (.ov 0), .e 0 (.c 0), .e 0 (.v 0), .e 0 (.v 1), .e 1 (.v 2), .e 1 (.v 3), fE, .e 2 (.c 0)]
set_option maxRecDepth 100000
theorem Zbd {w : World} {p m : Nat} (hG : FAt w p m) (b bx bY : K) (k : Nat) (h1 : Fits k1) (hb : Fits b) : Calls Tryz.prog 75 #[ifv p, .agg (te k1 b bx bY k)] w fun e w' => (∃ g, e = .returned (.pointer (some ⟨g, 0, none⟩)) ∧ w.heap.size ≤ g ∧ GAt w' g p m b ∧ GB w' g bx bY k) ∧ Below w.heap.size w w' := by
 have h := Zk9 (A := al ⟨m, 0, p, b, bx, bY, k, v5 k1 b bx bY bY, fun _ => false, 0⟩) (β := fun _ => 0) mixed (ZfW (X := noT) (XL := noX) (fl := fit2) (G := []) hG (fits2 h1 hb) (fun _ h => by cases h) (ZdN w) (noL w)) Tryz.func75 (fuel := 100) (args := [.one (.ov 0), .row [.e 1 (.v 0), .e 1 (.v 1), .e 1 (.v 2), .e 1 (.v 3), fE, .e 2 (.c 0)]]) (l := gcE) (t := 240) (by kernel_rfl)
 have e : ((al ⟨m, 0, p, b, bx, bY, k, v5 k1 b bx bY bY, fun _ => false, 0⟩).rw (fun _ => 0) [.e 1 (.v 0), .e 1 (.v 1), .e 1 (.v 2), .e 1 (.v 3), fE, .e 2 (.c 0)]).toArray = te k1 b bx bY k := by
  rw [Zep, Zbh]
  apply Array.toList_inj.1
  simp [Al.rw, Al.ch, Al.sc, Al.cx, Al.d]
  rfl
 simp only [List.map_cons, List.map_nil, Al.sv, e] at h
 refine h.mono fun e' w' hw => ?_
 obtain ⟨g, rfl, hg, hc, hb⟩ := hw
 have hr := Zag hc
 rw [List.toList_toArray] at hr
 have H := hG.below hb
 have hs := Zab hc
 refine ⟨⟨g, rfl, hg, ⟨?_, ?_, ?_, ?_, H.ok, hs, H.plt⟩, ⟨?_, ?_, hs⟩⟩, hb⟩
 ·
  exact Za2 hr (m := [.s (.ov 0)]) (o := 0) (k := 1) (by kernel_rfl) 0 _ rfl
 ·
  have := Za2 hr (m := [.e 0 (.c 0)]) (o := 1) (k := 8) (by kernel_rfl)
  simp [Al.rw, Al.ch] at this
  exact this
 ·
  have := Za2 hr (m := [.e 0 (.v 0)]) (o := 1 + 8) (k := 8) (by kernel_rfl)
  simp [Al.rw, Al.ch] at this
  exact this
 ·
  have := Za2 hr (m := [.e 0 (.v 1)]) (o := 1 + 2 * 8) (k := 8) (by kernel_rfl)
  simp [Al.rw, Al.ch] at this
  exact this
 ·
  have := Za2 hr (m := [.e 1 (.v 2), .e 1 (.v 3), fE]) (o := 1 + 3 * 8) (k := 2 * 8 + 1) (by kernel_rfl)
  rw [Zbh]
  simp [Al.rw, Al.ch, Al.sc, Al.cx] at this ⊢
  exact this
 ·
  have := Za2 hr (m := [.e 2 (.c 0)]) (o := 2 + 5 * 8) (k := 4) (by kernel_rfl)
  simp [Al.rw, Al.ch] at this
  exact this
def cB : K := (19485874751759354771024239261021720505790618469301721065564631296452457478373, 266929791119991161246907387137283842545076965332900288569378510910307636690)
def cX : K := (10857046999023057135944570762232829481370756359578518086990519993285655852781, 11559732032986387107991004021392285783925812861821192530917403151452391805634)
def cY : K := (8495653923123431417604973247489272438418190587263600148770280649306958101930, 4082367875863433681332203403145435568316851327593401208105741076214120093531)
noncomputable def tR : List Ch := match runS Tryz.prog sz (env0 (factT [(154, [], .row [.e 2 (.c 0)])])) Tryz.f76 100 [] with
 | some (.row l) => l
 | _ => []
set_option maxRecDepth 100000
theorem Zhf (A : Al sz) (h : ∀ x, (A.cells 2 x).toList = (W4.cs (limb nBnR)).toList) : (A.rw (fun _ => 0) tR).toArray = te k1 cB cX cY nBnR := by
 have h : ∀ x, A.ch (fun _ => 0) (.e 2 x) = (W4.cs (limb nBnR)).toList := fun x => h _
 rw [Zep, Zbh, Za3, Za3, Za3, Za3, P4.Za3, P4.Za3, P4.Za3, P4.Za3, P4.Za3, P4.Za3, P4.Za3, P4.Za3]
 apply Array.toList_inj.1
 rw [show tR = (tR.take (4 * 8 + 1)) ++ [.e 2 (.c 0)] by kernel_rfl, Ze3]
 simp only [Al.rw, h, List.append_nil]
 kernel_rfl
theorem ZbF (w : World) : Calls Tryz.prog 76 #[] w fun e w' => e = .returned (.agg (te k1 cB cX cY nBnR)) ∧ Below w.heap.size w w' := by
 have := ZfQ (w := w) (A := al ⟨0, 0, 0, k0, k0, k0, nBnR, fun _ => k0, fun _ => false, 0⟩) (β := fun _ => 0) mixed (ZcY (Zcy (l := [(154, [], .row [.e 2 (.c 0)])]) ⟨⟨en Tryz.func154, fun β V _ => by
  simp only [Al.sv, rw_w, List.map_nil]
  exact Zh6 V⟩, trivial⟩)) Tryz.func76 (fuel := 100) (args := []) (y := .row tR) (by kernel_rfl)
 simp only [Al.sv, List.map_nil] at this
 rw [Zhf _ (fun _ => rfl)] at this
 exact this
end Go.Proofs.YtcbdbnfgnonacaaGreat.Q4
namespace Go.Proofs.YtcbdbnfgnonacaaGreat.C4
open Go.RowKit Go.Shelf
structure Made (w : World) (c : Nat) : Prop where
 ex : ∃ r g1 g2, w.cell? ⟨c, 0, none⟩ = some (.pointer (some ⟨r, 0, none⟩)) ∧ P4.CAt w c g1 r nBnP P4.cB P4.cX P4.cY nBnR ∧ Q4.CAt w c g2 r nBnP Q4.cB Q4.cX Q4.cY nBnR
theorem Made.below {w w' : World} {c : Nat} (h : Made w c) (hb : Below w.heap.size w w') : Made w' c := by
 obtain ⟨r, g1, g2, h0, h1, h2⟩ := h.ex
 exact ⟨r, g1, g2, (hb.cell (p := ⟨c, 0, none⟩) h1.clt).trans h0, h1.below hb, h2.below hb⟩
theorem Zf5 (r : Nat) (w : World) : (Instr.build 131 #[(0, .pointer (some ⟨r, 0, none⟩))]).run Tryz.prog w = .ok (.agg #[.pointer (some ⟨r, 0, none⟩)]) w := by kernel_rfl
theorem Zhg (r g1 g2 : Nat) (w : World) : (Instr.build 117 #[(0, .pointer (some ⟨r, 0, none⟩)), (1, .pointer (some ⟨g1, 0, none⟩)), (2, .pointer (some ⟨g2, 0, none⟩))]).run Tryz.prog w = .ok (.agg #[.pointer (some ⟨r, 0, none⟩), .pointer (some ⟨g1, 0, none⟩), .pointer (some ⟨g2, 0, none⟩)]) w := by kernel_rfl
theorem ZcQ (w : World) : Calls Tryz.prog 13 #[] w fun e w' => (∃ c, e = .returned (.pointer (some ⟨c, 0, none⟩)) ∧ w.heap.size ≤ c ∧ Made w' c) ∧ Below w.heap.size w w' := by
 go_enter Tryz.func13, Tryz.ntmps13
 refine Zae (fun K0 HK0 => ?_)
 go_wp2_with fail
 refine HK0.out _ _ ?_
 clear HK0 K0
 refine Zae (fun K1 HK1 => ?_)
 refine wp_region_list ?_
 refine Zad rfl (fun K hK => ?_)
 refine ZaX (av := #[]) _ _ 4 rfl rfl (by simp only [List.map_toArray, List.map_nil]) (en Tryz.func72) (Zla _) ?_
 intro x1 hb1
 refine hK _ _ ?_
 clear hK K
 simp only [Zs, Zz]
 refine Zad rfl (fun K hK => ?_)
 refine ZaN (av := #[.agg (W4.cs (limb nBnP))]) _ _ 5 rfl rfl (by simp only [List.map_toArray, List.map_cons, List.map_nil]; rfl) (en Tryz.func71) (W4.ZgD nBnP (by decide +kernel) (by decide +kernel) (by decide +kernel) x1) ?_
 rintro e x2 ⟨r, rfl, hr1, hgood, hb2⟩
 refine ⟨_, rfl, hK _ _ ?_⟩
 clear hK K
 simp only [Zs, Zz]
 have hB2 : Below w.heap.size w x2 := hb1.trans (hb2.mono hb1.size)
 have hFA : P4.FAt x2 r nBnP := by
  obtain ⟨f, h1, h2⟩ := hgood.ex
  exact ⟨hgood, h2.lt⟩
 have hr0 : w.heap.size ≤ r := Nat.le_trans hb1.size hr1
 have HF := hideP hFA
 have HB2 := hideP hB2
 clear hgood hFA hB2 hb1 hb2 hr1
 iterate 5
  refine Zad rfl (fun K hK => ?_)
  go_simp
  refine hK _ _ ?_
  clear hK K
 refine wpList_nil ?_
 refine HK1.out _ _ ?_
 clear HK1 K1
 refine Zae (fun K1 HK1 => ?_)
 refine wp_region_list ?_
 iterate 3
  refine Zad rfl (fun K hK => ?_)
  go_simp
  refine hK _ _ ?_
  clear hK K
 refine Zad rfl (fun K hK => ?_)
 refine ZaX (av := #[]) _ _ 11 rfl rfl (by simp only [List.map_toArray, List.map_nil]) (en Tryz.func74) (P4.ZbF _) ?_
 intro x3 hb3
 refine hK _ _ ?_
 clear hK K
 simp only [Zs, Zz]
 refine Zad rfl (fun K hK => ?_)
 refine ZaN (av := #[P4.ifv r, .agg (P4.te P4.k1 P4.cB P4.cX P4.cY nBnR)]) _ _ 12 rfl rfl (by simp only [List.map_toArray, List.map_cons, List.map_nil]; rfl) (en Tryz.func73) (P4.Zbd (HF.out.below hb3) _ _ _ _ (by unfold P4.Fits; decide +kernel) (by unfold P4.Fits; decide +kernel)) ?_
 rintro e x4 ⟨⟨g1, rfl, hg1, ga1, gb1⟩, hb4⟩
 refine ⟨_, rfl, hK _ _ ?_⟩
 clear hK K
 simp only [Zs, Zz]
 have h24 : Below x2.heap.size x2 x4 := hb3.trans (hb4.mono hb3.size)
 have hF4 := HF.out.below h24
 have HG1 := hideP (And.intro ga1 gb1)
 clear ga1 gb1 hb3 hb4 hg1
 refine Zad rfl (fun K hK => ?_)
 go_simp
 refine hK _ _ ?_
 clear hK K
 refine Zad rfl (fun K hK => ?_)
 refine P4.ZbD 131 _ #[(0, .pointer (some ⟨r, 0, none⟩))] 14 rfl rfl (by simp only [List.map_toArray, List.map_cons, List.map_nil]; rfl) (v := .agg #[.pointer (some ⟨r, 0, none⟩)]) (Zf5 r _) ?_
 refine hK _ _ ?_
 clear hK K
 simp only [Zs, Zz]
 refine Zad rfl (fun K hK => ?_)
 go_simp
 refine hK _ _ ?_
 clear hK K
 refine Zad rfl (fun K hK => ?_)
 refine ZaX (av := #[]) _ _ 16 rfl rfl (by simp only [List.map_toArray, List.map_nil]) (en Tryz.func76) (Q4.ZbF _) ?_
 intro x5 hb5
 refine hK _ _ ?_
 clear hK K
 simp only [Zs, Zz]
 have hF5 := hF4.below hb5
 refine Zad rfl (fun K hK => ?_)
 refine ZaN (av := #[Q4.ifv r, .agg (Q4.te Q4.k1 Q4.cB Q4.cX Q4.cY nBnR)]) _ _ 17 rfl rfl (by simp only [List.map_toArray, List.map_cons, List.map_nil]; rfl) (en Tryz.func75) (Q4.Zbd ⟨hF5.ok, hF5.plt⟩ _ _ _ _ (by unfold Q4.Fits P4.Fits; decide +kernel) (by unfold Q4.Fits P4.Fits; decide +kernel)) ?_
 rintro e x6 ⟨⟨g2, rfl, hg2, ga2, gb2⟩, hb6⟩
 refine ⟨_, rfl, hK _ _ ?_⟩
 clear hK K
 simp only [Zs, Zz]
 have h46 : Below x4.heap.size x4 x6 := hb5.trans (hb6.mono hb5.size)
 have HG2 := hideP (And.intro ga2 gb2)
 clear ga2 gb2 hb5 hb6 hg2 hF5 hF4
 refine Zad rfl (fun K hK => ?_)
 refine P4.ZbD 117 _ #[(0, .pointer (some ⟨r, 0, none⟩)), (1, .pointer (some ⟨g1, 0, none⟩)), (2, .pointer (some ⟨g2, 0, none⟩))] 18 rfl rfl (by simp only [List.map_toArray, List.map_cons, List.map_nil]; rfl) (Zhg r g1 g2 _) ?_
 refine hK _ _ ?_
 clear hK K
 simp only [Zs, Zz]
 refine Zad rfl (fun K hK => ?_)
 go_simp
 refine hK _ _ ?_
 clear hK K
 refine ZaT (fun x7 hx7 => ?_)
 have h7 := Zaf x6 (.cells #[.pointer (some ⟨r, 0, none⟩), .pointer (some ⟨g1, 0, none⟩), .pointer (some ⟨g2, 0, none⟩)] 117 (0, 0))
 have h67 := (Below.refl x6.heap.size x6).alloc (Nat.le_refl _) (.cells #[.pointer (some ⟨r, 0, none⟩), .pointer (some ⟨g1, 0, none⟩), .pointer (some ⟨g2, 0, none⟩)] 117 (0, 0))
 rw [← hx7] at h7 h67
 clear hx7
 have h47 : Below x4.heap.size x4 x7 := h46.trans (h67.mono h46.size)
 have h27 : Below x2.heap.size x2 x7 := h24.trans (h47.mono h24.size)
 have hlc := Zab h7
 have HM : Hid (Made x7 x6.heap.size) := ⟨r, g1, g2, Zac h7 rfl, ⟨Zac h7 rfl, HG1.out.1.below h47, HG1.out.2.below h47, hlc⟩, ⟨Zac h7 rfl, HG2.out.1.below h67, HG2.out.2.below h67, hlc⟩⟩
 have HW : Hid (Below w.heap.size w x7) := HB2.out.trans (h27.mono HB2.out.size)
 have hsz : w.heap.size ≤ x6.heap.size := Nat.le_trans HB2.out.size (Nat.le_trans h24.size h46.size)
 clear h7 h67 h47 h27 h24 h46 HG1 HG2 hlc
 refine Zad rfl (fun K hK => ?_)
 go_simp
 refine hK _ _ ?_
 clear hK K
 refine wpList_nil ?_
 refine HK1.out _ _ ?_
 refine wp_ret ?_
 exact bodyPost_ret_by (results_tmp rfl _ _ _) rfl ⟨⟨x6.heap.size, rfl, hsz, HM.out⟩, HW.out⟩
end Go.Proofs.YtcbdbnfgnonacaaGreat.C4
namespace Go.Proofs.YtcbdbnfgnonacaaGreat
open Go.RowKit Go.Shelf
theorem elemB : Tryz.prog.elem 93 = 5 := by kernel_rfl
theorem undB' : Tryz.prog.underlying 93 = some (.slice (Tryz.prog.elem 93)) := by kernel_rfl
theorem Zlp (ad : Addr) (a b : Nat) : (ad.add a).add b = ad.add (a + b) := by
 unfold Addr.add
 by_cases ha : a = 0 <;> by_cases hb : b = 0 <;> simp [ha, hb, Nat.add_assoc]
theorem Zlq {w : World} {ao : Option Addr} {n c : Nat} {bs : Nat → Nat} (h : BS w ao n c bs) (lo hi : Nat) (h1 : lo < hi) (h2 : hi ≤ n) :
  ∃ ao', (∀ W, (Instr.sliceAt 93 (.slice ao n c) (some (.int .i64 (lo : Int))) (some (.int .i64 (hi : Int))) none).run Tryz.prog W = .ok (.slice ao' (hi - lo) (c - lo)) W) ∧ BS w ao' (hi - lo) (c - lo) (fun j => bs (lo + j)) := by
 obtain ⟨i0, hi0, hz0, hz1, hz2⟩ := info_parts Tryz.bytes5
 have hle := h.le
 obtain ⟨ad, rfl, _⟩ := h.cell lo (by omega)
 refine ⟨some (ad.add lo), fun W => ?_, ⟨fun j => h.lt _, by omega, Nat.le_trans (Nat.sub_le _ _) h.room, fun j hj => ⟨_, rfl, ?_⟩, fun h => by cases h⟩⟩
 ·
  rw [run_sliceAt_slice _ _ _ _ _ _ undB', run_slice_lh _ _ _ _ _ undB' _ _ _ _ (by omega) (by omega) (by omega), elemB]
  have hs : (sizeOf 5).run Tryz.prog W = .ok 1 W := by
   simp [sizeOf, typeInfo, Sem.run_bind, hi0, hz1, go_sem]
  rw [hs]
  show Result.ok (sliced _ _ _ _ _) W = _
  unfold sliced
  rw [Int.toNat_natCast, Int.toNat_natCast, if_neg (by omega), Nat.mul_one]
  rfl
 ·
  obtain ⟨ad', e, hc⟩ := h.cell (lo + j) (by omega)
  cases e
  rw [Zlp]
  exact hc
theorem Zkd {P : Program} {op : Oper} {l : List Value} {ds : List Deferred} {w : World} {K : Act → World → Prop} {Q : Exit → Act → World → Prop} (t : TypeId) (x a b : Operand) (d : Nat) (ho : op.op = .slice t x (some a) (some b) none) (hd : op.dst = some d) {xv av bv v : Value}
  (hx : Act.eval { tmps := l.toArray, defers := ds } x = xv) (ha : Act.eval { tmps := l.toArray, defers := ds } a = av) (hb : Act.eval { tmps := l.toArray, defers := ds } b = bv) (hr : (Instr.sliceAt t xv (some av) (some bv) none).run P w = .ok v w)
  (h : K { tmps := (l.set d v).toArray, defers := ds } w) : op.wp P { tmps := l.toArray, defers := ds } w K Q := by
 have hk : K (Act.put { tmps := l.toArray, defers := ds } op.dst v) w := by rw [hd, Zaa]; exact h
 unfold Oper.wp
 simp [execOp, ho, hx, ha, hb, hr, Result.andThen]
 exact hk
theorem Znm {ao : Option Addr} {n c : Nat} {bs : Nat → Nat} (hn : n ≤ 32) (w : World) (h : BS w ao n c bs) : Calls Tryz.prog 206 #[.slice ao n c] w fun r w' => r = .returned (.tuple #[.agg (P4.nv (bv bs n n)), .int .i64 0]) ∧ Below w.heap.size w w' := by
 rw [P4.Za3]
 exact W4.Znl hn w h
theorem ZeE (i : Nat) (hi : i ≤ 3) {ao : Option Addr} {n c : Nat} {bs : Nat → Nat} (hn : 32 * (i + 1) ≤ n) (w : World) (h : BS w ao n c bs) : Calls Tryz.prog 133 #[.slice ao n c, .int .i64 (i : Int)] w fun e w' => e = .returned (.agg (P4.nv (bv (fun j => bs (32 * i + j)) 32 32))) ∧ Below w.heap.size w w' := by
 obtain ⟨ao', hrun, hBS⟩ := Zlq h (32 * i) (32 * (i + 1)) (by omega) hn
 rw [show 32 * (i + 1) - 32 * i = 32 by omega] at hrun hBS
 have e1 : IntKind.i64.wrap (32 * (i : Int)) = ((32 * i : Nat) : Int) := by rw [IntKind.wrap_i64]; omega
 have e2 : IntKind.i64.wrap ((i : Int) + 1) = (i : Int) + 1 := by rw [IntKind.wrap_i64]; omega
 have e3 : IntKind.i64.wrap (32 * ((i : Int) + 1)) = ((32 * (i + 1) : Nat) : Int) := by rw [IntKind.wrap_i64]; omega
 have HR := hideP hrun
 have HB := hideP hBS
 clear hrun hBS h
 generalize hX : bv (fun j => bs (32 * i + j)) 32 32 = X at *
 have HX := hideP hX
 clear hX
 go_enter Tryz.func133, Tryz.ntmps133
 refine Zae (fun K0 HK0 => ?_)
 go_wp2_with fail
 refine HK0.out _ _ ?_
 clear HK0 K0
 refine Zaj (fun W0 hW0 => ?_)
 have hbr : ∃ C : Array Value, W0.heap[w.heap.size]? = some (.cells C 32 (0, 0)) ∧ C.size = 4 := by
  rw [hW0]
  exact ⟨_, Zaf _ _, rfl⟩
 have hbw : Below w.heap.size w W0 := by
  rw [hW0]
  exact (Below.refl _ _).alloc (Nat.le_refl _) _
 clear hW0
 obtain ⟨C, hC, hs⟩ := hbr
 have HC := hideP hC
 have hlt := Zab hC
 have HB0 := hideP (HB.out.moved hbw)
 have HBW := hideP hbw
 clear hC hbw HB
 generalize w.heap.size = N at *
 refine Zae (fun K1 HK1 => ?_)
 refine wp_region_list ?_
 generalize hL : ((32 * i : Nat) : Int) = Lo at *
 generalize hH : ((32 * (i + 1) : Nat) : Int) = Hi at *
 have HLH := hideP (And.intro hL hH)
 clear hL hH
 iterate 6
  refine Zad rfl (fun K hK => ?_)
  go_simp
  refine hK _ _ ?_
  clear hK K
 refine Zad rfl (fun K hK => ?_)
 refine Zkd 93 (.tmp 8) (.tmp 10) (.tmp 13) 14 rfl rfl rfl rfl rfl (HR.out W0) ?_
 refine hK _ _ ?_
 clear hK K
 simp only [Zs, Zz]
 refine Zad rfl (fun K hK => ?_)
 refine ZaX (av := #[.slice ao' 32 (c - 32 * i)]) _ _ 15 rfl rfl (by simp only [List.map_toArray, List.map_cons, List.map_nil]; rfl) (en Tryz.func206) (Znm (by omega) W0 HB0.out) ?_
 intro x1 hb1
 refine hK _ _ ?_
 clear hK K
 simp only [Zs, Zz]
 rw [HX.out]
 iterate 3
  refine Zad rfl (fun K hK => ?_)
  go_simp
  refine hK _ _ ?_
  clear hK K
 refine Zad rfl (fun K hK => ?_)
 go_simp
 refine hK _ _ ?_
 clear hK K
 refine ZaT (fun x2 hx2 => ?_)
 have hb5 : ∃ C : Array Value, x2.heap[x1.heap.size]? = some (.cells C 32 (0, 0)) ∧ C.size = 4 := by
  rw [hx2]
  exact ⟨_, Zaf _ _, rfl⟩
 have hb2 : Below x1.heap.size x1 x2 := by
  rw [hx2]
  exact (Below.refl _ _).alloc (Nat.le_refl _) _
 clear hx2
 obtain ⟨C5, hb5, hs5⟩ := hb5
 have o1 : W0.heap.size ≤ x1.heap.size := hb1.size
 have hB2 : Below W0.heap.size W0 x2 := hb1.trans (hb2.mono o1)
 generalize x1.heap.size = L at *
 have hQ := KQ.start hb5 hs5
 refine Zav rfl 32 (.tmp 5) (.tmp 16) rfl rfl L 0 (P4.nv X) rfl rfl (hQ.there (P4.Zao _)) (P4.infoE (P4.Zao _)) (P4.Zba _) ?_
 have g5 := hQ.put (C := P4.nv X) (P4.Zao _)
 have hQ2 := hQ.store (C := P4.nv X) (P4.Zao _)
 generalize World.setCells x2 L 0 (P4.nv X).toList = x3 at g5 hQ2 ⊢
 have hB3 : Below W0.heap.size W0 x3 := hB2.trans (hQ2.below.mono o1)
 clear hQ hQ2 hb5 hB2 hb2 hb1
 refine Zad rfl (fun K hK => ?_)
 go_simp
 refine hK _ _ ?_
 clear hK K
 refine wpList_nil ?_
 refine HK1.out _ _ ?_
 clear HK1 K1
 refine Zae (fun K1 HK1 => ?_)
 refine wp_region_list ?_
 refine Zax rfl 32 (.tmp 5) 18 rfl rfl L 0 (P4.nv X) rfl _ (Zag g5) P4.underE rfl (P4.infoE (P4.Zao _)) ?_
 simp only [Zs, Zz]
 have hQ := KQ.start ((hB3.block _ hlt).trans HC.out) hs
 refine Zav rfl 32 (.tmp 4) (.tmp 18) rfl rfl N 0 (P4.nv X) rfl rfl (hQ.there (P4.Zao _)) (P4.infoE (P4.Zao _)) (P4.Zba _) ?_
 have g1 := hQ.put (C := P4.nv X) (P4.Zao _)
 have hS := hQ.store (C := P4.nv X) (P4.Zao _)
 generalize World.setCells x3 N 0 (P4.nv X).toList = x4 at g1 hS ⊢
 refine wpList_nil ?_
 refine HK1.out _ _ ?_
 refine wp_ret ?_
 exact bodyPost_ret_by (ZaD rfl rfl (loadC _ N 0 32 (P4.nv X) _ (Zag g1) P4.underE rfl (P4.infoE (P4.Zao _)))) rfl ⟨rfl, HBW.out.trans ((hB3.mono (by omega)).trans hS.below)⟩
theorem eqA {x y x' y' : Nat} (hx : P4.Fits x) (hy : P4.Fits y) (hx' : P4.Fits x') (hy' : P4.Fits y') (i i' : Bool) (W : World) : (Op.equalIn 10000 34 (.agg (P4.pt x y i)) (.agg (P4.pt x' y' i'))).run Tryz.prog W = .ok (decide (x = x') && (decide (y = y') && (i == i'))) W := by
 have iE : (Tryz.prog.info? 32).map (·.size) = some 4 := by rw [P4.infoE (P4.Zao x), P4.Zao]
 rw [P4.Zbh, P4.Zbh]
 exact ZdP (f1 := (fsOf (Tryz.prog.underlying 34))[0]!) (f2 := (fsOf (Tryz.prog.underlying 34))[1]!) (f3 := (fsOf (Tryz.prog.underlying 34))[2]!) (e1 := 32) (e2 := 32) (e3 := 4) (d := 9999) (n1 := 4) (n2 := 4) (by kernel_rfl) (by kernel_rfl) (by decide +kernel) (by decide +kernel) (by decide +kernel) (by kernel_rfl) (by kernel_rfl) (by kernel_rfl) (by kernel_rfl) (by kernel_rfl) (by kernel_rfl)
  P4.underE rfl iE P4.underE rfl iE (by kernel_rfl) (P4.Zao _) (P4.Zao _) (P4.Zao _) (P4.Zao _) (P4.eqN 9997 hx hx' W) (P4.eqN 9997 hy hy' W) (P4.eqB 9998 i i' W)
theorem gqA : Tryz.prog.eqGuardType Tryz.prog.depth 34 = false := by kernel_rfl
theorem pt_put (x y : Nat) (i j : Bool) : (P4.pt x y i).setIfInBounds 8 (.bool j) = P4.pt x y j := by
 rw [P4.Zbh, P4.Zbh]
 have h1 := P4.Zao x
 have h2 := P4.Zao y
 refine Array.ext_getElem? fun k => ?_
 by_cases hk : k = 8
 ·
  subst hk
  rw [Array.getElem?_setIfInBounds_self_of_lt (by simp; omega), Array.getElem?_append_right (by omega), Array.getElem?_append_right (by omega), h1, h2]
  rfl
 ·
  rw [Array.getElem?_setIfInBounds_ne (by omega)]
  by_cases h3 : k < 4
  ·
   rw [Array.getElem?_append_left (by omega), Array.getElem?_append_left (by omega)]
  ·
   rw [Array.getElem?_append_right (xs := P4.nv x) (ys := P4.nv y ++ #[Value.bool i]) (by omega), Array.getElem?_append_right (xs := P4.nv x) (ys := P4.nv y ++ #[Value.bool j]) (by omega), h1]
   by_cases h4 : k - 4 < 4
   ·
    rw [Array.getElem?_append_left (xs := P4.nv y) (ys := #[Value.bool i]) (by omega), Array.getElem?_append_left (xs := P4.nv y) (ys := #[Value.bool j]) (by omega)]
   ·
    rw [Array.getElem?_append_right (xs := P4.nv y) (ys := #[Value.bool i]) (by omega), Array.getElem?_append_right (xs := P4.nv y) (ys := #[Value.bool j]) (by omega), Array.getElem?_eq_none (by simp; omega), Array.getElem?_eq_none (by simp; omega)]
theorem bd_a0 (w : World) : (Instr.build 34 #[]).run Tryz.prog w = .ok (.agg (P4.pt 0 0 false)) w := by
 rw [P4.Zbh, P4.Za3]
 kernel_rfl
theorem bd_a2 (x y : Nat) (w : World) : (Instr.build 34 #[(0, .agg (P4.nv x)), (1, .agg (P4.nv y))]).run Tryz.prog w = .ok (.agg (P4.pt x y false)) w := by
 rw [P4.Zbh]
 refine Zbv (fs := fsOf (Tryz.prog.underlying 34)) (z := #[] ++ (P4.zn ++ (P4.zn ++ #[.bool false]))) (places := #[(0, 4), (4, 4), (2 * 4, 1)]) (by kernel_rfl) (by kernel_rfl) (by kernel_rfl) ?_
 rw [Zb6 (X := P4.nv x) rfl (off := 0) (size := 4) rfl (P4.Zao _) rfl P4.Zfm, Array.empty_append]
 rw [Zb6 (X := P4.nv y) rfl (off := 4) (size := 4) rfl (P4.Zao _) (P4.Zao _) P4.Zfm]
 rfl
theorem Zke {bs : Nat → Nat} (h : ∀ j, bs j < 256) : P4.Fits (bv bs 32 32) := by
 have h1 := Zmo h 32 32
 have e : (256 : Nat) ^ 32 = W4.R := by decide +kernel
 rw [e] at h1
 exact h1
def rx1 (bs : Nat → Nat) : Nat := bv (fun j => bs (32 * 0 + j)) 32 32
def ry1 (bs : Nat → Nat) : Nat := bv (fun j => bs (32 * 1 + j)) 32 32
def ri1 (bs : Nat → Nat) : Bool := decide (rx1 bs = 0) && (decide (ry1 bs = 0) && (false == false))
def re1 (bs : Nat → Nat) : Int := P4.goodN nBnP P4.cB (rx1 bs) (ry1 bs) (ri1 bs)
theorem ZeF {P : Program} {op : Oper} {l : List Value} {ds : List Deferred} {w : World} {K : Act → World → Prop} {Q : Exit → Act → World → Prop} (t : TypeId) (d : Nat) (ho : op.op = .build t #[]) (hd : op.dst = some d) {v : Value} (hb : (Instr.build t #[]).run P w = .ok v w) (h : K { tmps := (l.set d v).toArray, defers := ds } w) : op.wp P { tmps := l.toArray, defers := ds } w K Q := by
 have e : (execOp (Act.eval { tmps := l.toArray, defers := ds }) op).run P w = .ok (.value v) w := by
  unfold execOp
  simp only [ho, List.map_toArray, List.map_nil, Sem.run_bind, hb, Result.andThen, Sem.run_pure]
 unfold Oper.wp
 rw [e]
 show K _ _
 rw [hd, Zaa]
 exact h
theorem Zkf (e0 : Int) (he0 : e0 = 0 ∨ e0 = 70 ∨ e0 = 71) {ao : Option Addr} {c : Nat} {bs : Nat → Nat} (w : World) (h : BS w ao 64 c bs) (hre : re1 bs = e0) : Calls Tryz.prog 58 #[.slice ao 64 c] w fun e w' => e = .returned (.tuple #[.agg (if e0 = 0 then P4.pt (rx1 bs) (ry1 bs) (ri1 bs) else P4.pt 0 0 false), .int .i64 e0]) ∧ Below w.heap.size w w' := by
 have hX : P4.Fits (rx1 bs) := Zke (fun j => h.lt _)
 have hY : P4.Fits (ry1 bs) := Zke (fun j => h.lt _)
 have HS := hideP h
 have HRE := hideP hre
 clear h hre
 go_enter Tryz.func58, Tryz.ntmps58
 refine Zae (fun K0 HK0 => ?_)
 go_wp2_with fail
 refine HK0.out _ _ ?_
 clear HK0 K0
 refine Zaj (fun W0 hW0 => ?_)
 have hbr : ∃ C : Array Value, W0.heap[w.heap.size]? = some (.cells C 34 (0, 0)) ∧ C.size = 9 := by
  rw [hW0]
  exact ⟨_, Zaf _ _, rfl⟩
 have hbw : Below w.heap.size w W0 := by
  rw [hW0]
  exact (Below.refl _ _).alloc (Nat.le_refl _) _
 clear hW0
 obtain ⟨C, hC, hs⟩ := hbr
 have HC := hideP hC
 have hlt := Zab hC
 have HS0 := hideP (HS.out.moved hbw)
 have HBW := hideP hbw
 clear hC hbw HS
 generalize w.heap.size = N at *
 refine Zae (fun K2 HK2 => ?_)
 refine Zae (fun K1 HK1 => ?_)
 go_wp2_with fail
 refine HK1.out _ _ ?_
 clear HK1 K1
 refine wp_cond_false rfl ?_
 refine wp_skip ?_
 refine HK2.out _ _ ?_
 clear HK2 K2
 refine Zae (fun K1 HK1 => ?_)
 refine wp_region_list ?_
 refine Zad rfl (fun K hK => ?_)
 go_simp
 refine hK _ _ ?_
 clear hK K
 refine Zad rfl (fun K hK => ?_)
 refine ZaX (av := #[.slice ao 64 c, .int .i64 ((0 : Nat) : Int)]) _ _ 11 rfl rfl (by simp only [List.map_toArray, List.map_cons, List.map_nil]; rfl) (en Tryz.func133) (ZeE 0 (by omega) (by omega) W0 HS0.out) ?_
 intro x1 hb1
 refine hK _ _ ?_
 clear hK K
 simp only [Zs, Zz]
 refine Zad rfl (fun K hK => ?_)
 go_simp
 refine hK _ _ ?_
 clear hK K
 refine Zad rfl (fun K hK => ?_)
 refine ZaX (av := #[.slice ao 64 c, .int .i64 ((1 : Nat) : Int)]) _ _ 13 rfl rfl (by simp only [List.map_toArray, List.map_cons, List.map_nil]; rfl) (en Tryz.func133) (ZeE 1 (by omega) (by omega) x1 (HS0.out.moved hb1)) ?_
 intro x2 hb2
 refine hK _ _ ?_
 clear hK K
 simp only [Zs, Zz]
 have hB2 : Below W0.heap.size W0 x2 := hb1.trans (hb2.mono hb1.size)
 clear hb1 hb2
 refine Zad rfl (fun K hK => ?_)
 refine P4.ZbD 34 _ #[(0, .agg (P4.nv (rx1 bs))), (1, .agg (P4.nv (ry1 bs)))] 14 rfl rfl (by simp only [List.map_toArray, List.map_cons, List.map_nil]; rfl) (bd_a2 _ _ x2) ?_
 refine hK _ _ ?_
 clear hK K
 simp only [Zs, Zz]
 generalize hXX : rx1 bs = X at *
 generalize hYY : ry1 bs = Y at *
 have hii : ri1 bs = (decide (X = 0) && (decide (Y = 0) && (false == false))) := by unfold ri1; rw [hXX, hYY]
 generalize hI : ri1 bs = ib at *
 have hE : P4.goodN nBnP P4.cB X Y ib = e0 := by
  have := HRE.out
  unfold re1 at this
  rwa [hXX, hYY, hI] at this
 have HE := hideP hE
 have HII := hideP hii
 clear hXX hYY hI hE hii HRE
 refine Zad rfl (fun K hK => ?_)
 go_simp
 refine hK _ _ ?_
 clear hK K
 refine ZaT (fun x3 hx3 => ?_)
 have hb4 : ∃ C : Array Value, x3.heap[x2.heap.size]? = some (.cells C 34 (0, 0)) ∧ C.size = 9 := by
  rw [hx3]
  exact ⟨_, Zaf _ _, rfl⟩
 have hb3 : Below x2.heap.size x2 x3 := by
  rw [hx3]
  exact (Below.refl _ _).alloc (Nat.le_refl _) _
 clear hx3
 obtain ⟨Cq, hb4, hs4⟩ := hb4
 have o1 : W0.heap.size ≤ x2.heap.size := hB2.size
 have hB3 : Below W0.heap.size W0 x3 := hB2.trans (hb3.mono o1)
 generalize x2.heap.size = L at *
 have hQ := KQ.start hb4 hs4
 refine Zav rfl 34 (.tmp 4) (.tmp 14) rfl rfl L 0 (P4.pt X Y false) rfl rfl (hQ.there (P4.Zau _ _ _)) (P4.infoA (P4.Zau _ _ _)) (P4.Zdm _ _ _) ?_
 have g4 := hQ.put (C := P4.pt X Y false) (P4.Zau _ _ _)
 have hQ2 := hQ.store (C := P4.pt X Y false) (P4.Zau _ _ _)
 generalize World.setCells x3 L 0 (P4.pt X Y false).toList = x4 at g4 hQ2 ⊢
 have hB4 : Below W0.heap.size W0 x4 := hB3.trans (hQ2.below.mono o1)
 clear hQ hQ2 hb4 hB3 hb3 hB2
 refine wpList_nil ?_
 refine HK1.out _ _ ?_
 clear HK1 K1
 refine Zae (fun K1 HK1 => ?_)
 refine wp_region_list ?_
 refine Zax rfl 34 (.tmp 4) 15 rfl rfl L 0 (P4.pt X Y false) rfl _ (Zag g4) P4.underA rfl (P4.infoA (P4.Zau _ _ _)) ?_
 simp only [Zs, Zz]
 refine Zad rfl (fun K hK => ?_)
 refine ZeF 34 16 rfl rfl (bd_a0 x4) ?_
 refine hK _ _ ?_
 clear hK K
 simp only [Zs, Zz]
 refine Zad rfl (fun K hK => ?_)
 refine Zm6 34 34 (.tmp 15) (.tmp 16) 17 rfl rfl rfl rfl gqA (eqA hX hY P4.Zfl P4.Zfl false false x4) ?_
 refine hK _ _ ?_
 clear hK K
 simp only [Zs, Zz]
 rw [show (decide (X = P4.k0) && (decide (Y = P4.k0) && (false == false))) = ib from HII.out.symm]
 refine Zad rfl (fun K hK => ?_)
 go_simp
 refine hK _ _ ?_
 clear hK K
 refine Zad rfl (fun K hK => ?_)
 have hf := P4.pt_i g4
 have hfr : x4.frozen? ⟨L, 8, none⟩ = false := Zap g4
 have G4 := hideP g4
 clear g4
 go_simp
 refine hK _ _ ?_
 clear hK K hf hfr
 refine ZaT (fun x5 hx5 => ?_)
 have g5 : x5.heap[L]? = some (.cells (P4.pt X Y ib) 34 (0, 0)) := by
  rw [hx5, ← pt_put X Y false ib]
  exact Zaw G4.out _
 have hb5 : Below L x4 x5 := by
  rw [hx5]
  exact ((But.refl L x4).set _ _).below
 clear hx5
 have hB5 : Below W0.heap.size W0 x5 := hB4.trans (hb5.mono o1)
 clear hb5 G4 hB4
 refine wpList_nil ?_
 refine HK1.out _ _ ?_
 clear HK1 K1
 have l5 := Zab g5
 have G5 := hideP g5
 clear g5
 refine Zae (fun K3 HK3 => ?_)
 refine Zae (fun K1 HK1 => ?_)
 refine Zai (S := fun V => Below x5.heap.size x5 V) (by kernel_rfl) (Below.refl _ _).drew (fun hS => ?_)
 refine Zak (i := 1) (v := .agg (P4.pt X Y ib)) rfl (by kernel_rfl) (by kernel_rfl) (by kernel_rfl) (fun _ _ _ h => h) (Zbu (by kernel_rfl) 34 _ rfl L 0 rfl (P4.pt X Y ib) _ (fun V hV => Zag ((hV.block _ l5).trans G5.out)) P4.underA rfl (P4.infoA (P4.Zau _ _ _))) hS ?_
 simp only [Zaa, Zs, Zz]
 refine rd1 0 (fun K hK => ?_)
 refine Za7 (by kernel_rfl) ?_
 refine ZaN (av := #[]) _ _ 19 rfl rfl (by simp only [List.map_toArray, List.map_nil]) (en Tryz.func13) (C4.ZcQ _) ?_
 rintro e x6 ⟨⟨cc, rfl, hcl, hM⟩, hb6⟩
 obtain ⟨r, g1, g2, _, hC1, _⟩ := hM.ex
 refine ⟨_, rfl, hK.out _ _ (hS.trans (hb6.mono hS.size)) (fun hS => ?_)⟩
 clear hK K hb6 hM hcl
 simp only [Zs, Zz]
 refine rd1 2 (fun K hK => ?_)
 refine Za7 (by kernel_rfl) ?_
 refine ZbM (.tmp 19) (.tmp 20) _ 21 rfl rfl rfl rfl (en Tryz.func35) (P4.Zf0 hC1 X Y hX hY ib) ?_
 intro x7 hb7
 refine hK.out _ _ (hS.trans (hb7.mono hS.size)) (fun hS => ?_)
 clear hK K hb7
 simp only [Zs, Zz]
 refine tkG 3 hS ?_
 simp only [Zaa, Zs, Zz]
 refine wpAnyH_done (by kernel_rfl) ?_ _
 refine HK1.out _ _ ?_
 clear HK1 K1
 rw [HE.out]
 have hB7 : Below W0.heap.size W0 x7 := hB5.trans (hS.mono hB5.size)
 have hG7 := (hS.block _ l5).trans G5.out
 have hQ := KQ.start ((hB7.block _ hlt).trans HC.out) hs
 have HQ := hideP hQ
 have HG7 := hideP hG7
 have HB7 := hideP hB7
 clear hQ hG7 hB7 hS hC1 G5 HS0 HC hB5
 have hfin : ∀ (e1 : Int) (P9 : Array Value) (x9 : World), True := fun _ _ _ => trivial
 clear hfin
 rcases he0 with rfl | rfl | rfl
 ·
  rw [if_pos rfl]
  refine Zae (fun K1 HK1 => ?_)
  go_wp2_with fail
  refine HK1.out _ _ ?_
  clear HK1 K1
  refine wp_cond_false rfl ?_
  refine wp_skip ?_
  refine HK3.out _ _ ?_
  clear HK3 K3
  refine Zae (fun K1 HK1 => ?_)
  refine wp_region_list ?_
  refine Zax rfl 34 (.tmp 4) 26 rfl rfl L 0 (P4.pt X Y ib) rfl _ (Zag HG7.out) P4.underA rfl (P4.infoA (P4.Zau _ _ _)) ?_
  simp only [Zs, Zz]
  refine Zav rfl 34 (.tmp 2) (.tmp 26) rfl rfl N 0 (P4.pt X Y ib) rfl rfl (HQ.out.there (P4.Zau _ _ _)) (P4.infoA (P4.Zau _ _ _)) (P4.Zdm _ _ _) ?_
  have g1 := HQ.out.put (C := P4.pt X Y ib) (P4.Zau _ _ _)
  have hS := HQ.out.store (C := P4.pt X Y ib) (P4.Zau _ _ _)
  generalize World.setCells x7 N 0 (P4.pt X Y ib).toList = x9 at g1 hS ⊢
  refine Zad rfl (fun K hK => ?_)
  go_simp
  refine hK _ _ ?_
  clear hK K
  refine wpList_nil ?_
  refine HK1.out _ _ ?_
  refine wp_ret ?_
  exact bodyPost_ret_by (Zbs rfl rfl rfl (loadC _ N 0 34 (P4.pt X Y ib) _ (Zag g1) P4.underA rfl (P4.infoA (P4.Zau _ _ _)))) rfl ⟨rfl, HBW.out.trans ((HB7.out.mono (by omega)).trans hS.below)⟩
 all_goals
  rw [if_neg (by decide)]
  refine Zae (fun K1 HK1 => ?_)
  go_wp2_with fail
  refine HK1.out _ _ ?_
  clear HK1 K1
  refine wp_cond_true rfl ?_
  refine Zae (fun K1 HK1 => ?_)
  refine wp_region_list ?_
  refine Zad rfl (fun K hK => ?_)
  refine ZeF 34 24 rfl rfl (bd_a0 x7) ?_
  refine hK _ _ ?_
  clear hK K
  simp only [Zs, Zz]
  refine Zad rfl (fun K hK => ?_)
  go_simp
  refine hK _ _ ?_
  clear hK K
  refine Zav rfl 34 (.tmp 2) (.tmp 24) rfl rfl N 0 (P4.pt 0 0 false) rfl rfl (HQ.out.there (P4.Zau _ _ _)) (P4.infoA (P4.Zau _ _ _)) (P4.Zdm _ _ _) ?_
  have g1 := HQ.out.put (C := P4.pt 0 0 false) (P4.Zau _ _ _)
  have hS := HQ.out.store (C := P4.pt 0 0 false) (P4.Zau _ _ _)
  generalize World.setCells x7 N 0 (P4.pt 0 0 false).toList = x9 at g1 hS ⊢
  refine Zad rfl (fun K hK => ?_)
  go_simp
  refine hK _ _ ?_
  clear hK K
  refine wpList_nil ?_
  refine HK1.out _ _ ?_
  refine wp_ret ?_
  refine Zdz ?_
  exact bodyPost_ret_by (Zbs rfl rfl rfl (loadC _ N 0 34 (P4.pt 0 0 false) _ (Zag g1) P4.underA rfl (P4.infoA (P4.Zau _ _ _)))) rfl ⟨rfl, HBW.out.trans ((HB7.out.mono (by omega)).trans hS.below)⟩
end Go.Proofs.YtcbdbnfgnonacaaGreat
