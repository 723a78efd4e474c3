/-
  The four bases are those that everybody knows, they lie on their curves and belong to their groups.
-/
import Derived.Test.YtcbdbnfgnonacaaGreatCurveBasesC25
import Derived.Test.YtcbdbnfgnonacaaGreatCurveBasesC26
import Derived.Test.YtcbdbnfgnonacaaGreatCurveBasesC39
import Derived.Test.YtcbdbnfgnonacaaGreatRows
import Derived.ProofKit
import Derived.SizedLaws
import Derived.OpenShut
import Derived.Deep.CondSized
set_option maxHeartbeats 4000000
set_option maxRecDepth 100000
namespace Go.Proofs.YtcbdbnfgnonacaaGreat
open Go.RowKit Go.Shelf
theorem Zhy {P : Program} {t e e3 : TypeId} {d n : Nat} {f1 f2 f3 f4 f5 : Field} {d1 : TypeDesc} {A1 B1 C1 D1 A2 B2 C2 D2 : Array Value} {i1 i2 ba bb bc bd : Bool} {w : World} (hu : P.underlying t = some (.struct #[f1, f2, f3, f4, f5])) (hst : P.stoodInHeld t = false)
    (hn1 : f1.name ≠ "_") (hn2 : f2.name ≠ "_") (hn3 : f3.name ≠ "_") (hn4 : f4.name ≠ "_") (hn5 : f5.name ≠ "_") (ht1 : f1.type = e) (ht2 : f2.type = e) (ht3 : f3.type = e) (ht4 : f4.type = e) (ht5 : f5.type = e3) (ho1 : f1.offset = 0) (ho2 : f2.offset = n) (ho3 : f3.offset = n + n) (ho4 : f4.offset = n + n + n) (ho5 : f5.offset = n + n + n + n)
    (hu1 : P.underlying e = some d1) (hd1 : d1.isRow = true) (hi1 : (P.info? e).map (·.size) = some n) (hk : P.plainKey e3 = true)
    (ha1 : A1.size = n) (hb1 : B1.size = n) (hc1 : C1.size = n) (hd1' : D1.size = n) (ha2 : A2.size = n) (hb2 : B2.size = n) (hc2 : C2.size = n) (hd2 : D2.size = n)
    (ea : (Op.equalIn d e (.agg A1) (.agg A2)).run P w = .ok ba w) (eb : (Op.equalIn d e (.agg B1) (.agg B2)).run P w = .ok bb w) (ec : (Op.equalIn d e (.agg C1) (.agg C2)).run P w = .ok bc w) (ed : (Op.equalIn d e (.agg D1) (.agg D2)).run P w = .ok bd w) (ei : (Op.equalIn d e3 (.bool i1) (.bool i2)).run P w = .ok (i1 == i2) w) :
    (Op.equalIn (d + 1) t (.agg (A1 ++ (B1 ++ (C1 ++ (D1 ++ #[.bool i1]))))) (.agg (A2 ++ (B2 ++ (C2 ++ (D2 ++ #[.bool i2])))))).run P w = .ok (ba && (bb && (bc && (bd && (i1 == i2))))) w := by
  have hp : (program : Sem Program).run P w = .ok P w := rfl
  have pa1 := ZaM (P := P) (w := w) (A := #[]) (off := 0) (X := A1) (C := B1 ++ (C1 ++ (D1 ++ #[.bool i1]))) hu1 hd1 hi1 rfl ha1
  have pa2 := ZaM (P := P) (w := w) (A := #[]) (off := 0) (X := A2) (C := B2 ++ (C2 ++ (D2 ++ #[.bool i2]))) hu1 hd1 hi1 rfl ha2
  have pb1 := ZaM (P := P) (w := w) (A := A1) (X := B1) (C := C1 ++ (D1 ++ #[.bool i1])) hu1 hd1 hi1 ha1 hb1
  have pb2 := ZaM (P := P) (w := w) (A := A2) (X := B2) (C := C2 ++ (D2 ++ #[.bool i2])) hu1 hd1 hi1 ha2 hb2
  have pc1 := ZaM (P := P) (w := w) (A := A1 ++ B1) (off := n + n) (X := C1) (C := D1 ++ #[.bool i1]) hu1 hd1 hi1 (by rw [Array.size_append, ha1, hb1]) hc1
  have pc2 := ZaM (P := P) (w := w) (A := A2 ++ B2) (off := n + n) (X := C2) (C := D2 ++ #[.bool i2]) hu1 hd1 hi1 (by rw [Array.size_append, ha2, hb2]) hc2
  have pd1 := ZaM (P := P) (w := w) (A := A1 ++ (B1 ++ C1)) (off := n + n + n) (X := D1) (C := #[.bool i1]) hu1 hd1 hi1 (by rw [Array.size_append, Array.size_append, ha1, hb1, hc1]; omega) hd1'
  have pd2 := ZaM (P := P) (w := w) (A := A2 ++ (B2 ++ C2)) (off := n + n + n) (X := D2) (C := #[.bool i2]) hu1 hd1 hi1 (by rw [Array.size_append, Array.size_append, ha2, hb2, hc2]; omega) hd2
  have r1 : (part e3 (A1 ++ (B1 ++ (C1 ++ (D1 ++ #[.bool i1])))) (n + n + n + n)).run P w = .ok (.bool i1) w := run_part_plain _ hk (by rw [Array.getElem?_append_right (by omega), Array.getElem?_append_right (by omega), Array.getElem?_append_right (by omega), Array.getElem?_append_right (by omega), show n + n + n + n - A1.size - B1.size - C1.size - D1.size = 0 by omega]; rfl)
  have r2 : (part e3 (A2 ++ (B2 ++ (C2 ++ (D2 ++ #[.bool i2])))) (n + n + n + n)).run P w = .ok (.bool i2) w := run_part_plain _ hk (by rw [Array.getElem?_append_right (by omega), Array.getElem?_append_right (by omega), Array.getElem?_append_right (by omega), Array.getElem?_append_right (by omega), show n + n + n + n - A2.size - B2.size - C2.size - D2.size = 0 by omega]; rfl)
  simp only [Array.append_assoc] at pc1 pc2 pd1 pd2
  rw [Array.empty_append] at pa1 pa2
  generalize hA : A1 ++ (B1 ++ (C1 ++ (D1 ++ #[.bool i1]))) = X1 at *
  generalize hB : A2 ++ (B2 ++ (C2 ++ (D2 ++ #[.bool i2]))) = X2 at *
  unfold Op.equalIn
  simp only [Sem.run_bind, run_underlying hu w, Result.andThen, hp, hst]
  generalize hc : (i1 == i2) = c at *
  cases ba <;> cases bb <;> cases bc <;> cases bd <;> cases c <;> simp [Sem.run_bind, hn1, hn2, hn3, hn4, hn5, ht1, ht2, ht3, ht4, ht5, ho1, ho2, ho3, ho4, ho5, pa1, pa2, pb1, pb2, pc1, pc2, pd1, pd2, r1, r2, ea, eb, ec, ed, ei, Result.andThen]
noncomputable def ZeI : Array Field := fsOf (Tryz.prog.underlying 30)
theorem eqPn {a b c d a' b' c' d' : Nat} (i i' : Bool) (ha : a < W6.R) (hb : b < W6.R) (hc : c < W6.R) (hd : d < W6.R) (ha' : a' < W6.R) (hb' : b' < W6.R) (hc' : c' < W6.R) (hd' : d' < W6.R) (w : World) :
    (Op.equalIn 10000 30 (.agg (pn a b c d i)) (.agg (pn a' b' c' d' i'))).run Tryz.prog w = .ok (decide (a = a') && (decide (b = b') && (decide (c = c') && (decide (d = d') && (i == i'))))) w := by
  rw [Zcp, Zcp]
  have e : ∀ x : Nat, P6.nv x = W6.cs (limb x) := P6.Za3
  have q := fun (x y : Nat) (hx : x < W6.R) (hy : y < W6.R) => P6.eqv 9997 hx hy w
  simp only [e] at q
  have ei : (Op.equalIn 9999 4 (.bool i) (.bool i')).run Tryz.prog w = .ok (i == i') w := by
    unfold Op.equalIn
    simp [go_sem]
  exact Zhy (P := Tryz.prog) (d := 9999) (n := 6) (e := 28) (e3 := 4) (f1 := ZeI[0]!) (f2 := ZeI[1]!) (f3 := ZeI[2]!) (f4 := ZeI[3]!) (f5 := ZeI[4]!) (by kernel_rfl) (by kernel_rfl) (by decide +kernel) (by decide +kernel) (by decide +kernel) (by decide +kernel) (by decide +kernel) (by kernel_rfl) (by kernel_rfl) (by kernel_rfl) (by kernel_rfl) (by kernel_rfl) (by kernel_rfl) (by kernel_rfl) (by kernel_rfl) (by kernel_rfl) (by kernel_rfl) P6.underE rfl (by kernel_rfl) (by kernel_rfl)
    (W6.Za5 _) (W6.Za5 _) (W6.Za5 _) (W6.Za5 _) (W6.Za5 _) (W6.Za5 _) (W6.Za5 _) (W6.Za5 _) (q _ _ ha ha') (q _ _ hb hb') (q _ _ hc hc') (q _ _ hd hd') ei
theorem Zdu {a b c d : Nat} (i : Bool) (ha : a < W6.R) (hb : b < W6.R) (hc : c < W6.R) (hd : d < W6.R) (w : World) : (Op.equalIn 10000 30 (.agg (pn a b c d i)) (.agg (pn a b c d i))).run Tryz.prog w = .ok true w := by
  rw [eqPn i i ha hb hc hd ha hb hc hd w]
  simp
theorem gqPn : Tryz.prog.eqGuardType Tryz.prog.depth 30 = false := by kernel_rfl
def MD4 : VP := fun v w => ∃ c, v = .pointer (some ⟨c, 0, none⟩) ∧ C4.Made w c
theorem ZfE : Stab MD4 := by
  rintro v w w' ⟨c, rfl, h⟩ hb
  exact ⟨c, rfl, h.below hb⟩
def MD6 : VP := fun v w => ∃ c, v = .pointer (some ⟨c, 0, none⟩) ∧ C6.Made w c
theorem ZfF : Stab MD6 := by
  rintro v w w' ⟨c, rfl, h⟩ hb
  exact ⟨c, rfl, h.below hb⟩
theorem MD4.moved {v : Value} {w w' : World} (h : MD4 v w) (hb : Below w.heap.size w w') : MD4 v w' := ZfE v w w' h hb
theorem MD6.moved {v : Value} {w w' : World} (h : MD6 v w) (hb : Below w.heap.size w w') : MD6 v w' := ZfF v w w' h hb
theorem bn_L (w : World) : Calls Tryz.prog 13 #[] w fun r w' => (∃ v, r = .returned v ∧ MD4 v w') ∧ Below w.heap.size w w' := by
  refine (C4.ZcY w).mono ?_
  rintro r w' ⟨⟨c, rfl, _, h⟩, hb⟩
  exact ⟨⟨_, rfl, c, rfl, h⟩, hb⟩
theorem bls_L (w : World) : Calls Tryz.prog 14 #[] w fun r w' => (∃ v, r = .returned v ∧ MD6 v w') ∧ Below w.heap.size w w' := by
  refine (C6.ZcY w).mono ?_
  rintro r w' ⟨⟨c, rfl, _, h⟩, hb⟩
  exact ⟨⟨_, rfl, c, rfl, h⟩, hb⟩
theorem Zdv {P : Program} {w : World} {ρ : Operand → Value} {o : Oper} {v xv : Value} {t : TypeId} {x : Operand} {k : Nat} (ho : o.op = .field t x k) (hx : ρ x = xv) (h : (Instr.field t xv k).run P w = .ok v w) : (execOp ρ o).run P w = .ok (.value v) w := by
  unfold execOp
  simp only [ho, hx, Sem.run_bind, Sem.run_pure, Result.andThen, h]
theorem fldB (m f t d b r x y i : Value) (w : World) : (Instr.field 44 (.agg #[m, f, t, d, b, r, x, y, i]) 4).run Tryz.prog w = .ok (.agg #[x, y, i]) w := by kernel_rfl
theorem CC.base {w : World} {v : Value} {n M d : Nat} {B : List Nat} {R : Nat} {X Y : List Nat} (h : CC w v n M d B R X Y) : ∃ u, (∀ w', (Instr.field 44 v 4).run Tryz.prog w' = .ok u w') ∧ PT w u n X Y false := by
  obtain ⟨mv, fo, tv, bv, rv, xv, yv, rfl, _, _, _, _, hx, hy⟩ := h.ex
  exact ⟨_, fun w' => fldB _ _ _ _ _ _ _ _ _ w', xv, yv, rfl, hx, hy⟩
theorem ZiQ {v : Value} {w : World} (h : MD4 v w) : Calls Tryz.prog 16 #[v] w fun r w' => (∃ u, r = .returned u ∧ .agg (P4.pt P4.cX P4.cY false) = u) ∧ Below w.heap.size w w' := by
  obtain ⟨c, rfl, hm⟩ := h
  obtain ⟨r, g1, g2, h0, h1, h2⟩ := hm.ex
  exact (P4.Zcn h1).told
theorem grp_P4 {v : Value} {w : World} (h : MD4 v w) : Calls Tryz.prog 28 #[v, .agg (P4.pt P4.cX P4.cY false)] w fun r w' => (∃ u, r = .returned u ∧ .int .i64 0 = u) ∧ Below w.heap.size w w' := by
  obtain ⟨c, rfl, hm⟩ := h
  obtain ⟨r, g1, g2, h0, h1, h2⟩ := hm.ex
  have e : P4.Zbk nBnP P4.cB P4.cX P4.cY false nBnR = 0 := by decide +kernel
  have hc := P4.Zci h1 P4.cX P4.cY (by unfold P4.Fits; decide +kernel) (by unfold P4.Fits; decide +kernel) (by decide +kernel) false
  rw [e] at hc
  exact hc.told
theorem Zj4 (w : World) : Calls Tryz.prog 15 #[.agg (P4.pt P4.cX P4.cY false)] w fun r w' => (∃ u, r = .returned u ∧ .agg (pn 1 0 2 0 false) = u) ∧ Below w.heap.size w w' :=
  Calls.told (ZgE P4.cX P4.cY (by unfold P4.Fits; decide +kernel) (by unfold P4.Fits; decide +kernel) false w)
theorem of_P4 {p : Value} {w : World} (h : PT w p 4 [1] [2] false) : Calls Tryz.prog 17 #[p] w fun r w' => (∃ u, r = .returned u ∧ .agg (pn 1 0 2 0 false) = u) ∧ Below w.heap.size w w' :=
  Calls.told (of_1 (Or.inl rfl) 1 2 (by decide +kernel) (by decide +kernel) false w p h)
theorem Zk8 (w : World) : (Op.equalIn 10000 30 (.agg (pn 1 0 2 0 false)) (.agg (pn 1 0 2 0 false))).run Tryz.prog w = .ok true w := Zdu false (by decide +kernel) (by decide +kernel) (by decide +kernel) (by decide +kernel) w
theorem ZiR {v : Value} {w : World} (h : MD4 v w) : Calls Tryz.prog 20 #[v] w fun r w' => (∃ u, r = .returned u ∧ .agg (Q4.pt Q4.cX Q4.cY false) = u) ∧ Below w.heap.size w w' := by
  obtain ⟨c, rfl, hm⟩ := h
  obtain ⟨r, g1, g2, h0, h1, h2⟩ := hm.ex
  exact (Q4.Zcn h2).told
theorem grp_Q4 {v : Value} {w : World} (h : MD4 v w) : Calls Tryz.prog 29 #[v, .agg (Q4.pt Q4.cX Q4.cY false)] w fun r w' => (∃ u, r = .returned u ∧ .int .i64 0 = u) ∧ Below w.heap.size w w' := by
  obtain ⟨c, rfl, hm⟩ := h
  obtain ⟨r, g1, g2, h0, h1, h2⟩ := hm.ex
  have e : Q4.Zbk nBnP Q4.cB Q4.cX Q4.cY false nBnR = 0 := by decide +kernel
  have hc := Q4.Zci h2 Q4.cX Q4.cY (by unfold Q4.Fits P4.Fits; decide +kernel) (by unfold Q4.Fits P4.Fits; decide +kernel) (by decide +kernel) false
  rw [e] at hc
  exact hc.told
theorem Zj5 (w : World) : Calls Tryz.prog 19 #[.agg (Q4.pt Q4.cX Q4.cY false)] w fun r w' => (∃ u, r = .returned u ∧ .agg (pn 10857046999023057135944570762232829481370756359578518086990519993285655852781 11559732032986387107991004021392285783925812861821192530917403151452391805634 8495653923123431417604973247489272438418190587263600148770280649306958101930 4082367875863433681332203403145435568316851327593401208105741076214120093531 false) = u) ∧ Below w.heap.size w w' :=
  Calls.told (ZgF Q4.cX Q4.cY (by unfold Q4.Fits P4.Fits; decide +kernel) (by unfold Q4.Fits P4.Fits; decide +kernel) false w)
theorem of_Q4 {p : Value} {w : World} (h : PT w p 4 [10857046999023057135944570762232829481370756359578518086990519993285655852781, 11559732032986387107991004021392285783925812861821192530917403151452391805634] [8495653923123431417604973247489272438418190587263600148770280649306958101930, 4082367875863433681332203403145435568316851327593401208105741076214120093531] false) : Calls Tryz.prog 17 #[p] w fun r w' => (∃ u, r = .returned u ∧ .agg (pn 10857046999023057135944570762232829481370756359578518086990519993285655852781 11559732032986387107991004021392285783925812861821192530917403151452391805634 8495653923123431417604973247489272438418190587263600148770280649306958101930 4082367875863433681332203403145435568316851327593401208105741076214120093531 false) = u) ∧ Below w.heap.size w w' :=
  Calls.told (of_2 (Or.inl rfl) 10857046999023057135944570762232829481370756359578518086990519993285655852781 11559732032986387107991004021392285783925812861821192530917403151452391805634 8495653923123431417604973247489272438418190587263600148770280649306958101930 4082367875863433681332203403145435568316851327593401208105741076214120093531 (by decide +kernel) (by decide +kernel) (by decide +kernel) (by decide +kernel) false w p h)
theorem Zk9 (w : World) : (Op.equalIn 10000 30 (.agg (pn 10857046999023057135944570762232829481370756359578518086990519993285655852781 11559732032986387107991004021392285783925812861821192530917403151452391805634 8495653923123431417604973247489272438418190587263600148770280649306958101930 4082367875863433681332203403145435568316851327593401208105741076214120093531 false)) (.agg (pn 10857046999023057135944570762232829481370756359578518086990519993285655852781 11559732032986387107991004021392285783925812861821192530917403151452391805634 8495653923123431417604973247489272438418190587263600148770280649306958101930 4082367875863433681332203403145435568316851327593401208105741076214120093531 false))).run Tryz.prog w = .ok true w := Zdu false (by decide +kernel) (by decide +kernel) (by decide +kernel) (by decide +kernel) w
theorem ZiS {v : Value} {w : World} (h : MD6 v w) : Calls Tryz.prog 23 #[v] w fun r w' => (∃ u, r = .returned u ∧ .agg (P6.pt P6.cX P6.cY false) = u) ∧ Below w.heap.size w w' := by
  obtain ⟨c, rfl, hm⟩ := h
  obtain ⟨r, g1, g2, h0, h1, h2⟩ := hm.ex
  exact (P6.Zcn h1).told
theorem grp_P6 {v : Value} {w : World} (h : MD6 v w) : Calls Tryz.prog 30 #[v, .agg (P6.pt P6.cX P6.cY false)] w fun r w' => (∃ u, r = .returned u ∧ .int .i64 0 = u) ∧ Below w.heap.size w w' := by
  obtain ⟨c, rfl, hm⟩ := h
  obtain ⟨r, g1, g2, h0, h1, h2⟩ := hm.ex
  have e : P6.Zbk nBlsP P6.cB P6.cX P6.cY false nBlsR = 0 := by decide +kernel
  have hc := P6.Zci h1 P6.cX P6.cY (by unfold P6.Fits; decide +kernel) (by unfold P6.Fits; decide +kernel) (by decide +kernel) false
  rw [e] at hc
  exact hc.told
theorem Zj6 (w : World) : Calls Tryz.prog 22 #[.agg (P6.pt P6.cX P6.cY false)] w fun r w' => (∃ u, r = .returned u ∧ .agg (pn 3685416753713387016781088315183077757961620795782546409894578378688607592378376318836054947676345821548104185464507 0 1339506544944476473020471379941921221584933875938349620426543736416511423956333506472724655353366534992391756441569 0 false) = u) ∧ Below w.heap.size w w' :=
  Calls.told (Zge P6.cX P6.cY false w)
theorem of_P6 {p : Value} {w : World} (h : PT w p 6 [3685416753713387016781088315183077757961620795782546409894578378688607592378376318836054947676345821548104185464507] [1339506544944476473020471379941921221584933875938349620426543736416511423956333506472724655353366534992391756441569] false) : Calls Tryz.prog 17 #[p] w fun r w' => (∃ u, r = .returned u ∧ .agg (pn 3685416753713387016781088315183077757961620795782546409894578378688607592378376318836054947676345821548104185464507 0 1339506544944476473020471379941921221584933875938349620426543736416511423956333506472724655353366534992391756441569 0 false) = u) ∧ Below w.heap.size w w' :=
  Calls.told (of_1 (Or.inr rfl) 3685416753713387016781088315183077757961620795782546409894578378688607592378376318836054947676345821548104185464507 1339506544944476473020471379941921221584933875938349620426543736416511423956333506472724655353366534992391756441569 (by decide +kernel) (by decide +kernel) false w p h)
theorem ZkA (w : World) : (Op.equalIn 10000 30 (.agg (pn 3685416753713387016781088315183077757961620795782546409894578378688607592378376318836054947676345821548104185464507 0 1339506544944476473020471379941921221584933875938349620426543736416511423956333506472724655353366534992391756441569 0 false)) (.agg (pn 3685416753713387016781088315183077757961620795782546409894578378688607592378376318836054947676345821548104185464507 0 1339506544944476473020471379941921221584933875938349620426543736416511423956333506472724655353366534992391756441569 0 false))).run Tryz.prog w = .ok true w := Zdu false (by decide +kernel) (by decide +kernel) (by decide +kernel) (by decide +kernel) w
theorem ZiT {v : Value} {w : World} (h : MD6 v w) : Calls Tryz.prog 26 #[v] w fun r w' => (∃ u, r = .returned u ∧ .agg (Q6.pt Q6.cX Q6.cY false) = u) ∧ Below w.heap.size w w' := by
  obtain ⟨c, rfl, hm⟩ := h
  obtain ⟨r, g1, g2, h0, h1, h2⟩ := hm.ex
  exact (Q6.Zcn h2).told
theorem grp_Q6 {v : Value} {w : World} (h : MD6 v w) : Calls Tryz.prog 31 #[v, .agg (Q6.pt Q6.cX Q6.cY false)] w fun r w' => (∃ u, r = .returned u ∧ .int .i64 0 = u) ∧ Below w.heap.size w w' := by
  obtain ⟨c, rfl, hm⟩ := h
  obtain ⟨r, g1, g2, h0, h1, h2⟩ := hm.ex
  have e : Q6.Zbk nBlsP Q6.cB Q6.cX Q6.cY false nBlsR = 0 := by decide +kernel
  have hc := Q6.Zci h2 Q6.cX Q6.cY (by unfold Q6.Fits P6.Fits; decide +kernel) (by unfold Q6.Fits P6.Fits; decide +kernel) (by decide +kernel) false
  rw [e] at hc
  exact hc.told
theorem Zj7 (w : World) : Calls Tryz.prog 25 #[.agg (Q6.pt Q6.cX Q6.cY false)] w fun r w' => (∃ u, r = .returned u ∧ .agg (pn 352701069587466618187139116011060144890029952792775240219908644239793785735715026873347600343865175952761926303160 3059144344244213709971259814753781636986470325476647558659373206291635324768958432433509563104347017837885763365758 1985150602287291935568054521177171638300868978215655730859378665066344726373823718423869104263333984641494340347905 927553665492332455747201965776037880757740193453592970025027978793976877002675564980949289727957565575433344219582 false) = u) ∧ Below w.heap.size w w' :=
  Calls.told (Zgf Q6.cX Q6.cY false w)
theorem of_Q6 {p : Value} {w : World} (h : PT w p 6 [352701069587466618187139116011060144890029952792775240219908644239793785735715026873347600343865175952761926303160, 3059144344244213709971259814753781636986470325476647558659373206291635324768958432433509563104347017837885763365758] [1985150602287291935568054521177171638300868978215655730859378665066344726373823718423869104263333984641494340347905, 927553665492332455747201965776037880757740193453592970025027978793976877002675564980949289727957565575433344219582] false) : Calls Tryz.prog 17 #[p] w fun r w' => (∃ u, r = .returned u ∧ .agg (pn 352701069587466618187139116011060144890029952792775240219908644239793785735715026873347600343865175952761926303160 3059144344244213709971259814753781636986470325476647558659373206291635324768958432433509563104347017837885763365758 1985150602287291935568054521177171638300868978215655730859378665066344726373823718423869104263333984641494340347905 927553665492332455747201965776037880757740193453592970025027978793976877002675564980949289727957565575433344219582 false) = u) ∧ Below w.heap.size w w' :=
  Calls.told (of_2 (Or.inr rfl) 352701069587466618187139116011060144890029952792775240219908644239793785735715026873347600343865175952761926303160 3059144344244213709971259814753781636986470325476647558659373206291635324768958432433509563104347017837885763365758 1985150602287291935568054521177171638300868978215655730859378665066344726373823718423869104263333984641494340347905 927553665492332455747201965776037880757740193453592970025027978793976877002675564980949289727957565575433344219582 (by decide +kernel) (by decide +kernel) (by decide +kernel) (by decide +kernel) false w p h)
theorem ZkB (w : World) : (Op.equalIn 10000 30 (.agg (pn 352701069587466618187139116011060144890029952792775240219908644239793785735715026873347600343865175952761926303160 3059144344244213709971259814753781636986470325476647558659373206291635324768958432433509563104347017837885763365758 1985150602287291935568054521177171638300868978215655730859378665066344726373823718423869104263333984641494340347905 927553665492332455747201965776037880757740193453592970025027978793976877002675564980949289727957565575433344219582 false)) (.agg (pn 352701069587466618187139116011060144890029952792775240219908644239793785735715026873347600343865175952761926303160 3059144344244213709971259814753781636986470325476647558659373206291635324768958432433509563104347017837885763365758 1985150602287291935568054521177171638300868978215655730859378665066344726373823718423869104263333984641494340347905 927553665492332455747201965776037880757740193453592970025027978793976877002675564980949289727957565575433344219582 false))).run Tryz.prog w = .ok true w := Zdu false (by decide +kernel) (by decide +kernel) (by decide +kernel) (by decide +kernel) w
theorem ZeJ (w : World) : Calls Tryz.prog 3 #[] w fun r w' => r = .returned (.bool true) ∧ Below w.heap.size w w' := by
 have HB : Hid (Up w w) := Below.refl _ _
 go_enter Tryz.func3, Tryz.ntmps3
 refine Zby 69 [] rfl trivial (fun L hL hK => ?_)
 refine Zad (fun K1 HK1 => ?_)
 have up : ∀ V, Up w V → Up w V := fun _ h => HB.out.trans (h.mono HB.out.size)
 refine ZaP [.ex (.bool false)] [0] hL hK trivial
   ⟨ok_q hK,
   trivial⟩ ?_
 rintro W1 h  L1 hL1 hK1
 replace HB := hideP (up _ h)
 have hK2 := hK1.to [(0, .bool false)] (by kernel_rfl)
 clear up h hK1 hK hL L
 revert L1
 intro L hL hK
 refine HK1.out _ _ ?_
 clear HK1 K1
 refine Zad (fun K2 HK2 => ?_)
 refine Zad (fun K3 HK3 => ?_)
 have up : ∀ V, Up W1 V → Up w V := fun _ h => HB.out.trans (h.mono HB.out.size)
 refine ZaP [.ex (.bool true), .ex (.bool false)] [0, 4] hL hK trivial
   ⟨ok_c [] (en Tryz.func12) hK (fun V h => (ZiP _).told),
   ok_q hK,
   trivial⟩ ?_
 rintro W2 h  L1 hL1 hK1
 replace HB := hideP (up _ h)
 have hK2 := hK1.to [(0, .bool false), (4, .bool false)] (by kernel_rfl)
 clear up h hK1 hK hL L
 revert L1
 intro L hL hK
 refine HK3.out _ _ ?_
 clear HK3 K3
 refine ZfT hK ?_
 refine wp_skip ?_
 refine HK2.out _ _ ?_
 clear HK2 K2
 refine Zad (fun K4 HK4 => ?_)
 have up : ∀ V, Up W2 V → Up w V := fun _ h => HB.out.trans (h.mono HB.out.size)
 refine ZaP [.pr (MD4), .pr (MD6), .pr (MD4), .pr (MD6)] [0, 1, 2] hL hK ⟨ZfE, ZfF, ZfE, ZfF, trivial⟩
   ⟨ok_c [] (en Tryz.func13) hK (fun V h => bn_L _),
   ok_c [] (en Tryz.func14) hK (fun V h => bls_L _),
   ok_x [.pr (fun zv zw => MD4 zv zw)] hK (fun V h u q => ⟨_, _, Zbs rfl rfl, Below.refl _ _, q⟩),
   ok_x [.pr (fun zv zw => MD6 zv zw)] hK (fun V h u q => ⟨_, _, Zbs rfl rfl, Below.refl _ _, q⟩),
   trivial⟩ ?_
 rintro W3 h v1 pv1 v2 pv2 v3 pv3 v4 pv4 L1 hL1 hK1
 replace HB := hideP (up _ h)
 have Fv1 := hideP pv1
 clear pv1
 have Fv2 := hideP pv2
 clear pv2
 have Fv3 := hideP pv3
 clear pv3
 have Fv4 := hideP pv4
 clear pv4
 have hK2 := hK1.to [(0, .bool false), (1, v3), (2, v4)] (by kernel_rfl)
 clear up h hK1 hK hL L
 revert L1
 intro L hL hK
 refine HK4.out _ _ ?_
 clear HK4 K4
 refine Zad (fun K5 HK5 => ?_)
 have up : ∀ V, Up W3 V → Up w V := fun _ h => HB.out.trans (h.mono HB.out.size)
 refine ZaP (.ex (v3) :: .ex (.agg (P4.pt P4.cX P4.cY false)) :: .ex (.agg (pn 1 0 2 0 false)) :: .pr (fun zv zw => CC zw zv (4) (nBnP) 1 ([3]) (nBnR) ([1]) ([2])) :: .pr (fun zv zw => PT zw zv (4) ([1]) ([2]) false) :: .ex (.agg (pn 1 0 2 0 false)) :: .ex (.bool true) :: .ex (.bool true) :: .ex (v3) :: .ex (.agg (Q4.pt Q4.cX Q4.cY false)) :: .ex (.agg (pn 10857046999023057135944570762232829481370756359578518086990519993285655852781 11559732032986387107991004021392285783925812861821192530917403151452391805634 8495653923123431417604973247489272438418190587263600148770280649306958101930 4082367875863433681332203403145435568316851327593401208105741076214120093531 false)) :: .pr (fun zv zw => CC zw zv (4) (nBnP) 2 ([19485874751759354771024239261021720505790618469301721065564631296452457478373, 266929791119991161246907387137283842545076965332900288569378510910307636690]) (nBnR) ([10857046999023057135944570762232829481370756359578518086990519993285655852781, 11559732032986387107991004021392285783925812861821192530917403151452391805634]) ([8495653923123431417604973247489272438418190587263600148770280649306958101930, 4082367875863433681332203403145435568316851327593401208105741076214120093531])) :: .pr (fun zv zw => PT zw zv (4) ([10857046999023057135944570762232829481370756359578518086990519993285655852781, 11559732032986387107991004021392285783925812861821192530917403151452391805634]) ([8495653923123431417604973247489272438418190587263600148770280649306958101930, 4082367875863433681332203403145435568316851327593401208105741076214120093531]) false) :: .ex (.agg (pn 10857046999023057135944570762232829481370756359578518086990519993285655852781 11559732032986387107991004021392285783925812861821192530917403151452391805634 8495653923123431417604973247489272438418190587263600148770280649306958101930 4082367875863433681332203403145435568316851327593401208105741076214120093531 false)) :: .ex (.bool true) :: .ex (.bool true) :: .ex (.bool true) :: .ex (v4) :: .ex (.agg (P6.pt P6.cX P6.cY false)) :: .ex (.agg (pn 3685416753713387016781088315183077757961620795782546409894578378688607592378376318836054947676345821548104185464507 0 1339506544944476473020471379941921221584933875938349620426543736416511423956333506472724655353366534992391756441569 0 false)) :: .pr (fun zv zw => CC zw zv (6) (nBlsP) 1 ([4]) (nBlsR) ([3685416753713387016781088315183077757961620795782546409894578378688607592378376318836054947676345821548104185464507]) ([1339506544944476473020471379941921221584933875938349620426543736416511423956333506472724655353366534992391756441569])) :: .pr (fun zv zw => PT zw zv (6) ([3685416753713387016781088315183077757961620795782546409894578378688607592378376318836054947676345821548104185464507]) ([1339506544944476473020471379941921221584933875938349620426543736416511423956333506472724655353366534992391756441569]) false) :: .ex (.agg (pn 3685416753713387016781088315183077757961620795782546409894578378688607592378376318836054947676345821548104185464507 0 1339506544944476473020471379941921221584933875938349620426543736416511423956333506472724655353366534992391756441569 0 false)) :: .ex (.bool true) :: .ex (.bool true) :: .ex (.bool true) :: .ex (v4) :: .ex (.agg (Q6.pt Q6.cX Q6.cY false)) :: .ex (.agg (pn 352701069587466618187139116011060144890029952792775240219908644239793785735715026873347600343865175952761926303160 3059144344244213709971259814753781636986470325476647558659373206291635324768958432433509563104347017837885763365758 1985150602287291935568054521177171638300868978215655730859378665066344726373823718423869104263333984641494340347905 927553665492332455747201965776037880757740193453592970025027978793976877002675564980949289727957565575433344219582 false)) :: .pr (fun zv zw => CC zw zv (6) (nBlsP) 2 ([4, 4]) (nBlsR) ([352701069587466618187139116011060144890029952792775240219908644239793785735715026873347600343865175952761926303160, 3059144344244213709971259814753781636986470325476647558659373206291635324768958432433509563104347017837885763365758]) ([1985150602287291935568054521177171638300868978215655730859378665066344726373823718423869104263333984641494340347905, 927553665492332455747201965776037880757740193453592970025027978793976877002675564980949289727957565575433344219582])) :: .pr (fun zv zw => PT zw zv (6) ([352701069587466618187139116011060144890029952792775240219908644239793785735715026873347600343865175952761926303160, 3059144344244213709971259814753781636986470325476647558659373206291635324768958432433509563104347017837885763365758]) ([1985150602287291935568054521177171638300868978215655730859378665066344726373823718423869104263333984641494340347905, 927553665492332455747201965776037880757740193453592970025027978793976877002675564980949289727957565575433344219582]) false) :: .ex (.agg (pn 352701069587466618187139116011060144890029952792775240219908644239793785735715026873347600343865175952761926303160 3059144344244213709971259814753781636986470325476647558659373206291635324768958432433509563104347017837885763365758 1985150602287291935568054521177171638300868978215655730859378665066344726373823718423869104263333984641494340347905 927553665492332455747201965776037880757740193453592970025027978793976877002675564980949289727957565575433344219582 false)) :: .ex (.bool true) :: .ex (.bool true) :: .ex (.bool true) :: .ex (v3) :: .ex (v3) :: .ex (.agg (P4.pt P4.cX P4.cY false)) :: .ex (.int .i64 0) :: .ex (.bool true) :: .ex (.bool true) :: .ex (.bool true) :: .ex (v3) :: .ex (v3) :: .ex (.agg (Q4.pt Q4.cX Q4.cY false)) :: .ex (.int .i64 0) :: .ex (.bool true) :: .ex (.bool true) :: .ex (.bool true) :: .ex (v4) :: .ex (v4) :: .ex (.agg (P6.pt P6.cX P6.cY false)) :: .ex (.int .i64 0) :: .ex (.bool true) :: .ex (.bool true) :: .ex (.bool true) :: .ex (v4) :: .ex (v4) :: .ex (.agg (Q6.pt Q6.cX Q6.cY false)) :: .ex (.int .i64 0) :: .ex (.bool true) :: .ex (.bool true) :: .ex (.bool true) :: []) [0] hL hK ⟨Zdj _ _ _ _ _ _ _, ZcH _ _ _ _, Zdj _ _ _ _ _ _ _, ZcH _ _ _ _, Zdj _ _ _ _ _ _ _, ZcH _ _ _ _, Zdj _ _ _ _ _ _ _, ZcH _ _ _ _, trivial⟩
   ⟨ok_q hK,
   ok_c [.ex (v3)] (en Tryz.func16) hK (fun V h => ZiQ (Fv3.out.moved h)),
   ok_c [.ex (.agg (P4.pt P4.cX P4.cY false))] (en Tryz.func15) hK (fun V h => Zj4 _),
   ok_c [] (en Tryz.func18) hK (fun V h => Zjz _),
   ok_x [.pr (fun zv zw => CC zw zv (4) (nBnP) 1 ([3]) (nBnR) ([1]) ([2]))] hK (fun V h u1 q1 => let ⟨_, e9, p9⟩ := q1.base; ⟨_, _, Zdv rfl rfl (e9 _), Below.refl _ _, p9⟩),
   ok_c [.pr (fun zv zw => PT zw zv (4) ([1]) ([2]) false)] (en Tryz.func17) hK (fun V h u1 q1 => of_P4 q1),
   ok_x [.ex (.agg (pn 1 0 2 0 false)), .ex (.agg (pn 1 0 2 0 false))] hK (fun V h => ⟨_, _, ZcE 30 30 _ _ rfl rfl rfl gqPn _ (Zk8 _), Below.refl _ _, rfl⟩),
   ok_q hK,
   ok_q hK,
   ok_c [.ex (v3)] (en Tryz.func20) hK (fun V h => ZiR (Fv3.out.moved h)),
   ok_c [.ex (.agg (Q4.pt Q4.cX Q4.cY false))] (en Tryz.func19) hK (fun V h => Zj5 _),
   ok_c [] (en Tryz.func21) hK (fun V h => Zj0 _),
   ok_x [.pr (fun zv zw => CC zw zv (4) (nBnP) 2 ([19485874751759354771024239261021720505790618469301721065564631296452457478373, 266929791119991161246907387137283842545076965332900288569378510910307636690]) (nBnR) ([10857046999023057135944570762232829481370756359578518086990519993285655852781, 11559732032986387107991004021392285783925812861821192530917403151452391805634]) ([8495653923123431417604973247489272438418190587263600148770280649306958101930, 4082367875863433681332203403145435568316851327593401208105741076214120093531]))] hK (fun V h u1 q1 => let ⟨_, e9, p9⟩ := q1.base; ⟨_, _, Zdv rfl rfl (e9 _), Below.refl _ _, p9⟩),
   ok_c [.pr (fun zv zw => PT zw zv (4) ([10857046999023057135944570762232829481370756359578518086990519993285655852781, 11559732032986387107991004021392285783925812861821192530917403151452391805634]) ([8495653923123431417604973247489272438418190587263600148770280649306958101930, 4082367875863433681332203403145435568316851327593401208105741076214120093531]) false)] (en Tryz.func17) hK (fun V h u1 q1 => of_Q4 q1),
   ok_x [.ex (.agg (pn 10857046999023057135944570762232829481370756359578518086990519993285655852781 11559732032986387107991004021392285783925812861821192530917403151452391805634 8495653923123431417604973247489272438418190587263600148770280649306958101930 4082367875863433681332203403145435568316851327593401208105741076214120093531 false)), .ex (.agg (pn 10857046999023057135944570762232829481370756359578518086990519993285655852781 11559732032986387107991004021392285783925812861821192530917403151452391805634 8495653923123431417604973247489272438418190587263600148770280649306958101930 4082367875863433681332203403145435568316851327593401208105741076214120093531 false))] hK (fun V h => ⟨_, _, ZcE 30 30 _ _ rfl rfl rfl gqPn _ (Zk9 _), Below.refl _ _, rfl⟩),
   ok_q hK,
   ok_q hK,
   ok_q hK,
   ok_c [.ex (v4)] (en Tryz.func23) hK (fun V h => ZiS (Fv4.out.moved h)),
   ok_c [.ex (.agg (P6.pt P6.cX P6.cY false))] (en Tryz.func22) hK (fun V h => Zj6 _),
   ok_c [] (en Tryz.func24) hK (fun V h => ZiD _),
   ok_x [.pr (fun zv zw => CC zw zv (6) (nBlsP) 1 ([4]) (nBlsR) ([3685416753713387016781088315183077757961620795782546409894578378688607592378376318836054947676345821548104185464507]) ([1339506544944476473020471379941921221584933875938349620426543736416511423956333506472724655353366534992391756441569]))] hK (fun V h u1 q1 => let ⟨_, e9, p9⟩ := q1.base; ⟨_, _, Zdv rfl rfl (e9 _), Below.refl _ _, p9⟩),
   ok_c [.pr (fun zv zw => PT zw zv (6) ([3685416753713387016781088315183077757961620795782546409894578378688607592378376318836054947676345821548104185464507]) ([1339506544944476473020471379941921221584933875938349620426543736416511423956333506472724655353366534992391756441569]) false)] (en Tryz.func17) hK (fun V h u1 q1 => of_P6 q1),
   ok_x [.ex (.agg (pn 3685416753713387016781088315183077757961620795782546409894578378688607592378376318836054947676345821548104185464507 0 1339506544944476473020471379941921221584933875938349620426543736416511423956333506472724655353366534992391756441569 0 false)), .ex (.agg (pn 3685416753713387016781088315183077757961620795782546409894578378688607592378376318836054947676345821548104185464507 0 1339506544944476473020471379941921221584933875938349620426543736416511423956333506472724655353366534992391756441569 0 false))] hK (fun V h => ⟨_, _, ZcE 30 30 _ _ rfl rfl rfl gqPn _ (ZkA _), Below.refl _ _, rfl⟩),
   ok_q hK,
   ok_q hK,
   ok_q hK,
   ok_c [.ex (v4)] (en Tryz.func26) hK (fun V h => ZiT (Fv4.out.moved h)),
   ok_c [.ex (.agg (Q6.pt Q6.cX Q6.cY false))] (en Tryz.func25) hK (fun V h => Zj7 _),
   ok_c [] (en Tryz.func27) hK (fun V h => ZiE _),
   ok_x [.pr (fun zv zw => CC zw zv (6) (nBlsP) 2 ([4, 4]) (nBlsR) ([352701069587466618187139116011060144890029952792775240219908644239793785735715026873347600343865175952761926303160, 3059144344244213709971259814753781636986470325476647558659373206291635324768958432433509563104347017837885763365758]) ([1985150602287291935568054521177171638300868978215655730859378665066344726373823718423869104263333984641494340347905, 927553665492332455747201965776037880757740193453592970025027978793976877002675564980949289727957565575433344219582]))] hK (fun V h u1 q1 => let ⟨_, e9, p9⟩ := q1.base; ⟨_, _, Zdv rfl rfl (e9 _), Below.refl _ _, p9⟩),
   ok_c [.pr (fun zv zw => PT zw zv (6) ([352701069587466618187139116011060144890029952792775240219908644239793785735715026873347600343865175952761926303160, 3059144344244213709971259814753781636986470325476647558659373206291635324768958432433509563104347017837885763365758]) ([1985150602287291935568054521177171638300868978215655730859378665066344726373823718423869104263333984641494340347905, 927553665492332455747201965776037880757740193453592970025027978793976877002675564980949289727957565575433344219582]) false)] (en Tryz.func17) hK (fun V h u1 q1 => of_Q6 q1),
   ok_x [.ex (.agg (pn 352701069587466618187139116011060144890029952792775240219908644239793785735715026873347600343865175952761926303160 3059144344244213709971259814753781636986470325476647558659373206291635324768958432433509563104347017837885763365758 1985150602287291935568054521177171638300868978215655730859378665066344726373823718423869104263333984641494340347905 927553665492332455747201965776037880757740193453592970025027978793976877002675564980949289727957565575433344219582 false)), .ex (.agg (pn 352701069587466618187139116011060144890029952792775240219908644239793785735715026873347600343865175952761926303160 3059144344244213709971259814753781636986470325476647558659373206291635324768958432433509563104347017837885763365758 1985150602287291935568054521177171638300868978215655730859378665066344726373823718423869104263333984641494340347905 927553665492332455747201965776037880757740193453592970025027978793976877002675564980949289727957565575433344219582 false))] hK (fun V h => ⟨_, _, ZcE 30 30 _ _ rfl rfl rfl gqPn _ (ZkB _), Below.refl _ _, rfl⟩),
   ok_q hK,
   ok_q hK,
   ok_q hK,
   ok_q hK,
   ok_c [.ex (v3)] (en Tryz.func16) hK (fun V h => ZiQ (Fv3.out.moved h)),
   ok_c [.ex (v3), .ex (.agg (P4.pt P4.cX P4.cY false))] (en Tryz.func28) hK (fun V h => grp_P4 (Fv3.out.moved h)),
   ok_q hK,
   ok_q hK,
   ok_q hK,
   ok_q hK,
   ok_q hK,
   ok_c [.ex (v3)] (en Tryz.func20) hK (fun V h => ZiR (Fv3.out.moved h)),
   ok_c [.ex (v3), .ex (.agg (Q4.pt Q4.cX Q4.cY false))] (en Tryz.func29) hK (fun V h => grp_Q4 (Fv3.out.moved h)),
   ok_q hK,
   ok_q hK,
   ok_q hK,
   ok_q hK,
   ok_q hK,
   ok_c [.ex (v4)] (en Tryz.func23) hK (fun V h => ZiS (Fv4.out.moved h)),
   ok_c [.ex (v4), .ex (.agg (P6.pt P6.cX P6.cY false))] (en Tryz.func30) hK (fun V h => grp_P6 (Fv4.out.moved h)),
   ok_q hK,
   ok_q hK,
   ok_q hK,
   ok_q hK,
   ok_q hK,
   ok_c [.ex (v4)] (en Tryz.func26) hK (fun V h => ZiT (Fv4.out.moved h)),
   ok_c [.ex (v4), .ex (.agg (Q6.pt Q6.cX Q6.cY false))] (en Tryz.func31) hK (fun V h => grp_Q6 (Fv4.out.moved h)),
   ok_q hK,
   ok_q hK,
   ok_q hK,
   trivial⟩ ?_
 rintro W4 h _ ⟨⟨mz5, fz5, tz5, bz5, rz5, xz5, yz5, rfl, hFz5, hMz5, hBz5, hRz5, hXz5, hYz5⟩⟩ _ ⟨⟨xz6, yz6, rfl, hxz6, hyz6⟩⟩ _ ⟨⟨mz7, fz7, tz7, bz7, rz7, xz7, yz7, rfl, hFz7, hMz7, hBz7, hRz7, hXz7, hYz7⟩⟩ _ ⟨⟨xz8, yz8, rfl, hxz8, hyz8⟩⟩ _ ⟨⟨mz9, fz9, tz9, bz9, rz9, xz9, yz9, rfl, hFz9, hMz9, hBz9, hRz9, hXz9, hYz9⟩⟩ _ ⟨⟨xz10, yz10, rfl, hxz10, hyz10⟩⟩ _ ⟨⟨mz11, fz11, tz11, bz11, rz11, xz11, yz11, rfl, hFz11, hMz11, hBz11, hRz11, hXz11, hYz11⟩⟩ _ ⟨⟨xz12, yz12, rfl, hxz12, hyz12⟩⟩ L1 hL1 hK1
 replace HB := hideP (up _ h)
 replace Fv1 := hideP (Fv1.out.moved h)
 replace Fv2 := hideP (Fv2.out.moved h)
 replace Fv3 := hideP (Fv3.out.moved h)
 replace Fv4 := hideP (Fv4.out.moved h)
 have HFFz5 : Hid (FF W4 (.agg #[mz5, .int .u64 (fz5 : Int), tz5]) (4) (nBnP)) := hFz5
 clear hFz5
 have HMVz5 : Hid (LW W4 mz5 (4) (limb (nBnP))) := hMz5
 clear hMz5
 have HBz5 : Hid (LL W4 bz5 (4) ([3])) := hBz5
 clear hBz5
 have HRz5 : Hid (LW W4 rz5 (4) (limb (nBnR))) := hRz5
 clear hRz5
 have HXz5 : Hid (LL W4 xz5 (4) ([1])) := hXz5
 clear hXz5
 have HYz5 : Hid (LL W4 yz5 (4) ([2])) := hYz5
 clear hYz5
 have HXz6 : Hid (LL W4 xz6 (4) ([1])) := hxz6
 clear hxz6
 have HYz6 : Hid (LL W4 yz6 (4) ([2])) := hyz6
 clear hyz6
 have HFFz7 : Hid (FF W4 (.agg #[mz7, .int .u64 (fz7 : Int), tz7]) (4) (nBnP)) := hFz7
 clear hFz7
 have HMVz7 : Hid (LW W4 mz7 (4) (limb (nBnP))) := hMz7
 clear hMz7
 have HBz7 : Hid (LL W4 bz7 (4) ([19485874751759354771024239261021720505790618469301721065564631296452457478373, 266929791119991161246907387137283842545076965332900288569378510910307636690])) := hBz7
 clear hBz7
 have HRz7 : Hid (LW W4 rz7 (4) (limb (nBnR))) := hRz7
 clear hRz7
 have HXz7 : Hid (LL W4 xz7 (4) ([10857046999023057135944570762232829481370756359578518086990519993285655852781, 11559732032986387107991004021392285783925812861821192530917403151452391805634])) := hXz7
 clear hXz7
 have HYz7 : Hid (LL W4 yz7 (4) ([8495653923123431417604973247489272438418190587263600148770280649306958101930, 4082367875863433681332203403145435568316851327593401208105741076214120093531])) := hYz7
 clear hYz7
 have HXz8 : Hid (LL W4 xz8 (4) ([10857046999023057135944570762232829481370756359578518086990519993285655852781, 11559732032986387107991004021392285783925812861821192530917403151452391805634])) := hxz8
 clear hxz8
 have HYz8 : Hid (LL W4 yz8 (4) ([8495653923123431417604973247489272438418190587263600148770280649306958101930, 4082367875863433681332203403145435568316851327593401208105741076214120093531])) := hyz8
 clear hyz8
 have HFFz9 : Hid (FF W4 (.agg #[mz9, .int .u64 (fz9 : Int), tz9]) (6) (nBlsP)) := hFz9
 clear hFz9
 have HMVz9 : Hid (LW W4 mz9 (6) (limb (nBlsP))) := hMz9
 clear hMz9
 have HBz9 : Hid (LL W4 bz9 (6) ([4])) := hBz9
 clear hBz9
 have HRz9 : Hid (LW W4 rz9 (4) (limb (nBlsR))) := hRz9
 clear hRz9
 have HXz9 : Hid (LL W4 xz9 (6) ([3685416753713387016781088315183077757961620795782546409894578378688607592378376318836054947676345821548104185464507])) := hXz9
 clear hXz9
 have HYz9 : Hid (LL W4 yz9 (6) ([1339506544944476473020471379941921221584933875938349620426543736416511423956333506472724655353366534992391756441569])) := hYz9
 clear hYz9
 have HXz10 : Hid (LL W4 xz10 (6) ([3685416753713387016781088315183077757961620795782546409894578378688607592378376318836054947676345821548104185464507])) := hxz10
 clear hxz10
 have HYz10 : Hid (LL W4 yz10 (6) ([1339506544944476473020471379941921221584933875938349620426543736416511423956333506472724655353366534992391756441569])) := hyz10
 clear hyz10
 have HFFz11 : Hid (FF W4 (.agg #[mz11, .int .u64 (fz11 : Int), tz11]) (6) (nBlsP)) := hFz11
 clear hFz11
 have HMVz11 : Hid (LW W4 mz11 (6) (limb (nBlsP))) := hMz11
 clear hMz11
 have HBz11 : Hid (LL W4 bz11 (6) ([4, 4])) := hBz11
 clear hBz11
 have HRz11 : Hid (LW W4 rz11 (4) (limb (nBlsR))) := hRz11
 clear hRz11
 have HXz11 : Hid (LL W4 xz11 (6) ([352701069587466618187139116011060144890029952792775240219908644239793785735715026873347600343865175952761926303160, 3059144344244213709971259814753781636986470325476647558659373206291635324768958432433509563104347017837885763365758])) := hXz11
 clear hXz11
 have HYz11 : Hid (LL W4 yz11 (6) ([1985150602287291935568054521177171638300868978215655730859378665066344726373823718423869104263333984641494340347905, 927553665492332455747201965776037880757740193453592970025027978793976877002675564980949289727957565575433344219582])) := hYz11
 clear hYz11
 have HXz12 : Hid (LL W4 xz12 (6) ([352701069587466618187139116011060144890029952792775240219908644239793785735715026873347600343865175952761926303160, 3059144344244213709971259814753781636986470325476647558659373206291635324768958432433509563104347017837885763365758])) := hxz12
 clear hxz12
 have HYz12 : Hid (LL W4 yz12 (6) ([1985150602287291935568054521177171638300868978215655730859378665066344726373823718423869104263333984641494340347905, 927553665492332455747201965776037880757740193453592970025027978793976877002675564980949289727957565575433344219582])) := hyz12
 clear hyz12
 have hK2 := hK1.to [(0, .bool true)] (by kernel_rfl)
 clear up h hK1 hK hL L
 revert L1
 intro L hL hK
 refine HK5.out _ _ ?_
 clear HK5 K5
 refine wp_ret ?_
 exact ret2 hK ⟨rfl, HB.out⟩
end Go.Proofs.YtcbdbnfgnonacaaGreat
namespace Go.Proofs.YtcbdbnfgnonacaaGreat
open Go.ChangeShapes Go.WideShapes Go.ChangeAt Go.RowKit Go.Shelf
theorem Tryz.own : ownKnob Tryz.prog.godebug = none := by kernel_rfl
end Go.Proofs.YtcbdbnfgnonacaaGreat
namespace Go.Proofs.YtcbdbnfgnonacaaGreat
open Go.ChangeShapes Go.WideShapes Go.ChangeAt Go.RowKit Go.Shelf
theorem Zd6 (os : Os) (started : os.Started) (H : Type) (enc : TypeId × Value → H) :
    ReturnsInHanded {} Tryz.checked os 3 .any (Rows.curveBasesSpec.pre6 enc Tryz.prog Tryz.f3 Rows.curveBasesRow.domain false) (Rows.curveBasesSpec.post enc Tryz.prog Tryz.f3 false true false false) := by
  refine returnsInHanded_of_change_sized (C := Tryz.checked) Tryz.own started (by kernel_rfl) Tryz.func3
    (ChangeSpec.witness6 (enc := enc) (C := Tryz.checked) false ⟨#[], #[], []⟩ 8 (by kernel_rfl) (by kernel_rfl) (by kernel_rfl) (by kernel_rfl)) ?_
  intro W base args ds gs before hval0 hW hcnd hsz0 _
  have hval : ∀ (j : Nat) t v, Tryz.f3.params[j]? = some t → args[j]? = some v → Value.okWide Tryz.prog W .any base t v := hval0
  have hW' := hW
  obtain ⟨p, q, hA0, hV, rfl, hfz, hnd⟩ := hW
  have hA : DataW.TrodAll enc Tryz.prog W 0 (fun _ => true) true Tryz.f3.params.toList args.toList ds p := hA0
  rw [Tryz.params3] at hA hval
  obtain ⟨hargsZ, rfl, rfl⟩ := trodAll_nil hA
  obtain ⟨rfl, rfl⟩ := trodVars_none hV
  obtain rfl : args = #[] := by cases args; simp_all
  have hcall := ZeJ  W 
  simp only [List.append_nil] at hW'
  refine hcall.mono fun e W' ⟨he, hb⟩ => ?_
  subst he
  refine ⟨_, rfl, [], [], _, [], [], [], hW', trodAll_mk1 (shut_bool Tryz.underlying4 true), trodAll_mk0, rfl, hb.frame _, fun h => by cases h⟩
theorem curveBases_holds : Rows.CurveBasesSaid :=
  OpenClaim.holds_of_wide 3 Tryz.f3 rfl rfl rfl rfl rfl rfl rfl ⟨rfl, rfl, rfl, rfl, rfl⟩ rfl rfl rfl rfl rfl (by kernel_rfl) Tryz.func3 (by kernel_rfl)
    (of_decide_eq_true (by kernel_rfl)) (by unfold Func.isWrapper; first | (rw [if_pos (by decide +kernel)]; kernel_rfl) | (rw [if_neg (by decide +kernel)]; exact ⟨rfl, rfl⟩))
    (fun os started H enc _ => Zd6 os started H enc)
end Go.Proofs.YtcbdbnfgnonacaaGreat
