/-
 A call whose contract tells more than a value.
-/
import Derived.Test.YtcbdbnfgnonacaaGreatCurveBasesC06
set_option maxHeartbeats 4000000
set_option maxRecDepth 100000
namespace Go.Proofs.YtcbdbnfgnonacaaGreat
open Go.RowKit Go.Shelf
theorem Zjf {P : Program} (w : World) (T ty E : TypeId) (hu : P.underlying T = some (.slice E)) (hs : (P.info? E).map (·.size) = some 1) (dp sp : Option Addr) (dLen dCap sLen sCap : Nat)
  (g off : Nat) (cur : List Value) (t : TypeId) (hg : w.heap[g]? = some (.cells cur.toArray t (0, 0))) (cs : List Value) (hn : cs.length = Nat.min sLen dLen)
  (hpos : 0 < cs.length → dp = some ⟨g, off, none⟩ ∧ ∃ ad, sp = some ad ∧ ∀ j v, cs[j]? = some v → w.cell? (ad.add j) = some v)
  (hfit : off + cs.length ≤ cur.length) (h1 : ∀ v ∈ cs, v.oneCell' = true) :
  ∃ w', (Builtin.copy_ #[T, T] ty #[.slice dp dLen dCap, .slice sp sLen sCap]).run P w = .ok (goInt cs.length) w' ∧ w'.heap[g]? = some (.cells (splice cur off cs).toArray t (0, 0)) ∧ w.grownBy w' (some g) := by
 by_cases h0 : cs.length = 0
 ·
  obtain rfl : cs = [] := List.eq_nil_of_length_eq_zero h0
  refine ⟨w, ?_, by simpa [splice] using hg, World.grownBy.refl _ _⟩
  exact run_copy_none (P := P) w T T ty E dp sp dLen dCap sLen sCap hu hs (by simpa using hn.symm)
 ·
  obtain ⟨rfl, ad, rfl, hsrc⟩ := hpos (by omega)
  refine ⟨_, run_copy_row (P := P) w T T ty E g off dLen dCap ad sLen sCap cur.toArray t cs hu hs hg hn hsrc (by simpa using hfit) h1, ?_, ?_⟩
  ·
   simpa [splice] using setRow_heap w g cur.toArray _ t _ hg
  ·
   exact ⟨rfl, rfl, rfl, by simp [World.setRow], fun k hk hne => setRow_other w g k _ (fun e => hne (by rw [e]))⟩
theorem Zht {w : World} {D N n ty : Nat} {z : Value} {f : Nat → Nat} (hD : w.heap[D]? = some (.cells (cw N (fun _ => 0)) 27 (0, 0))) (hz : LW w z n f) (hn : n ≤ N) :
  ∃ w', (Builtin.copy_ #[37, 37] ty #[.slice (some ⟨D, 0, none⟩) N N, z]).run Tryz.prog w = .ok (goInt n) w' ∧ w'.heap[D]? = some (.cells (cw N (fun j => if j < n then f j else 0)) 27 (0, 0)) ∧ w.grownBy w' (some D) := by
 obtain ⟨g, o, c, rfl, _, _, hg, hc⟩ := hz.ex
 have hsz : (Tryz.prog.info? 27).map (·.size) = some 1 := by kernel_rfl
 obtain ⟨w', hr, hh, hgr⟩ := Zjf (P := Tryz.prog) w 37 ty 27 Tryz.undL hsz (some ⟨D, 0, none⟩) (some ⟨g, o, none⟩) N N n c D 0 (wl N (fun _ => 0)) 27 hD (wl n f) (by rw [ZbQ]; exact (Nat.min_eq_left hn).symm) (fun _ => ⟨rfl, _, rfl, fun j v hv => by
  have hj := (List.getElem?_eq_some_iff.1 hv).1
  rw [ZbQ] at hj
  rw [ZeM hj] at hv
  rw [Addr.add_mid, hc j hj]
  exact hv⟩) (by rw [ZbQ, ZbQ]; omega) ZhD
 rw [ZbQ] at hr
 refine ⟨w', hr, ?_, hgr⟩
 rw [hh]
 congr 2
 apply Array.ext_getElem?
 intro j
 rw [List.getElem?_toArray]
 unfold splice
 rw [List.take_zero, List.nil_append, ZbQ, Nat.zero_add]
 by_cases h1 : j < n
 ·
  rw [List.getElem?_append_left (by rw [ZbQ]; exact h1), ZeM h1, ZbO _ (by omega), if_pos h1]
 ·
  rw [List.getElem?_append_right (by rw [ZbQ]; omega), ZbQ, List.getElem?_drop]
  by_cases h2 : j < N
  ·
   rw [show n + (j - n) = j by omega, ZeM h2, ZbO _ h2, if_neg h1]
  ·
   rw [List.getElem?_eq_none (by rw [ZbQ]; omega), Array.getElem?_eq_none (by rw [ZdS]; omega)]
structure EW (w : World) (v : Value) (ne : Nat) (f : Nat → Nat) : Prop where
 lt : ∀ j, f j < 18446744073709551616
 ex : ∃ ao c, v = .slice ao ne c ∧ ∀ j, j < ne → ∃ ad, ao = some ad ∧ ad.block < w.heap.size ∧ w.cell? (ad.add j) = some (.int .u64 (f j))
theorem LW.exp {w : World} {v : Value} {n X : Nat} (h : LW w v n (limb X)) : EW w v n (limb X) := by
 obtain ⟨g, o, c, e, h1, h2, hg, hc⟩ := h.ex
 exact ⟨Za4 X, _, c, e, fun j hj => ⟨_, rfl, hg, by rw [Addr.add_mid]; exact hc j hj⟩⟩
theorem Zkc (X E p : Nat) : X ^ (E / 2 ^ p) = X ^ (E / 2 ^ (p + 1)) * X ^ (E / 2 ^ (p + 1)) * X ^ (E / 2 ^ p % 2) := by
 have e : E / 2 ^ p = E / 2 ^ (p + 1) + E / 2 ^ (p + 1) + E / 2 ^ p % 2 := by
  rw [Nat.pow_succ, ← Nat.div_div_eq_div_mul]
  omega
 conv => lhs; rw [e, Nat.pow_add, Nat.pow_add]
theorem Zjg {n M : Nat} (hM : FM n M) (X : Nat) (hX : X < M) (ne : Nat) (hne : ne ≤ 8) (f : Nat → Nat) (w : World) (fv u ev : Value) (hF : FF w fv n M) (hu : LW w u n (limb X)) (he : EW w ev ne f) :
  Calls Tryz.prog 215 #[fv, u, ev] w fun r w' => (∃ v', r = .returned v' ∧ LW w' v' n (limb (X ^ val f ne % M))) ∧ Below w.heap.size w w' := by
 have HU := hideP hu
 have HFF := hideP hF
 obtain ⟨eo, ec, rfl, hec⟩ := he.ex
 have HEC := hideP hec
 have HEL := hideP he.lt
 have HH : Hid (FM n M ∧ X < M ∧ ne ≤ 8) := ⟨hM, hX, hne⟩
 have ew2 : IntKind.i64.wrap ((ne : Int) - 1) = (ne : Int) - 1 := by rw [IntKind.wrap_i64]; omega
 clear hu hM hX he hec hne
 obtain ⟨mv, fo, tv, rfl, hm, ht, hfo⟩ := hF.ex
 have HMV := hideP hm
 have HTV := hideP ht
 have HFO := hideP hfo
 clear hF hm ht hfo
 go_enter Tryz.func215, Tryz.ntmps215
 refine Zad (fun K0 HK0 => ?_)
 go_wp2_with fail
 refine HK0.out _ _ ?_
 refine Zam (fun W0 hW0 => ?_)
 have hB0 : W0.heap[w.heap.size]? = some (.cells #[mv, .int .u64 fo, tv] 39 (0, 0)) := by
  rw [hW0]
  exact Zaf _ _
 have HBW : Hid (Below w.heap.size w W0) := by
  show Below _ _ _
  rw [hW0]
  repeat first | exact Below.refl _ _ | (refine Below.alloc ?_ (by simp <;> omega) _)
 have HB0 := hideP hB0
 clear hW0 hB0
 have f0 : W0.cell? ⟨w.heap.size, 0, none⟩ = some mv := Zae HB0.out rfl
 have f1 : W0.cell? ⟨w.heap.size, 1, none⟩ = some (.int .u64 fo) := Zae HB0.out rfl
 have f2 : W0.cell? ⟨w.heap.size, 2, none⟩ = some tv := Zae HB0.out rfl
 obtain ⟨gt, ot, ct, hte, -, -, -, -⟩ := HTV.out.ex
 subst hte
 obtain ⟨gm, om, cm, hme, -, -, -, -⟩ := HMV.out.ex
 subst hme
 have C1 := hideP (ZdX HH.out.1 X HH.out.2.1 W0 _ u _ (HFF.out.moved HBW.out) (HU.out.moved HBW.out) (HTV.out.moved HBW.out))
 refine Zad (fun Ka HKa => ?_)
 go_wp2_with fail
 refine C1.out.mono ?_
 rintro r W1 ⟨⟨vx, rfl, hx⟩, hb⟩
 have HXL := hideP hx
 replace HB0 := hideP ((hb.block _ (Zaa HB0.out)).trans HB0.out)
 replace HBW := hideP (HBW.out.trans (hb.mono HBW.out.size))
 clear hb hx C1 f0 f1 f2
 go_wp2_with fail
 refine HKa.out _ _ ?_
 refine Zad (fun K1 HK1 => ?_)
 refine Zaj (S := fun V => Below W1.heap.size W1 V) (by kernel_rfl) ((Below.refl _ _).drew) (fun hS => ?_)
 refine tkI 0 ?_ hS ?_ ?_
 rotate_left
 ·
  intro V hV
  have k0 : V.cell? ⟨w.heap.size, 0, none⟩ = some (.slice (some ⟨gm, om, none⟩) n cm) := Zae ((hV.block _ (Zaa HB0.out)).trans HB0.out) rfl
  have k1 : V.cell? ⟨w.heap.size, 1, none⟩ = some (.int .u64 fo) := Zae ((hV.block _ (Zaa HB0.out)).trans HB0.out) rfl
  have k2 : V.cell? ⟨w.heap.size, 2, none⟩ = some (.slice (some ⟨gt, ot, none⟩) n ct) := Zae ((hV.block _ (Zaa HB0.out)).trans HB0.out) rfl
  go_simp
  (try with_reducible rfl)
 simp only [Zab, Zs, Zz]
 refine tkI 1 ?_ hS ?_ ?_
 rotate_left
 ·
  intro V hV
  have k0 : V.cell? ⟨w.heap.size, 0, none⟩ = some (.slice (some ⟨gm, om, none⟩) n cm) := Zae ((hV.block _ (Zaa HB0.out)).trans HB0.out) rfl
  have k1 : V.cell? ⟨w.heap.size, 1, none⟩ = some (.int .u64 fo) := Zae ((hV.block _ (Zaa HB0.out)).trans HB0.out) rfl
  have k2 : V.cell? ⟨w.heap.size, 2, none⟩ = some (.slice (some ⟨gt, ot, none⟩) n ct) := Zae ((hV.block _ (Zaa HB0.out)).trans HB0.out) rfl
  go_simp
  (try with_reducible rfl)
 simp only [Zab, Zs, Zz]
 refine tkG 3 hS ?_
 simp only [Zab, Zs, Zz]
 refine tkI 4 ?_ hS ?_ ?_
 rotate_left
 ·
  intro V hV
  have k0 : V.cell? ⟨w.heap.size, 0, none⟩ = some (.slice (some ⟨gm, om, none⟩) n cm) := Zae ((hV.block _ (Zaa HB0.out)).trans HB0.out) rfl
  have k1 : V.cell? ⟨w.heap.size, 1, none⟩ = some (.int .u64 fo) := Zae ((hV.block _ (Zaa HB0.out)).trans HB0.out) rfl
  have k2 : V.cell? ⟨w.heap.size, 2, none⟩ = some (.slice (some ⟨gt, ot, none⟩) n ct) := Zae ((hV.block _ (Zaa HB0.out)).trans HB0.out) rfl
  go_simp
  (try with_reducible rfl)
 simp only [Zab, Zs, Zz]
 refine rd1 2 (fun K hK => ?_)
 go_simp
 refine (Zje HH.out.1 _ _ (HFF.out.moved (HBW.out.trans (hS.mono HBW.out.size)))).mono ?_
 rintro r y1 ⟨⟨v1, rfl, hL⟩, hb⟩
 refine hK.out _ _ (hS.trans (hb.mono hS.size)) (fun hS2 => ?_)
 clear hS
 have hS := hS2
 clear hS2
 have HL1 := hideP hL
 clear hL
 clear hb
 clear hK K
 refine rd1 5 (fun K hK => ?_)
 go_simp
 refine (ZdX HH.out.1 1 (by have := HH.out.1.ge; omega) _ _ v1 _ (HFF.out.moved (HBW.out.trans (hS.mono HBW.out.size))) HL1.out (HTV.out.moved (HBW.out.trans (hS.mono HBW.out.size)))).mono ?_
 rintro r y2 ⟨⟨v2, rfl, hL⟩, hb⟩
 refine hK.out _ _ (hS.trans (hb.mono hS.size)) (fun hS2 => ?_)
 clear hS
 have hS := hS2
 clear hS2
 have HL2 := hideP hL
 clear hL
 clear hb
 clear hK K
 refine rd1 6 (fun K hK => ?_)
 go_simp
 refine hK.out _ _ hS (fun hS => ?_)
 clear hK K
 refine wpAnyH_done (by kernel_rfl) ?_ _
 (try simp only [Zas])
 refine HK1.out _ _ ?_
 have HXL2 := hideP (HXL.out.moved hS)
 replace HB0 := hideP ((hS.block _ (Zaa HB0.out)).trans HB0.out)
 replace HBW := hideP (HBW.out.trans (hS.mono HBW.out.size))
 clear hS HXL HL1
 obtain ⟨E, hE⟩ : ∃ E, E = val f ne := ⟨_, rfl⟩
 have HEV := hideP hE
 have HEf : Hid (∀ j, j < ne → f j = limb E j) := fun j hj => by rw [hE, ZcQ ne (fun j _ => HEL.out j) hj]
 have HI0 : Hid (LW y2 v2 n (limb (elN n M (X ^ (E / 18446744073709551616 ^ ne))))) := by
  show LW _ _ _ _
  rw [Nat.div_eq_of_lt (by rw [hE]; exact Zcq ne (fun j _ => HEL.out j)), Nat.pow_zero]
  exact HL2.out
 rw [← hE]
 clear hE HL2
 refine Zad (fun K2 HK2 => ?_)
 go_wp2_with fail
 go_loopw [8, 9] (fun z i wr => ∃ k : Nat, k ≤ ne ∧ i = .int .i64 ((k : Int) - 1) ∧ LW wr z n (limb (elN n M (X ^ (E / 18446744073709551616 ^ k)))) ∧ LW wr vx n (limb (elN n M X)) ∧ Below w.heap.size w wr ∧ wr.heap[w.heap.size]? = some (.cells #[.slice (some ⟨gm, om, none⟩) n cm, .int .u64 (fo : Int), .slice (some ⟨gt, ot, none⟩) n ct] 39 (0, 0))) (fun _ i _ => (intOf i + 1).toNat)
 case atStart => exact ⟨ne, Nat.le_refl _, rfl, HI0.out, HXL2.out, HBW.out, HB0.out⟩
 case round =>
  obtain ⟨k, hk, rfl, hL, hX, hb, hf⟩ := hrel
  by_cases hz : 0 < k
  ·
   have e1 : (k : Int) - 1 = ((k - 1 : Nat) : Int) := by omega
   have hna := HH.out.2.2
   have e2 : IntKind.i64.wrap (((k - 1 : Nat) : Int) - 1) = ((k - 1 : Nat) : Int) - 1 := by rw [IntKind.wrap_i64]; omega
   have g3 : ((k - 1 : Nat) : Int) < ne := by omega
   have HKS : Hid (k - 1 ≤ ne ∧ 0 < k ∧ k ≤ ne) := ⟨by omega, hz, hk⟩
   have HL : Hid (LW wr u8 n (limb (elN n M (X ^ (E / 2 ^ (64 * (k - 1) + 64)))))) := by
    show LW _ _ _ _
    rw [show 64 * (k - 1) + 64 = 64 * k by omega, ← pow_two]
    exact hL
   have HB := hideP hb
   have HX := hideP hX
   have HF := hideP hf
   obtain ⟨ad, hao, _, _⟩ := HEC.out (k - 1) (by omega)
   subst hao
   rw [e1]
   clear hb hL hk hz e1 hna hX hf
   go_wp2_with fail
   rename World => wA
   go_loopw [8, 10] (fun z kk wr => ∃ j : Nat, j ≤ 64 ∧ kk = .int .i64 ((j : Int) - 1) ∧ LW wr z n (limb (elN n M (X ^ (E / 2 ^ (64 * (k - 1) + j))))) ∧ LW wr vx n (limb (elN n M X)) ∧ Below w.heap.size w wr ∧ wr.heap[w.heap.size]? = some (.cells #[.slice (some ⟨gm, om, none⟩) n cm, .int .u64 (fo : Int), .slice (some ⟨gt, ot, none⟩) n ct] 39 (0, 0))) (fun _ kk _ => (intOf kk + 1).toNat)
   case atStart => exact ⟨64, Nat.le_refl _, rfl, HL.out, HX.out, HB.out, HF.out⟩
   case round =>
    obtain ⟨j, hj, rfl, hL, hX, hb, hf⟩ := hrel
    by_cases hz : 0 < j
    ·
     have e1 : (j : Int) - 1 = ((j - 1 : Nat) : Int) := by omega
     have hk1 : k - 1 < ne := by have := HKS.out; omega
     obtain ⟨ad', hao, hab, hce⟩ := HEC.out (k - 1) hk1
     cases hao
     have hlim := HEf.out (k - 1) hk1
     rw [hlim] at hce
     have HCE := hideP hce
     have HAB := hideP (World.block_lt_of_cell? w _ hce)
     have hlx := Za4 E (k - 1)
     have hdl : limb E (k - 1) / 2 ^ (j - 1) < 18446744073709551616 := Nat.lt_of_le_of_lt (Nat.div_le_self _ _) hlx
     have hand : bits .and .u64 ((limb E (k - 1) : Int) / 2 ^ (j - 1)) 1 = ((limb E (k - 1) / 2 ^ (j - 1) % 2 : Nat) : Int) := by
      rw [← Zdx _ hdl]
      congr 1
     have HPB : Hid (X ^ (E / 2 ^ (64 * (k - 1) + (j - 1))) = X ^ (E / 2 ^ (64 * (k - 1) + j)) * X ^ (E / 2 ^ (64 * (k - 1) + j)) * X ^ (limb E (k - 1) / 2 ^ (j - 1) % 2)) := by
      show _ = _
      rw [Zj9 E (k - 1) (j - 1) (by omega), Zkc X E (64 * (k - 1) + (j - 1)), show 64 * (k - 1) + (j - 1) + 1 = 64 * (k - 1) + j by omega]
     have C := hideP (ZfO HH.out.1 (X ^ (E / 2 ^ (64 * (k - 1) + j))) (X ^ (E / 2 ^ (64 * (k - 1) + j))) wr _ _ _ (HFF.out.moved hb) hL hL)
     have q0 : wr.cell? ⟨w.heap.size, 0, none⟩ = some (.slice (some ⟨gm, om, none⟩) n cm) := Zae hf rfl
     have q1 : wr.cell? ⟨w.heap.size, 1, none⟩ = some (.int .u64 fo) := Zae hf rfl
     have q2 : wr.cell? ⟨w.heap.size, 2, none⟩ = some (.slice (some ⟨gt, ot, none⟩) n ct) := Zae hf rfl
     have HJS : Hid (j - 1 ≤ 64 ∧ 0 < j) := ⟨by omega, hz⟩
     have g4 : ((j - 1 : Nat) : Int) < 64 := by omega
     have e3 : IntKind.i64.wrap (((j - 1 : Nat) : Int) - 1) = ((j - 1 : Nat) : Int) - 1 := by rw [IntKind.wrap_i64]; omega
     have e5 : IntKind.u64.wrap ((j - 1 : Nat) : Int) = ((j - 1 : Nat) : Int) := by rw [IntKind.wrap_u64]; omega
     have HB2 := hideP hb
     have HX2 := hideP hX
     have HF2 := hideP hf
     have hb01 : limb E (k - 1) / 2 ^ (j - 1) % 2 = 0 ∨ limb E (k - 1) / 2 ^ (j - 1) % 2 = 1 := by omega
     rw [e1]
     clear hb hL hj hz e1 hk1 hdl hX hf hab hlim hce hlx
     generalize limb E (k - 1) / 2 ^ (j - 1) % 2 = bt at *
     generalize limb E (k - 1) = lv at *
     generalize X ^ (E / 2 ^ (64 * (k - 1) + j)) = Y at *
     generalize hj1 : j - 1 = j1 at *
     generalize hkk : k - 1 = k1 at *
     go_wp2_with fail
     refine C.out.mono ?_
     rintro r w3 ⟨⟨v3, rfl, hL3⟩, hb3⟩
     have HL3 := hideP hL3
     have HX3 := hideP (HX2.out.moved hb3)
     have HF3 := hideP ((hb3.block _ (Zaa HF2.out)).trans HF2.out)
     have HB3 := hideP (HB2.out.trans (hb3.mono HB2.out.size))
     have hce3 : w3.cell? (ad.add k1) = some (.int .u64 lv) := (HB3.out.cell (p := ad.add k1) HAB.out).trans HCE.out
     have p0 : w3.cell? ⟨w.heap.size, 0, none⟩ = some (.slice (some ⟨gm, om, none⟩) n cm) := Zae HF3.out rfl
     have p1 : w3.cell? ⟨w.heap.size, 1, none⟩ = some (.int .u64 fo) := Zae HF3.out rfl
     have p2 : w3.cell? ⟨w.heap.size, 2, none⟩ = some (.slice (some ⟨gt, ot, none⟩) n ct) := Zae HF3.out rfl
     clear hL3 hb3 C q0 q1 q2 HX2 HF2 HB2
     rcases hb01 with rfl | rfl
     ·
      have HPB2 := HPB.out
      rw [Nat.pow_zero, Nat.mul_one] at HPB2
      have HPB3 := hideP HPB2
      clear HPB2 HPB
      go_wp2_with fail
      refine ⟨⟨j1, HJS.out.1, by go_num, by rw [HPB3.out]; exact HL3.out, HX3.out, HB3.out, HF3.out⟩, ?_⟩
      have := HJS.out.2
      simp [intOf] <;> omega
     ·
      have HPB2 := HPB.out
      rw [Nat.pow_one] at HPB2
      have HPB3 := hideP HPB2
      have C2 := hideP (ZfO HH.out.1 (Y * Y) X w3 _ _ _ (HFF.out.moved HB3.out) HL3.out HX3.out)
      clear HPB2 HPB
      go_wp2_with fail
      refine C2.out.mono ?_
      rintro r w4 ⟨⟨v4, rfl, hL4⟩, hb4⟩
      have HL4 := hideP hL4
      have HX4 := hideP (HX3.out.moved hb4)
      have HF4 := hideP ((hb4.block _ (Zaa HF3.out)).trans HF3.out)
      have HB4 := hideP (HB3.out.trans (hb4.mono HB3.out.size))
      clear hL4 hb4 C2
      go_wp2_with fail
      refine ⟨⟨j1, HJS.out.1, by go_num, by rw [HPB3.out]; exact HL4.out, HX4.out, HB4.out, HF4.out⟩, ?_⟩
      have := HJS.out.2
      simp [intOf] <;> omega
    ·
     have hj0 : j = 0 := by omega
     subst hj0
     have HL2 : Hid (LW wr u8 n (limb (elN n M (X ^ (E / 18446744073709551616 ^ (k - 1)))))) := by
      show LW _ _ _ _
      rw [Nat.add_zero, ← pow_two] at hL
      exact hL
     have HB2 := hideP hb
     have HX2 := hideP hX
     have HF2 := hideP hf
     clear hL hb hj hz hX hf
     simp only [Int.natCast_zero, Int.zero_sub]
     generalize hkk : k - 1 = k1 at *
     go_wp2_with fail
     refine ⟨⟨k1, HKS.out.1, by go_num, HL2.out, HX2.out, HB2.out, HF2.out⟩, ?_⟩
     have := HKS.out.2
     simp [intOf] <;> omega
  ·
   have hk0 : k = 0 := by omega
   subst hk0
   rw [Nat.pow_zero, Nat.div_one] at hL
   have HL := hideP hL
   have HB := hideP hb
   have HF := hideP hf
   clear hL hb hk hz hX hf
   simp only [Int.natCast_zero, Int.zero_sub]
   go_wp2_with fail
   refine HK2.out _ _ ?_
   obtain ⟨NN, hNN⟩ : ∃ NN, NN = n + n := ⟨_, rfl⟩
   have hn := HH.out.1.n8
   have hmk := Zbo wr NN (by omega)
   have en : IntKind.i64.wrap (2 * (n : Int)) = (NN : Int) := by rw [IntKind.wrap_i64]; omega
   have q0 : wr.cell? ⟨w.heap.size, 0, none⟩ = some (.slice (some ⟨gm, om, none⟩) n cm) := Zae HF.out rfl
   have HNN : Hid (NN = n + n ∧ n ≤ 8) := ⟨hNN, hn⟩
   clear hNN hn
   refine Zad (fun K3 HK3 => ?_)
   go_wp2_with fail
   refine HK3.out _ _ ?_
   refine Zam (fun W2 hW2 => ?_)
   have hD : W2.heap[wr.heap.size]? = some (.cells (cw NN (fun _ => 0)) 27 (0, 0)) := by
    rw [hW2]
    exact Zaf _ _
   have hB2 : Below wr.heap.size wr W2 := by
    rw [hW2]
    exact (Below.refl _ _).alloc (Nat.le_refl _) _
   obtain ⟨W3, hcp, hD3, hg3⟩ := Zht (ty := 3) hD (HL.out.moved hB2) (by have := HNN.out; omega)
   have hB3 : Below wr.heap.size W2 W3 := (Below.refl _ _).grown hg3 hB2.size (fun x hx => by cases hx; exact Nat.le_refl _)
   have hB23 := hB2.trans hB3
   have HF3 := hideP ((hB23.block _ (Zaa HF.out)).trans HF.out)
   have HB3 := hideP (HB.out.trans (hB23.mono HB.out.size))
   have p0 : W3.cell? ⟨w.heap.size, 0, none⟩ = some (.slice (some ⟨gm, om, none⟩) n cm) := Zae HF3.out rfl
   have p1 : W3.cell? ⟨w.heap.size, 1, none⟩ = some (.int .u64 fo) := Zae HF3.out rfl
   have p2 : W3.cell? ⟨w.heap.size, 2, none⟩ = some (.slice (some ⟨gt, ot, none⟩) n ct) := Zae HF3.out rfl
   have hel := ZeN HH.out.1 (X ^ E)
   have hlt := HH.out.1.lt
   have hLL : LW W3 (.slice (some ⟨wr.heap.size, 0, none⟩) (n + n) (n + n)) (n + n) (limb (elN n M (X ^ E))) := by
    have h1 := ZbP (by have := HNN.out; omega) hD3
    rw [HNN.out.1] at h1
    refine h1.congr (fun j hj => ?_)
    by_cases h2 : j < n
    ·
     rw [if_pos h2]
    ·
     rw [if_neg h2, ZfJ (Nat.lt_trans hel hlt) (by omega)]
   have C := hideP (ZdW HH.out.1.n0 HH.out.1.n8 (elN n M (X ^ E)) M fo hlt HH.out.1.pos (Nat.lt_of_lt_of_le hel (Nat.le_mul_of_pos_right _ (Nat.pow_pos (by decide)))) HFO.out W3 _ _ (.slice (some ⟨gt, ot, none⟩) n ct) hLL (HMV.out.moved HB3.out))
   rw [← HNN.out.1] at C
   clear hW2 hmk hD hB2 hB3 hB23 hD3 hg3 hel hlt hLL q0 en
   obtain ⟨g8, o8, c8, hu8, -, -, -, -⟩ := HL.out.ex
   subst hu8
   go_wp2_with fail
   refine C.out.mono ?_
   rintro r W4 ⟨⟨v4, rfl, P, hP1, hP2, hP3⟩, hb⟩
   have HP : Hid (LW W4 v4 n (limb (X ^ E % M))) := by
    show LW _ _ _ _
    have : P = X ^ E % M := by
     refine HH.out.1.uniq hP2 (Nat.mod_lt _ HH.out.1.pos) ?_
     rw [hP3]
     unfold elN
     rw [Nat.mod_mod, Nat.mod_mul_mod]
    rw [← this]
    exact hP1
   have HB4 := hideP (HB3.out.trans (hb.mono HB3.out.size))
   clear hP1 hP2 hP3 hb C p0 p1 p2 hcp
   go_wp2
   go_ret
   exact ⟨⟨_, rfl, HP.out⟩, HB4.out⟩
theorem Zhu {n : Nat} (h : 0 < n) (x : Nat) (hx : x < 18446744073709551616) : x < 18446744073709551616 ^ n := by
 have := Nat.pow_le_pow_right (show 0 < 18446744073709551616 by decide) h
 rw [Nat.pow_one] at this
 omega
theorem Zjh {n M : Nat} (hM : FM n M) (X : Nat) (hX : X < M) (w : World) (fv u : Value) (hF : FF w fv n M) (hu : LW w u n (limb X)) :
  Calls Tryz.prog 167 #[fv, u] w fun r w' => (∃ v', r = .returned v' ∧ LW w' v' n (limb (X ^ (M - 2) % M))) ∧ Below w.heap.size w w' := by
 have HU := hideP hu
 have HFF := hideP hF
 have HH : Hid (FM n M ∧ X < M) := ⟨hM, hX⟩
 clear hu hM hX
 obtain ⟨mv, fo, tv, rfl, hm, ht, hfo⟩ := hF.ex
 have HMV := hideP hm
 have HTV := hideP ht
 have HFO := hideP hfo
 clear hF hm ht hfo
 go_enter Tryz.func167, Tryz.ntmps167
 refine Zad (fun K0 HK0 => ?_)
 go_wp2_with fail
 refine HK0.out _ _ ?_
 refine Zam (fun W0 hW0 => ?_)
 have hB0 : W0.heap[w.heap.size]? = some (.cells #[mv, .int .u64 fo, tv] 39 (0, 0)) := by
  rw [hW0]
  exact Zaf _ _
 have HBW : Hid (Below w.heap.size w W0) := by
  show Below _ _ _
  rw [hW0]
  repeat first | exact Below.refl _ _ | (refine Below.alloc ?_ (by simp <;> omega) _)
 have HB0 := hideP hB0
 clear hW0 hB0
 obtain ⟨gt, ot, ct, hte, -, -, -, -⟩ := HTV.out.ex
 subst hte
 obtain ⟨gm, om, cm, hme, -, -, -, -⟩ := HMV.out.ex
 subst hme
 refine Zad (fun K1 HK1 => ?_)
 refine Zaj (S := fun V => Below W0.heap.size W0 V) (by kernel_rfl) ((Below.refl _ _).drew) (fun hS => ?_)
 refine tkG 0 hS ?_
 simp only [Zab, Zs, Zz]
 refine tkI 1 ?_ hS ?_ ?_
 rotate_left
 ·
  intro V hV
  have k0 : V.cell? ⟨w.heap.size, 0, none⟩ = some (.slice (some ⟨gm, om, none⟩) n cm) := Zae ((hV.block _ (Zaa HB0.out)).trans HB0.out) rfl
  have k1 : V.cell? ⟨w.heap.size, 1, none⟩ = some (.int .u64 fo) := Zae ((hV.block _ (Zaa HB0.out)).trans HB0.out) rfl
  have k2 : V.cell? ⟨w.heap.size, 2, none⟩ = some (.slice (some ⟨gt, ot, none⟩) n ct) := Zae ((hV.block _ (Zaa HB0.out)).trans HB0.out) rfl
  go_simp
  (try with_reducible rfl)
 simp only [Zab, Zs, Zz]
 refine tkI 2 ?_ hS ?_ ?_
 rotate_left
 ·
  intro V hV
  have k0 : V.cell? ⟨w.heap.size, 0, none⟩ = some (.slice (some ⟨gm, om, none⟩) n cm) := Zae ((hV.block _ (Zaa HB0.out)).trans HB0.out) rfl
  have k1 : V.cell? ⟨w.heap.size, 1, none⟩ = some (.int .u64 fo) := Zae ((hV.block _ (Zaa HB0.out)).trans HB0.out) rfl
  have k2 : V.cell? ⟨w.heap.size, 2, none⟩ = some (.slice (some ⟨gt, ot, none⟩) n ct) := Zae ((hV.block _ (Zaa HB0.out)).trans HB0.out) rfl
  go_simp
  (try with_reducible rfl)
 simp only [Zab, Zs, Zz]
 refine rd1 3 (fun K hK => ?_)
 go_simp
 refine (Zhs HH.out.1 2 (by decide) _ _ (HFF.out.moved (HBW.out.trans (hS.mono HBW.out.size)))).mono ?_
 rintro r y1 ⟨⟨v1, rfl, hL⟩, hb⟩
 refine hK.out _ _ (hS.trans (hb.mono hS.size)) (fun hS2 => ?_)
 clear hS
 have hS := hS2
 clear hS2
 have HL1 := hideP hL
 clear hL
 clear hb
 clear hK K
 refine rd1 4 (fun K hK => ?_)
 go_simp
 refine (Zcl HH.out.1.n8 M 2 HH.out.1.lt (Zhu HH.out.1.n0 2 (by decide)) _ _ v1 (HMV.out.moved (HBW.out.trans (hS.mono HBW.out.size))) HL1.out).mono ?_
 rintro r y2 ⟨⟨v2, c2, rfl, hL, -⟩, hb⟩
 refine hK.out _ _ (hS.trans (hb.mono hS.size)) (fun hS2 => ?_)
 clear hS
 have hS := hS2
 clear hS2
 rw [if_neg (by have := HH.out.1.ge; omega)] at hL
 have HL2 := hideP hL
 clear hL
 clear hb
 clear hK K
 refine tkG 5 hS ?_
 simp only [Zab, Zs, Zz]
 refine tkG 6 hS ?_
 simp only [Zab, Zs, Zz]
 refine tkG 7 hS ?_
 simp only [Zab, Zs, Zz]
 refine rd1 8 (fun K hK => ?_)
 go_simp
 refine hK.out _ _ hS (fun hS => ?_)
 clear hK K
 refine rd1 9 (fun K hK => ?_)
 go_simp
 refine hK.out _ _ hS (fun hS => ?_)
 clear hK K
 refine wpAnyH_done (by kernel_rfl) ?_ _
 (try simp only [Zas])
 refine HK1.out _ _ ?_
 have f0 : y2.cell? ⟨w.heap.size, 0, none⟩ = some (.slice (some ⟨gm, om, none⟩) n cm) := Zae ((hS.block _ (Zaa HB0.out)).trans HB0.out) rfl
 have f1 : y2.cell? ⟨w.heap.size, 1, none⟩ = some (.int .u64 fo) := Zae ((hS.block _ (Zaa HB0.out)).trans HB0.out) rfl
 have f2 : y2.cell? ⟨w.heap.size, 2, none⟩ = some (.slice (some ⟨gt, ot, none⟩) n ct) := Zae ((hS.block _ (Zaa HB0.out)).trans HB0.out) rfl
 have HB2 := hideP (HBW.out.trans (hS.mono HBW.out.size))
 have C := hideP (Zjg HH.out.1 X HH.out.2 n HH.out.1.n8 (limb (M - 2)) y2 _ u v2 (HFF.out.moved HB2.out) (HU.out.moved HB2.out) HL2.out.exp)
 rw [Zar (Nat.lt_of_le_of_lt (Nat.sub_le _ _) HH.out.1.lt)] at C
 clear hS HBW HL1
 go_wp2_with fail
 refine C.out.mono ?_
 rintro r y3 ⟨⟨v3, rfl, hL⟩, hb⟩
 have HL3 := hideP hL
 have HB3 := hideP (HB2.out.trans (hb.mono HB2.out.size))
 clear hL hb C
 go_wp2
 go_ret
 exact ⟨⟨_, rfl, HL3.out⟩, HB3.out⟩
section
variable {P : Program} {md : Region.Mode} {ops : Array Oper} {Q : Exit → Act → World → Prop} {S : World → Prop} {Z : List Nat}
def wpAnyZ (P : Program) (md : Region.Mode) (ops : Array Oper) (Q : Exit → Act → World → Prop) (S : World → Prop) (Z : List Nat) : Nat → Array Bool → Act → World → Prop
 | 0, listed, a, w => Region.ready md ops listed = [] ∧ Q .normal a w
 | f + 1, listed, a, w => (Region.ready md ops listed = [] → Q .normal a w) ∧ ∀ i ∈ Region.ready md ops listed, wpOp P ops Q i (fun a' w' => (i ∉ Z → S w') ∧ wpAnyZ P md ops Q S Z f (listed.setIfInBounds i true) a' w') a w
theorem ZgP : ∀ (f : Nat) (listed : Array Bool) (a : Act) (w : World), wpAnyZ P md ops Q S Z f listed a w → wpAny P md ops Q f listed a w
 | 0, _, _, _, h => h
 | f + 1, _, _, _, h => ⟨h.1, fun i hi => wpOp_mono (fun a' w' h' => ZgP f _ a' w' h'.2) (h.2 i hi)⟩
def ZcU (md : Region.Mode) (ops : Array Oper) : Nat → Nat → Nat → Bool
 | 0, _, _ => false
 | f + 1, z, i => match ops[z]? with
  | some o => o.after.any fun e => Region.binds md e && (e.on == i || ZcU md ops f e.on i)
  | none => false
def Closed (md : Region.Mode) (ops : Array Oper) (listed : Array Bool) : Prop :=
 ∀ j oj, ops[j]? = some oj → listed.getD j false = true → ∀ e ∈ oj.after, Region.binds md e = true → listed.getD e.on false = true
def Zgm (md : Region.Mode) (ops : Array Oper) (listed : Array Bool) : Bool :=
 (List.range ops.size).all fun j => !listed.getD j false || (match ops[j]? with | some o => o.after.all fun e => !Region.binds md e || listed.getD e.on false | none => true)
theorem ZhK {listed : Array Bool} (h : Zgm md ops listed = true) : Closed md ops listed := by
 intro j oj hj hl e he hb
 unfold Zgm at h
 rw [List.all_eq_true] at h
 have h1 := h j (List.mem_range.2 (Array.getElem?_eq_some_iff.1 hj).1)
 rw [hj, hl] at h1
 simp only [Bool.not_true, Bool.false_or, Array.all_eq_true] at h1
 obtain ⟨k, hk, rfl⟩ := Array.mem_iff_getElem.1 he
 have h2 := h1 k hk
 rw [hb] at h2
 simpa using h2
theorem Closed.waits {listed : Array Bool} (hc : Closed md ops listed) {i : Nat} : ∀ (f z : Nat) (oz : Oper), ops[z]? = some oz → (∀ e ∈ oz.after, Region.binds md e = true → listed.getD e.on false = true) → ZcU md ops f z i = true → listed.getD i false = true
 | 0, _, _, _, _, h => by cases h
 | f + 1, z, oz, hz, hl, h => by
  unfold ZcU at h
  rw [hz] at h
  simp only [Array.any_eq_true, Bool.and_eq_true, Bool.or_eq_true, beq_iff_eq] at h
  obtain ⟨k, hk, hb, he | he⟩ := h
  ·
   rw [← he]; exact hl _ (Array.getElem_mem hk) hb
  ·
   cases ho : ops[oz.after[k].on]? with
   | none =>
    cases f with
    | zero => cases he
    | succ f => unfold ZcU at he; rw [ho] at he; cases he
   | some o => exact hc.waits f _ o ho (hc _ _ ho (hl _ (Array.getElem_mem hk) hb)) he
theorem Closed.set {listed : Array Bool} (hc : Closed md ops listed) {j : Nat} {oj : Oper} (hj : ops[j]? = some oj) (hl : ∀ e ∈ oj.after, Region.binds md e = true → listed.getD e.on false = true) : Closed md ops (listed.setIfInBounds j true) := by
 have up : ∀ k, listed.getD k false = true → (listed.setIfInBounds j true).getD k false = true := fun k hk => by
  rcases Decidable.em (j = k) with rfl | hne
  ·
   have hlt : j < listed.size := by
    rcases Nat.lt_or_ge j listed.size with h | h
    ·
     exact h
    ·
     simp [Array.getElem?_eq_none h] at hk
   simp [hlt]
  ·
   rwa [getD_set_ne false hne]
 intro k ok hk hkl e he hb
 refine up _ ?_
 rcases Decidable.em (j = k) with rfl | hne
 ·
  rw [hj] at hk
  cases hk
  exact hl e he hb
 ·
  rw [getD_set_ne false hne] at hkl
  exact hc k ok hk hkl e he hb
theorem Zhv {i : Nat} {oi : Oper} {v : Value} (hi : ops[i]? = some oi) (hsel : ∀ (j : Nat) (o : Oper) cs b, ops[j]? = some o → o.op ≠ .select cs b)
  (hQ : ∀ c a w, Q (.panic c) (a.put oi.dst v) w → Q (.panic c) a w) {T : World → Prop} (hT : (i ∈ Z ∧ ∀ w, T w) ∨ ((∀ w, S w → T w) ∧ ∃ g, ∀ z ∈ Z, ZcU md ops g z i = true)) :
  ∀ (f : Nat) (listed : Array Bool) (a : Act) (w : World), Closed md ops listed →
   (∀ j oj, ops[j]? = some oj → j ≠ i → listed.getD j true = false → (∀ e ∈ oj.after, Region.binds md e = true → e.on ≠ i) → oi.apart ops oj = true) →
   i ∈ Region.ready md ops listed → YieldsIf P ops T oi v a → T w → (i ∉ Z → S w) →
   wpAnyZ P md ops Q S Z f (listed.setIfInBounds i true) (a.put oi.dst v) w → wpAnyZ P md ops Q S Z (f + 1) listed a w := by
 intro f
 induction f with
 | zero =>
  intro listed a w _ _ hr hy hTw hS H
  refine ⟨fun h0 => absurd hr (by rw [h0]; simp), fun j hj => ?_⟩
  rcases Decidable.em (j = i) with rfl | hne
  ·
   exact hy.wpOp hi hTw ⟨hS, H⟩
  ·
   exact absurd (ready_mono hj hne) (by rw [H.1]; simp)
 | succ f ih =>
  intro listed a w hcl hfree hr hy hTw hS H
  refine ⟨fun h0 => absurd hr (by rw [h0]; simp), fun j hj => ?_⟩
  rcases Decidable.em (j = i) with rfl | hne
  ·
   exact hy.wpOp hi hTw ⟨hS, H⟩
  ·
   obtain ⟨hun, oj, hoj, hall⟩ := mem_ready.1 hj
   have hnot : ∀ e ∈ oj.after, Region.binds md e = true → e.on ≠ i := fun e he hb heq => by
    have t := hall e he hb
    have t0 := (mem_ready.1 hr).1
    rw [heq] at t
    rcases Nat.lt_or_ge i listed.size with h' | h'
    ·
     simp [h'] at t0 t; rw [t0] at t; cases t
    ·
     simp [Array.getElem?_eq_none h'] at t
   have hTj : ∀ w', (j ∉ Z → S w') → T w' ∧ (i ∉ Z → S w') := fun w' hs => by
    rcases hT with ⟨hiZ, h⟩ | ⟨h, g, hz⟩
    ·
     exact ⟨h w', fun hn => absurd hiZ hn⟩
    ·
     have hS' : S w' := hs fun hjZ => by
      have t := hcl.waits g j oj hoj (fun e he hb => by simpa using hall e he hb) (hz j hjZ)
      have t0 := (mem_ready.1 hr).1
      rcases Nat.lt_or_ge i listed.size with h' | h'
      ·
       simp [h'] at t0 t; rw [t0] at t; cases t
      ·
       simp [Array.getElem?_eq_none h'] at t
     exact ⟨h w' hS', fun _ => hS'⟩
   have hfree' : ∀ k ok, ops[k]? = some ok → k ≠ i → (listed.setIfInBounds j true).getD k true = false →
     (∀ e ∈ ok.after, Region.binds md e = true → e.on ≠ i) → oi.apart ops ok = true := fun k ok hk hki hun' hno => by
    refine hfree k ok hk hki ?_ hno
    rcases Decidable.em (j = k) with rfl | hjk
    ·
     exact hun
    ·
     rwa [getD_set_ne true hjk] at hun'
   refine wpOp_mono (fun a' w' h3 => ⟨h3.2.1, ih _ a' w' (hcl.set hoj (fun e he hb => by simpa using hall e he hb)) hfree' (ready_mono hr (Ne.symm hne)) h3.1 (hTj w' h3.2.1).1 (hTj w' h3.2.1).2 ?_⟩)
    (wpOp_putIf hoj (hfree j oj hoj hne hun hnot) (fun cs b => hsel i oi cs b hi) (fun cs b => hsel j oj cs b hoj) hQ hy (H.2 j (ready_mono hj hne)))
   rw [Array.setIfInBounds_comm _ _ hne]
   exact h3.2.2
def ZhL (md : Region.Mode) (ops : Array Oper) (g : Nat) (Z : List Nat) (i : Nat) : Bool := Z.all fun z => ZcU md ops g z i
theorem Za6 {l : List Oper} {i : Nat} {oi : Oper} {v : Value} {f : Nat} {listed : Array Bool} {a : Act} {w : World} (hi : l[i]? = some oi)
  (hs : Region.noSelect l.toArray = true) (hf : Region.free md l.toArray listed i = true) (hr : (Region.ready md l.toArray listed).contains i = true) {g : Nat} (hz : ZhL md l.toArray g Z i = true) (hc : Zgm md l.toArray listed = true)
  (hQ : ∀ c a w, Q (.panic c) (a.put oi.dst v) w → Q (.panic c) a w) (hy : YieldsIf P l.toArray S oi v a) (hS : S w)
  (h : wpAnyZ P md l.toArray Q S Z f (listed.setIfInBounds i true) (a.put oi.dst v) w) : wpAnyZ P md l.toArray Q S Z (f + 1) listed a w :=
 Zhv (by simpa using hi) (Region.noSelect_spec hs) hQ (.inr ⟨fun _ h => h, g, by unfold ZhL at hz; simpa using hz⟩) f listed a w (ZhK hc) (Region.free_spec (by simpa using hi) hf) (by simpa using hr) hy hS (fun _ => hS) h
theorem ZcV {i : Nat} {o : Oper} {f : Nat} {listed : Array Bool} {a : Act} {w : World} (hr : Region.ready md ops listed = [i]) (ho : ops[i]? = some o)
  (h : ∀ K : Act → World → Prop, Shut (∀ a w, (i ∉ Z → S w) → wpAnyZ P md ops Q S Z f (listed.setIfInBounds i true) a w → K a w) → if Region.wanted o (yielded ops a.tmps) = true then Oper.wp P o a w K Q else K (a.put o.dst undef) w) :
  wpAnyZ P md ops Q S Z (f + 1) listed a w :=
 ⟨fun h0 => absurd (hr ▸ h0) (by simp), fun j hj => by
  rw [hr] at hj
  obtain rfl : j = i := by simpa using hj
  exact wpOp_step ho (fun K hK => h K (fun a w hS hW => hK a w ⟨hS, hW⟩))⟩
theorem Zcs {listed : Array Bool} {a : Act} {w : World} (hr : Region.ready md ops listed = []) (h : Q .normal a w) : ∀ f, wpAnyZ P md ops Q S Z f listed a w
 | 0 => ⟨hr, h⟩
 | _ + 1 => ⟨fun _ => h, by rw [hr]; simp⟩
theorem ZbJ {id : Nat} {a : Act} {w : World} (Z : List Nat) (S : World → Prop) (hm : P.follows .mixedOrders = true) (hS : S w.drew)
  (h : S w.drew → wpAnyZ P .any ops Q S Z ops.size (Array.replicate ops.size false) a w.drew) : (Code.region id ops true).wp P Q a w :=
 wp_region_any hm (ZgP _ _ _ _ (h hS))
end
theorem Zji {K : Act → World → Prop} {Q : Exit → Act → World → Prop} {a : Act} {w : World} (h : Q .ret a w) : Exit.then K Q .ret a w := h
theorem ZaU : Tryz.prog.underlying 39 = some (.struct (fsOf (Tryz.prog.underlying 39))) := by kernel_rfl
theorem info39 : (Tryz.prog.info? 39).map (·.size) = some 3 := by kernel_rfl
theorem al39 (w : World) : (Instr.alloc 39 true (.tuple #[])).run Tryz.prog w = .ok (.pointer (some ⟨w.heap.size, 0, none⟩)) (w.alloc (.cells #[.slice none 0 0, .int .u64 0, .slice none 0 0] 39 (0, 0))) := by kernel_rfl
theorem Zgn : Tryz.prog.underlying 42 = some (.struct (fsOf (Tryz.prog.underlying 42))) := by kernel_rfl
theorem info42 : (Tryz.prog.info? 42).map (·.size) = some 3 := by kernel_rfl
theorem al42 (w : World) : (Instr.alloc 42 true (.tuple #[])).run Tryz.prog w = .ok (.pointer (some ⟨w.heap.size, 0, none⟩)) (w.alloc (.cells #[.slice none 0 0, .slice none 0 0, .bool false] 42 (0, 0))) := by kernel_rfl
theorem Zdh : Tryz.prog.underlying 44 = some (.struct (fsOf (Tryz.prog.underlying 44))) := by kernel_rfl
theorem info44 : (Tryz.prog.info? 44).map (·.size) = some 9 := by kernel_rfl
theorem al44 (w : World) : (Instr.alloc 44 true (.tuple #[])).run Tryz.prog w = .ok (.pointer (some ⟨w.heap.size, 0, none⟩)) (w.alloc (.cells #[.slice none 0 0, .int .u64 0, .slice none 0 0, .int .i64 0, .slice none 0 0, .slice none 0 0, .slice none 0 0, .slice none 0 0, .bool false] 44 (0, 0))) := by kernel_rfl
theorem Zbf {P : Program} {op : Oper} {l : List Value} {ds : List Deferred} {w : World} {K : Act → World → Prop} {Q : Exit → Act → World → Prop} (args : Array Operand) (tys : Array TypeId) (d : Nat) {f : Nat} (ho : op.op = .call { callee := .value (.func f), args := args, argTypes := tys }) (hd : op.dst = some d) {av : Array Value}
  (hx : args.map (Act.eval { tmps := l.toArray, defers := ds }) = av) (hm : ∀ av w, (callFunc f av).run P w = .ok (.enter f av) w) {R : Ending → World → Prop} (hc : Calls P f av w R)
  (h : ∀ e w', R e w' → ∃ v, e = .returned v ∧ K { tmps := (l.set d v).toArray, defers := ds } w') : op.wp P { tmps := l.toArray, defers := ds } w K Q := by
 unfold Oper.wp execOp
 have he : (do let d ← resolve (Act.eval { tmps := l.toArray, defers := ds }) { callee := .value (.func f), args := args, argTypes := tys } op.type; invoke d.target d.args).run P w = .ok (.enter f av) w := by
  have hf : Act.eval { tmps := l.toArray, defers := ds } (.func f) = .func (.func f) #[] #[] := rfl
  simp only [resolve, invoke, Deferred.ofValue, hf, Sem.run_bind, Sem.run_pure, Result.andThen, hx]
  simp [hm]
 simp only [ho]
 rw [he]
 refine hc.mono ?_
 intro e w' hR
 obtain ⟨v, rfl, hK⟩ := h e w' hR
 show K _ _
 rw [hd, Zab]
 exact hK
end Go.Proofs.YtcbdbnfgnonacaaGreat
