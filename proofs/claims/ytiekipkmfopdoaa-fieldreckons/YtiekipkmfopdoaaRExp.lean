/-
  The document's Exp and Inv.
-/
import Derived.Test.YtiekipkmfopdoaaRFld
namespace Go.Proofs.Ytiekipkmfopdoaa
open Go.RowKit Go.Shelf

/-- The run of 'copy' into a row that is known whole. -/
theorem copy_run {P : Program} (w : World) (T ty E : TypeId) (hu : P.underlying T = some (.slice E)) (hs : (P.info? E).map (·.size) = some 1) (dp sp : Option Addr) (dLen dCap sLen sCap : Nat)
    (g off : Nat) (cur : List Value) (t : TypeId) (hg : w.heap[g]? = some (.cells cur.toArray t (0, 0))) (cs : List Value) (hn : cs.length = Nat.min sLen dLen)
    (hpos : 0 < cs.length → dp = some ⟨g, off, none⟩ ∧ ∃ ad, sp = some ad ∧ ∀ j v, cs[j]? = some v → w.cell? (ad.add j) = some v)
    (hfit : off + cs.length ≤ cur.length) (h1 : ∀ v ∈ cs, v.oneCell' = true) :
    ∃ w', (Builtin.copy_ #[T, T] ty #[.slice dp dLen dCap, .slice sp sLen sCap]).run P w = .ok (goInt cs.length) w' ∧ w'.heap[g]? = some (.cells (splice cur off cs).toArray t (0, 0)) ∧ w.grownBy w' (some g) := by
  by_cases h0 : cs.length = 0
  · obtain rfl : cs = [] := List.eq_nil_of_length_eq_zero h0
    refine ⟨w, ?_, by simpa [splice] using hg, World.grownBy.refl _ _⟩
    exact run_copy_none (P := P) w T T ty E dp sp dLen dCap sLen sCap hu hs (by simpa using hn.symm)
  · obtain ⟨rfl, ad, rfl, hsrc⟩ := hpos (by omega)
    refine ⟨_, run_copy_row (P := P) w T T ty E g off dLen dCap ad sLen sCap cur.toArray t cs hu hs hg hn hsrc (by simpa using hfit) h1, ?_, ?_⟩
    · simpa [splice] using setRow_heap w g cur.toArray _ t _ hg
    · exact ⟨rfl, rfl, rfl, by simp [World.setRow], fun k hk hne => setRow_other w g k _ (fun e => hne (by rw [e]))⟩

set_option maxRecDepth 100000 in
theorem copy_words {w : World} {D N n ty : Nat} {z : Value} {f : Nat → Nat} (hD : w.heap[D]? = some (.cells (cw N (fun _ => 0)) 23 (0, 0))) (hz : LW w z n f) (hn : n ≤ N) :
    ∃ w', (Builtin.copy_ #[27, 27] ty #[.slice (some ⟨D, 0, none⟩) N N, z]).run Try.prog w = .ok (goInt n) w' ∧ w'.heap[D]? = some (.cells (cw N (fun j => if j < n then f j else 0)) 23 (0, 0)) ∧ w.grownBy w' (some D) := by
  obtain ⟨g, o, c, rfl, _, _, hg, hc⟩ := hz.ex
  have hsz : (Try.prog.info? 23).map (·.size) = some 1 := by kernel_rfl
  obtain ⟨w', hr, hh, hgr⟩ := copy_run (P := Try.prog) w 27 ty 23 Try.undL hsz (some ⟨D, 0, none⟩) (some ⟨g, o, none⟩) N N n c D 0 (wl N (fun _ => 0)) 23 hD (wl n f) (by rw [wl_len]; exact (Nat.min_eq_left hn).symm) (fun _ => ⟨rfl, _, rfl, fun j v hv => by
    have hj := (List.getElem?_eq_some_iff.1 hv).1
    rw [wl_len] at hj
    rw [wl_get hj] at hv
    rw [Addr.add_mid, hc j hj]
    exact hv⟩) (by rw [wl_len, wl_len]; omega) wl_one
  rw [wl_len] at hr
  refine ⟨w', hr, ?_, hgr⟩
  rw [hh]
  congr 2
  apply Array.ext_getElem?
  intro j
  rw [List.getElem?_toArray]
  unfold splice
  rw [List.take_zero, List.nil_append, wl_len, Nat.zero_add]
  by_cases h1 : j < n
  · rw [List.getElem?_append_left (by rw [wl_len]; exact h1), wl_get h1, cw_get _ (by omega), if_pos h1]
  · rw [List.getElem?_append_right (by rw [wl_len]; omega), wl_len, List.getElem?_drop]
    by_cases h2 : j < N
    · rw [show n + (j - n) = j by omega, wl_get h2, cw_get _ h2, if_neg h1]
    · rw [List.getElem?_eq_none (by rw [wl_len]; omega), Array.getElem?_eq_none (by rw [cw_size]; omega)]

/-- An exponent: so many words. -/
structure EW (w : World) (v : Value) (ne : Nat) (f : Nat → Nat) : Prop where
  lt : ∀ j, f j < 18446744073709551616
  ex : ∃ ao c, v = .slice ao ne c ∧ ∀ j, j < ne → ∃ ad, ao = some ad ∧ ad.block < w.heap.size ∧ w.cell? (ad.add j) = some (.int .u64 (f j))

theorem EW.moved {w w' : World} {v : Value} {n : Nat} {f : Nat → Nat} (h : EW w v n f) (hb : Below w.heap.size w w') : EW w' v n f := by
  refine ⟨h.lt, ?_⟩
  obtain ⟨ao, c, e, hc⟩ := h.ex
  refine ⟨ao, c, e, fun j hj => ?_⟩
  obtain ⟨ad, e1, h1, h2⟩ := hc j hj
  exact ⟨ad, e1, Nat.lt_of_lt_of_le h1 hb.size, (hb.cell (p := ad.add j) (World.block_lt_of_cell? w _ h2)).trans h2⟩

theorem LW.exp {w : World} {v : Value} {n X : Nat} (h : LW w v n (limb X)) : EW w v n (limb X) := by
  obtain ⟨g, o, c, e, h1, h2, hg, hc⟩ := h.ex
  exact ⟨limb_lt X, _, c, e, fun j hj => ⟨_, rfl, hg, by rw [Addr.add_mid]; exact hc j hj⟩⟩

theorem pow_bit (X E p : Nat) : X ^ (E / 2 ^ p) = X ^ (E / 2 ^ (p + 1)) * X ^ (E / 2 ^ (p + 1)) * X ^ (E / 2 ^ p % 2) := by
  have e : E / 2 ^ p = E / 2 ^ (p + 1) + E / 2 ^ (p + 1) + E / 2 ^ p % 2 := by
    rw [Nat.pow_succ, ← Nat.div_div_eq_div_mul]
    omega
  conv => lhs; rw [e, Nat.pow_add, Nat.pow_add]

set_option maxHeartbeats 4000000 in
set_option maxRecDepth 100000 in
/-- The document's Exp. -/
theorem rexp_any {n M : Nat} (hM : FM n M) (X : Nat) (hX : X < M) (ne : Nat) (hne : ne ≤ 8) (f : Nat → Nat) (w : World) (fv u ev : Value) (hF : FF w fv n M) (hu : LW w u n (limb X)) (he : EW w ev ne f) :
    Calls Try.prog 44 #[fv, u, ev] w fun r w' => (∃ v', r = .returned v' ∧ LW w' v' n (limb (X ^ val f ne % M))) ∧ Below w.heap.size w w' := by
  have HU := hideP hu
  have HFF := hideP hF
  obtain ⟨eo, ec, rfl, hec⟩ := he.ex
  have HEC := hideP hec
  have HEL := hideP he.lt
  have HH : Hid (FM n M ∧ X < M ∧ ne ≤ 8) := ⟨hM, hX, hne⟩
  have ew2 : IntKind.i64.wrap ((ne : Int) - 1) = (ne : Int) - 1 := by rw [IntKind.wrap_i64]; omega
  clear hu hM hX he hec hne
  obtain ⟨mv, fo, tv, rfl, hm, ht, hfo⟩ := hF.ex
  have HMV := hideP hm
  have HTV := hideP ht
  have HFO := hideP hfo
  clear hF hm ht hfo
  go_enter Try.func44, Try.ntmps44
  refine wp_seqH (fun K0 HK0 => ?_)
  go_wp2_with fail
  refine HK0.out _ _ ?_
  refine at_world (fun W0 hW0 => ?_)
  have hB0 : W0.heap[w.heap.size]? = some (.cells #[mv, .int .u64 fo, tv] 38 (0, 0)) := by
    rw [hW0]
    exact heap_new _ _
  have HBW : Hid (Below w.heap.size w W0) := by
    show Below _ _ _
    rw [hW0]
    repeat first | exact Below.refl _ _ | (refine Below.alloc ?_ (by simp <;> omega) _)
  have HB0 := hideP hB0
  clear hW0 hB0
  have f0 : W0.cell? ⟨w.heap.size, 0, none⟩ = some mv := blk_cell HB0.out rfl
  have f1 : W0.cell? ⟨w.heap.size, 1, none⟩ = some (.int .u64 fo) := blk_cell HB0.out rfl
  have f2 : W0.cell? ⟨w.heap.size, 2, none⟩ = some tv := blk_cell HB0.out rfl
  obtain ⟨gt, ot, ct, hte, -, -, -, -⟩ := HTV.out.ex
  subst hte
  obtain ⟨gm, om, cm, hme, -, -, -, -⟩ := HMV.out.ex
  subst hme
  have C1 := hideP (rtimes_in HH.out.1 X HH.out.2.1 W0 _ u _ (HFF.out.moved HBW.out) (HU.out.moved HBW.out) (HTV.out.moved HBW.out))
  refine wp_seqH (fun Ka HKa => ?_)
  go_wp2_with fail
  refine C1.out.mono ?_
  rintro r W1 ⟨⟨vx, rfl, hx⟩, hb⟩
  have HXL := hideP hx
  replace HB0 := hideP ((hb.block _ (lt_of_block HB0.out)).trans HB0.out)
  replace HBW := hideP (HBW.out.trans (hb.mono HBW.out.size))
  clear hb hx C1 f0 f1 f2
  go_wp2_with fail
  refine HKa.out _ _ ?_
  refine wp_seqH (fun K1 HK1 => ?_)
  refine wp_region_heldS (S := fun V => Below W1.heap.size W1 V) (by kernel_rfl) ((Below.refl _ _).drew) (fun hS => ?_)
  refine wpAnyH_takeL (i := 0) (v := ?_) rfl (by kernel_rfl) (by kernel_rfl) (by kernel_rfl) (fun _ _ _ h => h) (Or.inl ⟨by kernel_rfl, ?_⟩) hS ?_
  rotate_left
  · intro V hV
    have k0 : V.cell? ⟨w.heap.size, 0, none⟩ = some (.slice (some ⟨gm, om, none⟩) n cm) := blk_cell ((hV.block _ (lt_of_block HB0.out)).trans HB0.out) rfl
    have k1 : V.cell? ⟨w.heap.size, 1, none⟩ = some (.int .u64 fo) := blk_cell ((hV.block _ (lt_of_block HB0.out)).trans HB0.out) rfl
    have k2 : V.cell? ⟨w.heap.size, 2, none⟩ = some (.slice (some ⟨gt, ot, none⟩) n ct) := blk_cell ((hV.block _ (lt_of_block HB0.out)).trans HB0.out) rfl
    go_simp
    (try with_reducible rfl)
  simp only [put_list, List.set_cons_succ, List.set_cons_zero]
  refine wpAnyH_takeL (i := 1) (v := ?_) rfl (by kernel_rfl) (by kernel_rfl) (by kernel_rfl) (fun _ _ _ h => h) (Or.inl ⟨by kernel_rfl, ?_⟩) hS ?_
  rotate_left
  · intro V hV
    have k0 : V.cell? ⟨w.heap.size, 0, none⟩ = some (.slice (some ⟨gm, om, none⟩) n cm) := blk_cell ((hV.block _ (lt_of_block HB0.out)).trans HB0.out) rfl
    have k1 : V.cell? ⟨w.heap.size, 1, none⟩ = some (.int .u64 fo) := blk_cell ((hV.block _ (lt_of_block HB0.out)).trans HB0.out) rfl
    have k2 : V.cell? ⟨w.heap.size, 2, none⟩ = some (.slice (some ⟨gt, ot, none⟩) n ct) := blk_cell ((hV.block _ (lt_of_block HB0.out)).trans HB0.out) rfl
    go_simp
    (try with_reducible rfl)
  simp only [put_list, List.set_cons_succ, List.set_cons_zero]
  refine wpAnyH_takeL (i := 3) (v := ?_) rfl (by kernel_rfl) (by kernel_rfl) (by kernel_rfl) (fun _ _ _ h => h) (Or.inl ⟨by kernel_rfl, ?_⟩) hS ?_
  rotate_left
  · intro V hV
    go_simp
    (try with_reducible rfl)
  simp only [put_list, List.set_cons_succ, List.set_cons_zero]
  refine wpAnyH_takeL (i := 4) (v := ?_) rfl (by kernel_rfl) (by kernel_rfl) (by kernel_rfl) (fun _ _ _ h => h) (Or.inl ⟨by kernel_rfl, ?_⟩) hS ?_
  rotate_left
  · intro V hV
    have k0 : V.cell? ⟨w.heap.size, 0, none⟩ = some (.slice (some ⟨gm, om, none⟩) n cm) := blk_cell ((hV.block _ (lt_of_block HB0.out)).trans HB0.out) rfl
    have k1 : V.cell? ⟨w.heap.size, 1, none⟩ = some (.int .u64 fo) := blk_cell ((hV.block _ (lt_of_block HB0.out)).trans HB0.out) rfl
    have k2 : V.cell? ⟨w.heap.size, 2, none⟩ = some (.slice (some ⟨gt, ot, none⟩) n ct) := blk_cell ((hV.block _ (lt_of_block HB0.out)).trans HB0.out) rfl
    go_simp
    (try with_reducible rfl)
  simp only [put_list, List.set_cons_succ, List.set_cons_zero]
  refine wpAnyH_ready (rs := [2]) (by kernel_rfl) (by simp) (AllReadyH.cons rfl (fun K hK => ?_) AllReadyH.nil)
  go_simp
  refine (rone_any HH.out.1 _ _ (HFF.out.moved (HBW.out.trans (hS.mono HBW.out.size)))).mono ?_
  rintro r y1 ⟨⟨v1, rfl, hL⟩, hb⟩
  refine hK.out _ _ (hS.trans (hb.mono hS.size)) (fun hS2 => ?_)
  clear hS
  have hS := hS2
  clear hS2
  have HL1 := hideP hL
  clear hL
  clear hb
  clear hK K
  refine wpAnyH_ready (rs := [5]) (by kernel_rfl) (by simp) (AllReadyH.cons rfl (fun K hK => ?_) AllReadyH.nil)
  go_simp
  refine (rtimes_in HH.out.1 1 (by have := HH.out.1.ge; omega) _ _ v1 _ (HFF.out.moved (HBW.out.trans (hS.mono HBW.out.size))) HL1.out (HTV.out.moved (HBW.out.trans (hS.mono HBW.out.size)))).mono ?_
  rintro r y2 ⟨⟨v2, rfl, hL⟩, hb⟩
  refine hK.out _ _ (hS.trans (hb.mono hS.size)) (fun hS2 => ?_)
  clear hS
  have hS := hS2
  clear hS2
  have HL2 := hideP hL
  clear hL
  clear hb
  clear hK K
  refine wpAnyH_ready (rs := [6]) (by kernel_rfl) (by simp) (AllReadyH.cons rfl (fun K hK => ?_) AllReadyH.nil)
  go_simp
  refine hK.out _ _ hS (fun hS => ?_)
  clear hK K
  refine wpAnyH_done (by kernel_rfl) ?_ _
  (try simp only [put_none])
  refine HK1.out _ _ ?_
  have HXL2 := hideP (HXL.out.moved hS)
  replace HB0 := hideP ((hS.block _ (lt_of_block HB0.out)).trans HB0.out)
  replace HBW := hideP (HBW.out.trans (hS.mono HBW.out.size))
  clear hS HXL HL1
  obtain ⟨E, hE⟩ : ∃ E, E = val f ne := ⟨_, rfl⟩
  have HEV := hideP hE
  have HEf : Hid (∀ j, j < ne → f j = limb E j) := fun j hj => by rw [hE, limb_val ne (fun j _ => HEL.out j) hj]
  have HI0 : Hid (LW y2 v2 n (limb (elN n M (X ^ (E / 18446744073709551616 ^ ne))))) := by
    show LW _ _ _ _
    rw [Nat.div_eq_of_lt (by rw [hE]; exact val_lt ne (fun j _ => HEL.out j)), Nat.pow_zero]
    exact HL2.out
  rw [← hE]
  clear hE HL2
  refine wp_seqH (fun K2 HK2 => ?_)
  go_wp2_with fail
  go_loopw [8, 9] (fun z i wr => ∃ k : Nat, k ≤ ne ∧ i = .int .i64 ((k : Int) - 1) ∧ LW wr z n (limb (elN n M (X ^ (E / 18446744073709551616 ^ k)))) ∧ LW wr vx n (limb (elN n M X)) ∧ Below w.heap.size w wr ∧ wr.heap[w.heap.size]? = some (.cells #[.slice (some ⟨gm, om, none⟩) n cm, .int .u64 (fo : Int), .slice (some ⟨gt, ot, none⟩) n ct] 38 (0, 0))) (fun _ i _ => (intOf i + 1).toNat)
  case atStart => exact ⟨ne, Nat.le_refl _, rfl, HI0.out, HXL2.out, HBW.out, HB0.out⟩
  case round =>
    obtain ⟨k, hk, rfl, hL, hX, hb, hf⟩ := hrel
    by_cases hz : 0 < k
    · have e1 : (k : Int) - 1 = ((k - 1 : Nat) : Int) := by omega
      have hna := HH.out.2.2
      have e2 : IntKind.i64.wrap (((k - 1 : Nat) : Int) - 1) = ((k - 1 : Nat) : Int) - 1 := by rw [IntKind.wrap_i64]; omega
      have g3 : ((k - 1 : Nat) : Int) < ne := by omega
      have HKS : Hid (k - 1 ≤ ne ∧ 0 < k ∧ k ≤ ne) := ⟨by omega, hz, hk⟩
      have HL : Hid (LW wr u8 n (limb (elN n M (X ^ (E / 2 ^ (64 * (k - 1) + 64)))))) := by
        show LW _ _ _ _
        rw [show 64 * (k - 1) + 64 = 64 * k by omega, ← pow_two]
        exact hL
      have HB := hideP hb
      have HX := hideP hX
      have HF := hideP hf
      obtain ⟨ad, hao, _, _⟩ := HEC.out (k - 1) (by omega)
      subst hao
      rw [e1]
      clear hb hL hk hz e1 hna hX hf
      go_wp2_with fail
      rename World => wA
      go_loopw [8, 10] (fun z kk wr => ∃ j : Nat, j ≤ 64 ∧ kk = .int .i64 ((j : Int) - 1) ∧ LW wr z n (limb (elN n M (X ^ (E / 2 ^ (64 * (k - 1) + j))))) ∧ LW wr vx n (limb (elN n M X)) ∧ Below w.heap.size w wr ∧ wr.heap[w.heap.size]? = some (.cells #[.slice (some ⟨gm, om, none⟩) n cm, .int .u64 (fo : Int), .slice (some ⟨gt, ot, none⟩) n ct] 38 (0, 0))) (fun _ kk _ => (intOf kk + 1).toNat)
      case atStart => exact ⟨64, Nat.le_refl _, rfl, HL.out, HX.out, HB.out, HF.out⟩
      case round =>
        obtain ⟨j, hj, rfl, hL, hX, hb, hf⟩ := hrel
        by_cases hz : 0 < j
        · have e1 : (j : Int) - 1 = ((j - 1 : Nat) : Int) := by omega
          have hk1 : k - 1 < ne := by have := HKS.out; omega
          obtain ⟨ad', hao, hab, hce⟩ := HEC.out (k - 1) hk1
          cases hao
          have hlim := HEf.out (k - 1) hk1
          rw [hlim] at hce
          have HCE := hideP hce
          have HAB := hideP (World.block_lt_of_cell? w _ hce)
          have hlx := limb_lt E (k - 1)
          have hdl : limb E (k - 1) / 2 ^ (j - 1) < 18446744073709551616 := Nat.lt_of_le_of_lt (Nat.div_le_self _ _) hlx
          have hand : bits .and .u64 ((limb E (k - 1) : Int) / 2 ^ (j - 1)) 1 = ((limb E (k - 1) / 2 ^ (j - 1) % 2 : Nat) : Int) := by
            rw [← and_one _ hdl]
            congr 1
          have HPB : Hid (X ^ (E / 2 ^ (64 * (k - 1) + (j - 1))) = X ^ (E / 2 ^ (64 * (k - 1) + j)) * X ^ (E / 2 ^ (64 * (k - 1) + j)) * X ^ (limb E (k - 1) / 2 ^ (j - 1) % 2)) := by
            show _ = _
            rw [bit_at E (k - 1) (j - 1) (by omega), pow_bit X E (64 * (k - 1) + (j - 1)), show 64 * (k - 1) + (j - 1) + 1 = 64 * (k - 1) + j by omega]
          have C := hideP (rtimes_el HH.out.1 (X ^ (E / 2 ^ (64 * (k - 1) + j))) (X ^ (E / 2 ^ (64 * (k - 1) + j))) wr _ _ _ (HFF.out.moved hb) hL hL)
          have q0 : wr.cell? ⟨w.heap.size, 0, none⟩ = some (.slice (some ⟨gm, om, none⟩) n cm) := blk_cell hf rfl
          have q1 : wr.cell? ⟨w.heap.size, 1, none⟩ = some (.int .u64 fo) := blk_cell hf rfl
          have q2 : wr.cell? ⟨w.heap.size, 2, none⟩ = some (.slice (some ⟨gt, ot, none⟩) n ct) := blk_cell hf rfl
          have HJS : Hid (j - 1 ≤ 64 ∧ 0 < j) := ⟨by omega, hz⟩
          have g4 : ((j - 1 : Nat) : Int) < 64 := by omega
          have e3 : IntKind.i64.wrap (((j - 1 : Nat) : Int) - 1) = ((j - 1 : Nat) : Int) - 1 := by rw [IntKind.wrap_i64]; omega
          have e5 : IntKind.u64.wrap ((j - 1 : Nat) : Int) = ((j - 1 : Nat) : Int) := by rw [IntKind.wrap_u64]; omega
          have HB2 := hideP hb
          have HX2 := hideP hX
          have HF2 := hideP hf
          have hb01 : limb E (k - 1) / 2 ^ (j - 1) % 2 = 0 ∨ limb E (k - 1) / 2 ^ (j - 1) % 2 = 1 := by omega
          rw [e1]
          clear hb hL hj hz e1 hk1 hdl hX hf hab hlim hce hlx
          generalize limb E (k - 1) / 2 ^ (j - 1) % 2 = bt at *
          generalize limb E (k - 1) = lv at *
          generalize X ^ (E / 2 ^ (64 * (k - 1) + j)) = Y at *
          generalize hj1 : j - 1 = j1 at *
          generalize hkk : k - 1 = k1 at *
          go_wp2_with fail
          refine C.out.mono ?_
          rintro r w3 ⟨⟨v3, rfl, hL3⟩, hb3⟩
          have HL3 := hideP hL3
          have HX3 := hideP (HX2.out.moved hb3)
          have HF3 := hideP ((hb3.block _ (lt_of_block HF2.out)).trans HF2.out)
          have HB3 := hideP (HB2.out.trans (hb3.mono HB2.out.size))
          have hce3 : w3.cell? (ad.add k1) = some (.int .u64 lv) := (HB3.out.cell (p := ad.add k1) HAB.out).trans HCE.out
          have p0 : w3.cell? ⟨w.heap.size, 0, none⟩ = some (.slice (some ⟨gm, om, none⟩) n cm) := blk_cell HF3.out rfl
          have p1 : w3.cell? ⟨w.heap.size, 1, none⟩ = some (.int .u64 fo) := blk_cell HF3.out rfl
          have p2 : w3.cell? ⟨w.heap.size, 2, none⟩ = some (.slice (some ⟨gt, ot, none⟩) n ct) := blk_cell HF3.out rfl
          clear hL3 hb3 C q0 q1 q2 HX2 HF2 HB2
          rcases hb01 with rfl | rfl
          · have HPB2 := HPB.out
            rw [Nat.pow_zero, Nat.mul_one] at HPB2
            have HPB3 := hideP HPB2
            clear HPB2 HPB
            go_wp2_with fail
            refine ⟨⟨j1, HJS.out.1, by go_num, by rw [HPB3.out]; exact HL3.out, HX3.out, HB3.out, HF3.out⟩, ?_⟩
            have := HJS.out.2
            simp [intOf] <;> omega
          · have HPB2 := HPB.out
            rw [Nat.pow_one] at HPB2
            have HPB3 := hideP HPB2
            have C2 := hideP (rtimes_el HH.out.1 (Y * Y) X w3 _ _ _ (HFF.out.moved HB3.out) HL3.out HX3.out)
            clear HPB2 HPB
            go_wp2_with fail
            refine C2.out.mono ?_
            rintro r w4 ⟨⟨v4, rfl, hL4⟩, hb4⟩
            have HL4 := hideP hL4
            have HX4 := hideP (HX3.out.moved hb4)
            have HF4 := hideP ((hb4.block _ (lt_of_block HF3.out)).trans HF3.out)
            have HB4 := hideP (HB3.out.trans (hb4.mono HB3.out.size))
            clear hL4 hb4 C2
            go_wp2_with fail
            refine ⟨⟨j1, HJS.out.1, by go_num, by rw [HPB3.out]; exact HL4.out, HX4.out, HB4.out, HF4.out⟩, ?_⟩
            have := HJS.out.2
            simp [intOf] <;> omega
        · have hj0 : j = 0 := by omega
          subst hj0
          have HL2 : Hid (LW wr u8 n (limb (elN n M (X ^ (E / 18446744073709551616 ^ (k - 1)))))) := by
            show LW _ _ _ _
            rw [Nat.add_zero, ← pow_two] at hL
            exact hL
          have HB2 := hideP hb
          have HX2 := hideP hX
          have HF2 := hideP hf
          clear hL hb hj hz hX hf
          simp only [Int.natCast_zero, Int.zero_sub]
          generalize hkk : k - 1 = k1 at *
          go_wp2_with fail
          refine ⟨⟨k1, HKS.out.1, by go_num, HL2.out, HX2.out, HB2.out, HF2.out⟩, ?_⟩
          have := HKS.out.2
          simp [intOf] <;> omega
    · have hk0 : k = 0 := by omega
      subst hk0
      rw [Nat.pow_zero, Nat.div_one] at hL
      have HL := hideP hL
      have HB := hideP hb
      have HF := hideP hf
      clear hL hb hk hz hX hf
      simp only [Int.natCast_zero, Int.zero_sub]
      go_wp2_with fail
      refine HK2.out _ _ ?_
      obtain ⟨NN, hNN⟩ : ∃ NN, NN = n + n := ⟨_, rfl⟩
      have hn := HH.out.1.n8
      have hmk := make_words wr NN (by omega)
      have en : IntKind.i64.wrap (2 * (n : Int)) = (NN : Int) := by rw [IntKind.wrap_i64]; omega
      have q0 : wr.cell? ⟨w.heap.size, 0, none⟩ = some (.slice (some ⟨gm, om, none⟩) n cm) := blk_cell HF.out rfl
      have HNN : Hid (NN = n + n ∧ n ≤ 8) := ⟨hNN, hn⟩
      clear hNN hn
      refine wp_seqH (fun K3 HK3 => ?_)
      go_wp2_with fail
      refine HK3.out _ _ ?_
      refine at_world (fun W2 hW2 => ?_)
      have hD : W2.heap[wr.heap.size]? = some (.cells (cw NN (fun _ => 0)) 23 (0, 0)) := by
        rw [hW2]
        exact heap_new _ _
      have hB2 : Below wr.heap.size wr W2 := by
        rw [hW2]
        exact (Below.refl _ _).alloc (Nat.le_refl _) _
      obtain ⟨W3, hcp, hD3, hg3⟩ := copy_words (ty := 3) hD (HL.out.moved hB2) (by have := HNN.out; omega)
      have hB3 : Below wr.heap.size W2 W3 := (Below.refl _ _).grown hg3 hB2.size (fun x hx => by cases hx; exact Nat.le_refl _)
      have hB23 := hB2.trans hB3
      have HF3 := hideP ((hB23.block _ (lt_of_block HF.out)).trans HF.out)
      have HB3 := hideP (HB.out.trans (hB23.mono HB.out.size))
      have p0 : W3.cell? ⟨w.heap.size, 0, none⟩ = some (.slice (some ⟨gm, om, none⟩) n cm) := blk_cell HF3.out rfl
      have p1 : W3.cell? ⟨w.heap.size, 1, none⟩ = some (.int .u64 fo) := blk_cell HF3.out rfl
      have p2 : W3.cell? ⟨w.heap.size, 2, none⟩ = some (.slice (some ⟨gt, ot, none⟩) n ct) := blk_cell HF3.out rfl
      have hel := elN_lt HH.out.1 (X ^ E)
      have hlt := HH.out.1.lt
      have hLL : LW W3 (.slice (some ⟨wr.heap.size, 0, none⟩) (n + n) (n + n)) (n + n) (limb (elN n M (X ^ E))) := by
        have h1 := row_LW (by have := HNN.out; omega) hD3
        rw [HNN.out.1] at h1
        refine h1.congr (fun j hj => ?_)
        by_cases h2 : j < n
        · rw [if_pos h2]
        · rw [if_neg h2, limb_high (Nat.lt_trans hel hlt) (by omega)]
      have C := hideP (rreduce_any HH.out.1.n0 HH.out.1.n8 (elN n M (X ^ E)) M fo hlt HH.out.1.pos (Nat.lt_of_lt_of_le hel (Nat.le_mul_of_pos_right _ (Nat.pow_pos (by decide)))) HFO.out W3 _ _ (.slice (some ⟨gt, ot, none⟩) n ct) hLL (HMV.out.moved HB3.out))
      rw [← HNN.out.1] at C
      clear hW2 hmk hD hB2 hB3 hB23 hD3 hg3 hel hlt hLL q0 en
      obtain ⟨g8, o8, c8, hu8, -, -, -, -⟩ := HL.out.ex
      subst hu8
      go_wp2_with fail
      refine C.out.mono ?_
      rintro r W4 ⟨⟨v4, rfl, P, hP1, hP2, hP3⟩, hb⟩
      have HP : Hid (LW W4 v4 n (limb (X ^ E % M))) := by
        show LW _ _ _ _
        have : P = X ^ E % M := by
          refine HH.out.1.uniq hP2 (Nat.mod_lt _ HH.out.1.pos) ?_
          rw [hP3]
          unfold elN
          rw [Nat.mod_mod, Nat.mod_mul_mod]
        rw [← this]
        exact hP1
      have HB4 := hideP (HB3.out.trans (hb.mono HB3.out.size))
      clear hP1 hP2 hP3 hb C p0 p1 p2 hcp
      go_wp2
      go_ret
      exact ⟨⟨_, rfl, HP.out⟩, HB4.out⟩

end Go.Proofs.Ytiekipkmfopdoaa
