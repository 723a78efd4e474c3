/-
  Modulo any odd number: sums, differences, products, powers, inverses and roots are what the document says.
-/
import Derived.Test.YtiekipkmfopdoaaReckM6
import Derived.Test.YtiekipkmfopdoaaAwake
namespace Go.Proofs.Ytiekipkmfopdoaa.W6
open Go.RowKit Go.Shelf

set_option maxRecDepth 100000 in
theorem exec_eqS {ev : Operand → Value} {d : Option Nat} {x y : Operand} {A B : Array Value} {b : Bool} {ty' : Nat} {pos aft g} (hx : ev x = .agg A) (hy : ev y = .agg B) (W : World) (h : (Op.equalIn 10000 29 (.agg A) (.agg B)).run Try.prog W = .ok b W) :
    (execOp ev { dst := d, op := Op.binOp BinOp.eql 29 x y 29, type := ty', pos := pos, after := aft, guard := g }).run Try.prog W = .ok (.value (.bool b)) W := by
  unfold execOp
  simp only [hx, hy]
  have hg : (eqGuard BinOp.eql 29 x y (.agg A) (.agg B)).run Try.prog W = .ok () W := by
    unfold eqGuard
    simp [go_sem]
  simp [go_sem, hg]
  rw [h]
  rfl

theorem eq_nums {a b : Nat} (e : a = b) (hb : b < R) (W : World) : (Op.equalIn 10000 29 (.agg (cs (limb a))) (.agg (cs (limb b)))).run Try.prog W = .ok true W := by
  rw [e]
  exact eq_same hb W

theorem wp_append_runD {o : Oper} {l : List Value} {ds : List Deferred} {w : World} {K : Act → World → Prop} {Q : Exit → Act → World → Prop} (s x : Operand) (t : TypeId) (k : Nat)
    (ho : o.op = .call { callee := .builtin .append, args := #[s, x], argTypes := #[t, t] }) (hdst : o.dst = some k) {ty : TypeId} (hty : o.type = ty) {vs vx v' : Value} {w' : World} (hs : Act.eval { tmps := l.toArray, defers := ds } s = vs) (hx : Act.eval { tmps := l.toArray, defers := ds } x = vx)
    (hrun : (Builtin.append_ #[t, t] ty #[vs, vx]).run Try.prog w = .ok v' w') (h : K { tmps := (l.set k v').toArray, defers := ds } w') : o.wp Try.prog { tmps := l.toArray, defers := ds } w K Q := by
  have h2 : K (Act.put { tmps := l.toArray, defers := ds } o.dst v') w' := by rw [hdst, put_list]; exact h
  unfold Oper.wp
  subst hty
  simp only [execOp, ho, resolve, invoke, builtin]
  simp [hs, hx, hrun]
  exact h2

/-- The exponent in a row of its own. -/
theorem append_exp {w : World} {v : Value} {ne : Nat} {f : Nat → Nat} (hn : ne ≤ 8) (h : EW w v ne f) :
    ∃ v' w', (Builtin.append_ #[27, 27] 27 #[.slice none 0 0, v]).run Try.prog w = .ok v' w' ∧ US w' v' ne f ∧ Below w.heap.size w w' := by
  obtain ⟨i0, hi, hz0, hz1, hz2⟩ := info_parts Try.infoW
  obtain ⟨ao, c, rfl, hc⟩ := h.ex
  by_cases h0 : ne = 0
  · subst h0
    refine ⟨.slice none 0 0, w, ?_, ⟨h.lt, by omega, none, 0, rfl, Or.inl rfl⟩, Below.refl _ _⟩
    cases ao with
    | none => exact run_append_nothing (P := Try.prog) w 27 27 27 23 i0 Try.undL hi _ 0 0 (Nat.le_refl _) _ (Src.ofNil w Try.undL c)
    | some a => exact run_append_nothing (P := Try.prog) w 27 27 27 23 i0 Try.undL hi _ 0 0 (Nat.le_refl _) _ (Src.ofSlice w Try.undL a 0 c [] (by simp) (fun j u h => by simp at h) (fun u h => by cases h))
  · obtain ⟨ad, rfl, _, _⟩ := hc 0 (by omega)
    obtain ⟨v', w', hr, hO, hgr, _⟩ := run_append_own_wide (P := Try.prog) w w.heap.size 27 27 23 i0 (.int .u64 0) 1 8 Try.undL hi hz0 hz1 hz2 rfl (by omega) _ 0 _ (own_none w w.heap.size) ad ne c (wl ne f) (by rw [wl_len, Nat.mul_one]) (fun j u hu => by
      have hj := (List.getElem?_eq_some_iff.1 hu).1
      rw [wl_len] at hj
      rw [wl_get hj] at hu
      obtain ⟨ad', e, _, h2⟩ := hc j hj
      cases e
      rw [h2]
      exact hu) wl_one (by unfold maxLen; omega) (by omega) (Nat.le_refl _)
    rw [Nat.zero_add, List.nil_append] at hO
    refine ⟨v', w', hr, ?_, (Below.refl _ w).grown hgr (Nat.le_refl _) (fun x hx => by cases hx)⟩
    rcases hO with ⟨_, ⟨_, h1⟩ | ⟨g, cap, cur, rfl, h1, h2, h3, h4, h5, h6⟩⟩
    · omega
    · refine ⟨h.lt, by omega, _, cap, rfl, Or.inr ⟨g, rfl, lt_of_block h2, fun j hj => blk_cell h2 ?_⟩⟩
      rw [Nat.mul_one] at h6
      have e : cur[j]? = (cur.toList.take ne)[j]? := by
        rw [List.getElem?_take, if_pos hj, Array.getElem?_toList]
      rw [e, h6, wl_get hj]

theorem root_eqs {M f : Nat} (h : MF M f) (A : Nat) : rootB M A = rootDB M (A % M) ∧ ∃ Y, rootN M A = el M Y ∧ Y % M = rootD M (A % M) := by
  have hc : el M (A ^ ((M + 1) / 4) * A ^ ((M + 1) / 4)) = el M A ↔ (A % M) ^ ((M + 1) / 4) % M * ((A % M) ^ ((M + 1) / 4) % M) % M = A % M := by
    rw [← Nat.pow_mod, ← Nat.mul_mod]
    constructor
    · intro e
      exact el_inj h e
    · intro e
      unfold el
      rw [← Nat.mod_mul_mod, e, Nat.mod_mul_mod]
  unfold rootB rootDB rootN rootD
  refine ⟨by rw [decide_eq_decide]; exact hc, ?_⟩
  by_cases e : el M (A ^ ((M + 1) / 4) * A ^ ((M + 1) / 4)) = el M A
  · rw [if_pos e, if_pos (hc.1 e)]
    exact ⟨_, rfl, by rw [← Nat.pow_mod]⟩
  · rw [if_neg e, if_neg (fun h => e (hc.2 h))]
    exact ⟨0, by simp [el], Nat.zero_mod _⟩

theorem FM_of {M f : Nat} (h : MF M f) : FM 6 M := ⟨by decide, by decide, by rw [← R_eq]; exact h.lt, h.ge, h.odd⟩

set_option maxHeartbeats 16000000 in
set_option maxRecDepth 100000 in
theorem fieldReckons_any (M A B : Nat) (hM : M < R) (hA : A < R) (hB : B < R) (w : World) {ev : Value} {ne : Nat} {ef : Nat → Nat} (he : EW w ev ne ef) (hne : ne ≤ 9223372036854775807) :
    Calls Try.prog 5 #[wv M, wv A, wv B, ev] w fun r w' => r = .returned (.bool true) ∧ Below w.heap.size w w' := by
  have HAW := hideP W4.awake_any
  have HR3 : Hid (M < R ∧ A < R ∧ B < R) := ⟨hM, hA, hB⟩
  have HEW := hideP he
  obtain ⟨eo, ec, rfl, -⟩ := he.ex
  have HMAY := hideP (fun b w h => may_any M hM b w h)
  clear he
  by_cases hbad : M % 2 = 0 ∨ M < 3
  · have HMB := hideP (fun w => make_bad M hM hbad w)
    have hmf : mayB M = false := by
      unfold mayB
      rw [decide_eq_false_iff_not]
      omega
    rw [hmf] at HMAY
    clear hM hA hB hbad hmf hne
    rw [wv_lit M, wv_lit A, wv_lit B]
    rw [wv_lit M] at HMB
    go_enter Try.func5, Try.ntmps5
    go_wp2_with fail
    refine at_world_q (fun W0 hW0 => ?_)
    have hb4 : W0.heap[w.heap.size]? = some (.cells (cs (limb M)) 29 (0, 0)) := by
      rw [hW0]
      exact (heap_old _ _ (by simp <;> omega)).trans ((heap_old _ _ (by simp)).trans (heap_new _ _))
    have HBW : Hid (Below w.heap.size w W0) := by
      show Below _ _ _
      rw [hW0]
      repeat first | exact Below.refl _ _ | (refine Below.alloc ?_ (by simp <;> omega) _)
    clear hW0
    refine (HAW.out _).mono ?_
    rintro r w1 ⟨rfl, hb⟩
    have hb41 := (hb.block _ (lt_of_block hb4)).trans hb4
    have HB1 := hideP (HBW.out.trans (hb.mono HBW.out.size))
    obtain ⟨q0, q1, q2, q3, q4, q5⟩ := cells hb41
    have H41 := hideP hb41
    clear hb hb4 hb41 HBW
    go_wp2_with fail
    refine (HMB.out _).mono ?_
    rintro r w2 ⟨rfl, hb⟩
    have H42 := hideP ((hb.block _ (lt_of_block H41.out)).trans H41.out)
    have HB2 := hideP (HB1.out.trans (hb.mono HB1.out.size))
    clear hb q0 q1 q2 q3 q4 q5 H41 HB1
    go_wp2_with fail
    refine (HMAY.out _ _ H42.out).mono ?_
    rintro r w3 ⟨rfl, rfl⟩
    go_wp2
    go_ret
    exact ⟨rfl, HB2.out⟩
  · have HMO := hideP (fun w => make_ok M hM (by omega) (by omega) w)
    have hmf : mayB M = true := by
      unfold mayB
      rw [decide_eq_true_iff]
      omega
    rw [hmf] at HMAY
    clear hM hA hB hbad hmf
    rw [wv_lit M, wv_lit A, wv_lit B]
    rw [wv_lit M] at HMO
    go_enter Try.func5, Try.ntmps5
    go_wp2_with fail
    refine at_world_q (fun W0 hW0 => ?_)
    have hb4 : W0.heap[w.heap.size]? = some (.cells (cs (limb M)) 29 (0, 0)) := by
      rw [hW0]
      exact (heap_old _ _ (by simp <;> omega)).trans ((heap_old _ _ (by simp)).trans (heap_new _ _))
    have hb5 : W0.heap[w.heap.size + 1]? = some (.cells (cs (limb A)) 29 (0, 0)) := by
      rw [hW0]
      exact (heap_old _ _ (by simp)).trans (heap_new1 _ _ _)
    have hb6 : W0.heap[w.heap.size + 1 + 1]? = some (.cells (cs (limb B)) 29 (0, 0)) := by
      rw [hW0]
      exact heap_new2 _ _ _ _
    have HBW : Hid (Below w.heap.size w W0) := by
      show Below _ _ _
      rw [hW0]
      repeat first | exact Below.refl _ _ | (refine Below.alloc ?_ (by simp <;> omega) _)
    clear hW0
    refine (HAW.out _).mono ?_
    rintro r w1 ⟨rfl, hb⟩
    have hb41 := (hb.block _ (lt_of_block hb4)).trans hb4
    have H51 := hideP ((hb.block _ (lt_of_block hb5)).trans hb5)
    have H61 := hideP ((hb.block _ (lt_of_block hb6)).trans hb6)
    have HB1 := hideP (HBW.out.trans (hb.mono HBW.out.size))
    obtain ⟨q0, q1, q2, q3, q4, q5⟩ := cells hb41
    have H41 := hideP hb41
    clear hb hb4 hb5 hb6 hb41 HBW
    go_wp2_with fail
    refine (HMO.out _).mono ?_
    rintro r W0 ⟨p, rfl, hp, hG, hb⟩
    have H4 := hideP ((hb.block _ (lt_of_block H41.out)).trans H41.out)
    have H5 := hideP ((hb.block _ (lt_of_block H51.out)).trans H51.out)
    have H6 := hideP ((hb.block _ (lt_of_block H61.out)).trans H61.out)
    have HBW := hideP (HB1.out.trans (hb.mono HB1.out.size))
    have HG := hideP hG
    clear hb q0 q1 q2 q3 q4 q5 H41 H51 H61 HB1 hG hp HMO HAW
    obtain ⟨f0, hMF, _⟩ := HG.out.ex
    have HMF := hideP hMF
    have HFM := hideP (FM_of hMF)
    clear hMF
    go_wp2_with fail
    refine (HMAY.out _ _ H4.out).mono ?_
    rintro r w3 ⟨rfl, rfl⟩
    clear HMAY
    have hwn : IntKind.i64.wrap (ne : Int) = (ne : Int) := by rw [IntKind.wrap_i64]; omega
    go_wp2_with fail
    refine wp_region_heldS (S := fun V => Below W0.heap.size W0 V) (by kernel_rfl) ((Below.refl _ _).drew) (fun hS => ?_)
    refine wpAnyH_takeL (i := 0) (v := ?_) rfl (by kernel_rfl) (by kernel_rfl) (by kernel_rfl) (fun _ _ _ h => h) (Or.inl ⟨by kernel_rfl, ?_⟩) hS ?_
    rotate_left
    · intro V hV
      go_simp
      (try with_reducible rfl)
    simp only [put_list, List.set_cons_succ, List.set_cons_zero]
    refine wpAnyH_takeL (i := 1) (v := ?_) rfl (by kernel_rfl) (by kernel_rfl) (by kernel_rfl) (fun _ _ _ h => h) (Or.inl ⟨by kernel_rfl, ?_⟩) hS ?_
    rotate_left
    · intro V hV
      go_simp
      (try with_reducible rfl)
    simp only [put_list, List.set_cons_succ, List.set_cons_zero]
    refine wpAnyH_takeL (i := 2) (v := ?_) rfl (by kernel_rfl) (by kernel_rfl) (by kernel_rfl) (fun _ _ _ h => h) (Or.inl ⟨by kernel_rfl, ?_⟩) hS ?_
    rotate_left
    · intro V hV
      go_simp
      (try with_reducible rfl)
    simp only [put_list, List.set_cons_succ, List.set_cons_zero]
    refine wpAnyH_takeL (i := 3) (v := ?_) rfl (by kernel_rfl) (by kernel_rfl) (by kernel_rfl) (fun _ _ _ h => h) (Or.inl ⟨by kernel_rfl, ?_⟩) hS ?_
    rotate_left
    · intro V hV
      go_simp
      (try with_reducible rfl)
    simp only [put_list, List.set_cons_succ, List.set_cons_zero]
    refine wpAnyH_takeL (i := 4) (v := ?_) rfl (by kernel_rfl) (by kernel_rfl) (by kernel_rfl) (fun _ _ _ h => h) (Or.inl ⟨by kernel_rfl, ?_⟩) hS ?_
    rotate_left
    · intro V hV
      go_simp
      (try with_reducible rfl)
    simp only [put_list, List.set_cons_succ, List.set_cons_zero]
    refine wpAnyH_takeL (i := 5) (v := ?_) rfl (by kernel_rfl) (by kernel_rfl) (by kernel_rfl) (fun _ _ _ h => h) (Or.inl ⟨by kernel_rfl, ?_⟩) hS ?_
    rotate_left
    · intro V hV
      go_simp
      (try with_reducible rfl)
    simp only [put_list, List.set_cons_succ, List.set_cons_zero]
    refine wpAnyH_takeL (i := 6) (v := ?_) rfl (by kernel_rfl) (by kernel_rfl) (by kernel_rfl) (fun _ _ _ h => h) (Or.inl ⟨by kernel_rfl, ?_⟩) hS ?_
    rotate_left
    · intro V hV
      go_simp
      (try with_reducible rfl)
    simp only [put_list, List.set_cons_succ, List.set_cons_zero]
    refine wpAnyH_takeL (i := 7) (v := ?_) rfl (by kernel_rfl) (by kernel_rfl) (by kernel_rfl) (fun _ _ _ h => h) (Or.inl ⟨by kernel_rfl, ?_⟩) hS ?_
    rotate_left
    · intro V hV
      go_simp
      (try with_reducible rfl)
    simp only [put_list, List.set_cons_succ, List.set_cons_zero]
    refine wpAnyH_takeL (i := 9) (v := .agg (cs (limb M))) rfl (by kernel_rfl) (by kernel_rfl) (by kernel_rfl) (fun _ _ _ h => h) (yieldsIf_load_mid (by kernel_rfl) 29 _ rfl (w.heap.size) (0) rfl (cs (limb M)).toList _ (fun V hV => rangeOf ((hV.block _ (lt_of_block H4.out)).trans H4.out)) under rfl (info _)) hS ?_
    simp only [put_list, List.set_cons_succ, List.set_cons_zero]
    refine wpAnyH_ready (rs := [8]) (by kernel_rfl) (by simp) (AllReadyH.cons rfl (fun K hK => ?_) AllReadyH.nil)
    go_simp
    refine (modulus_any (HG.out.below hS)).mono ?_
    rintro r y1 ⟨rfl, hb⟩
    refine hK.out _ _ (hS.trans (hb.mono hS.size)) (fun hS2 => ?_)
    clear hS
    have hS := hS2
    clear hS2
    clear hb
    clear hK K
    refine wpAnyH_takeL (i := 10) (v := .bool (!true)) rfl (by kernel_rfl) (by kernel_rfl) (by kernel_rfl) (fun _ _ _ h => h) (Or.inl ⟨by kernel_rfl, ?_⟩) hS ?_
    · intro V hV
      exact exec_neq rfl rfl V (eq_same HR3.out.1 V)
    simp only [put_list, List.set_cons_succ, List.set_cons_zero]
    simp only [Bool.not_true]
    refine wpAnyH_takeL (i := 11) (v := ?_) rfl (by kernel_rfl) (by kernel_rfl) (by kernel_rfl) (fun _ _ _ h => h) (Or.inl ⟨by kernel_rfl, ?_⟩) hS ?_
    rotate_left
    · intro V hV
      go_simp
      (try with_reducible rfl)
    simp only [put_list, List.set_cons_succ, List.set_cons_zero]
    refine wpAnyH_takeL (i := 12) (v := ?_) rfl (by kernel_rfl) (by kernel_rfl) (by kernel_rfl) (fun _ _ _ h => h) (Or.inl ⟨by kernel_rfl, ?_⟩) hS ?_
    rotate_left
    · intro V hV
      go_simp
      (try with_reducible rfl)
    simp only [put_list, List.set_cons_succ, List.set_cons_zero]
    refine wpAnyH_takeL (i := 13) (v := ?_) rfl (by kernel_rfl) (by kernel_rfl) (by kernel_rfl) (fun _ _ _ h => h) (Or.inl ⟨by kernel_rfl, ?_⟩) hS ?_
    rotate_left
    · intro V hV
      go_simp
      (try with_reducible rfl)
    simp only [put_list, List.set_cons_succ, List.set_cons_zero]
    refine wpAnyH_ready (rs := [14]) (by kernel_rfl) (by simp) (AllReadyH.cons rfl (fun K hK => ?_) AllReadyH.nil)
    go_simp
    refine hK.out _ _ hS (fun hS => ?_)
    clear hK K
    by_cases hlen : 8 < ne
    · have hlen1 : (8 : Int) < (ne : Int) := by omega
      have hd1 : decide ((8 : Int) < (ne : Int)) = true := decide_eq_true hlen1
      refine wpAnyH_takeL (i := 15) (v := ?_) rfl (by kernel_rfl) (by kernel_rfl) (by kernel_rfl) (fun _ _ _ h => h) (Or.inl ⟨by kernel_rfl, ?_⟩) hS ?_
      rotate_left
      · intro V hV
        go_simp
        (try with_reducible rfl)
      simp only [put_list, List.set_cons_succ, List.set_cons_zero]
      refine wpAnyH_takeL (i := 16) (v := ?_) rfl (by kernel_rfl) (by kernel_rfl) (by kernel_rfl) (fun _ _ _ h => h) (Or.inl ⟨by kernel_rfl, ?_⟩) hS ?_
      rotate_left
      · intro V hV
        go_simp
        (try with_reducible rfl)
      simp only [put_list, List.set_cons_succ, List.set_cons_zero]
      refine wpAnyH_done (by kernel_rfl) ?_ _
      (try simp only [put_none])
      replace H4 := hideP ((hS.block _ (lt_of_block H4.out)).trans H4.out)
      replace H5 := hideP ((hS.block _ (lt_of_block H5.out)).trans H5.out)
      replace H6 := hideP ((hS.block _ (lt_of_block H6.out)).trans H6.out)
      replace HG := hideP (HG.out.below hS)
      replace HBW := hideP (HBW.out.trans (hS.mono HBW.out.size))
      clear hS
      go_wp2_with fail
      refine wp_region_heldS (S := fun V => Below y1.heap.size y1 V) (by kernel_rfl) ((Below.refl _ _).drew) (fun hS => ?_)
      refine wpAnyH_takeL (i := 0) (v := ?_) rfl (by kernel_rfl) (by kernel_rfl) (by kernel_rfl) (fun _ _ _ h => h) (Or.inl ⟨by kernel_rfl, ?_⟩) hS ?_
      rotate_left
      · intro V hV
        go_simp
        (try with_reducible rfl)
      simp only [put_list, List.set_cons_succ, List.set_cons_zero]
      refine wpAnyH_takeL (i := 1) (v := ?_) rfl (by kernel_rfl) (by kernel_rfl) (by kernel_rfl) (fun _ _ _ h => h) (Or.inl ⟨by kernel_rfl, ?_⟩) hS ?_
      rotate_left
      · intro V hV
        go_simp
        (try with_reducible rfl)
      simp only [put_list, List.set_cons_succ, List.set_cons_zero]
      refine wpAnyH_takeL (i := 2) (v := ?_) rfl (by kernel_rfl) (by kernel_rfl) (by kernel_rfl) (fun _ _ _ h => h) (Or.inl ⟨by kernel_rfl, ?_⟩) hS ?_
      rotate_left
      · intro V hV
        go_simp
        (try with_reducible rfl)
      simp only [put_list, List.set_cons_succ, List.set_cons_zero]
      refine wpAnyH_takeL (i := 3) (v := ?_) rfl (by kernel_rfl) (by kernel_rfl) (by kernel_rfl) (fun _ _ _ h => h) (Or.inl ⟨by kernel_rfl, ?_⟩) hS ?_
      rotate_left
      · intro V hV
        go_simp
        (try with_reducible rfl)
      simp only [put_list, List.set_cons_succ, List.set_cons_zero]
      refine wpAnyH_takeL (i := 4) (v := ?_) rfl (by kernel_rfl) (by kernel_rfl) (by kernel_rfl) (fun _ _ _ h => h) (Or.inl ⟨by kernel_rfl, ?_⟩) hS ?_
      rotate_left
      · intro V hV
        go_simp
        (try with_reducible rfl)
      simp only [put_list, List.set_cons_succ, List.set_cons_zero]
      refine wpAnyH_takeL (i := 5) (v := ?_) rfl (by kernel_rfl) (by kernel_rfl) (by kernel_rfl) (fun _ _ _ h => h) (Or.inl ⟨by kernel_rfl, ?_⟩) hS ?_
      rotate_left
      · intro V hV
        go_simp
        (try with_reducible rfl)
      simp only [put_list, List.set_cons_succ, List.set_cons_zero]
      refine wpAnyH_takeL (i := 6) (v := ?_) rfl (by kernel_rfl) (by kernel_rfl) (by kernel_rfl) (fun _ _ _ h => h) (Or.inl ⟨by kernel_rfl, ?_⟩) hS ?_
      rotate_left
      · intro V hV
        go_simp
        (try with_reducible rfl)
      simp only [put_list, List.set_cons_succ, List.set_cons_zero]
      refine wpAnyH_takeL (i := 7) (v := ?_) rfl (by kernel_rfl) (by kernel_rfl) (by kernel_rfl) (fun _ _ _ h => h) (Or.inl ⟨by kernel_rfl, ?_⟩) hS ?_
      rotate_left
      · intro V hV
        go_simp
        (try with_reducible rfl)
      simp only [put_list, List.set_cons_succ, List.set_cons_zero]
      refine wpAnyH_takeL (i := 9) (v := .agg (cs (limb M))) rfl (by kernel_rfl) (by kernel_rfl) (by kernel_rfl) (fun _ _ _ h => h) (yieldsIf_load_mid (by kernel_rfl) 29 _ rfl (w.heap.size) (0) rfl (cs (limb M)).toList _ (fun V hV => rangeOf ((hV.block _ (lt_of_block H4.out)).trans H4.out)) under rfl (info _)) hS ?_
      simp only [put_list, List.set_cons_succ, List.set_cons_zero]
      refine wpAnyH_ready (rs := [8]) (by kernel_rfl) (by simp) (AllReadyH.cons rfl (fun K hK => ?_) AllReadyH.nil)
      go_simp
      refine (modulus_any (HG.out.below hS)).mono ?_
      rintro r y2 ⟨rfl, hb⟩
      refine hK.out _ _ (hS.trans (hb.mono hS.size)) (fun hS2 => ?_)
      clear hS
      have hS := hS2
      clear hS2
      clear hb
      clear hK K
      refine wpAnyH_takeL (i := 10) (v := .bool true) rfl (by kernel_rfl) (by kernel_rfl) (by kernel_rfl) (fun _ _ _ h => h) (Or.inl ⟨by kernel_rfl, ?_⟩) hS ?_
      · intro V hV
        exact exec_eqS rfl rfl V (eq_same HR3.out.1 V)
      simp only [put_list, List.set_cons_succ, List.set_cons_zero]
      refine wpAnyH_takeL (i := 11) (v := ?_) rfl (by kernel_rfl) (by kernel_rfl) (by kernel_rfl) (fun _ _ _ h => h) (Or.inl ⟨by kernel_rfl, ?_⟩) hS ?_
      rotate_left
      · intro V hV
        go_simp
        (try with_reducible rfl)
      simp only [put_list, List.set_cons_succ, List.set_cons_zero]
      refine wpAnyH_ready (rs := [12]) (by kernel_rfl) (by simp) (AllReadyH.cons rfl (fun K hK => ?_) AllReadyH.nil)
      go_simp
      refine hK.out _ _ hS (fun hS => ?_)
      clear hK K
      refine wpAnyH_done (by kernel_rfl) ?_ _
      (try simp only [put_none])
      have HF := hideP (HBW.out.trans (hS.mono HBW.out.size))
      clear hS
      go_wp2
      go_ret
      exact ⟨rfl, HF.out⟩
    · have hlen1 : ¬ (8 : Int) < (ne : Int) := by omega
      have hd1 : decide ((8 : Int) < (ne : Int)) = false := decide_eq_false hlen1
      refine wpAnyH_takeL (i := 15) (v := ?_) rfl (by kernel_rfl) (by kernel_rfl) (by kernel_rfl) (fun _ _ _ h => h) (Or.inl ⟨by kernel_rfl, ?_⟩) hS ?_
      rotate_left
      · intro V hV
        go_simp
        (try with_reducible rfl)
      simp only [put_list, List.set_cons_succ, List.set_cons_zero]
      refine wpAnyH_takeL (i := 16) (v := ?_) rfl (by kernel_rfl) (by kernel_rfl) (by kernel_rfl) (fun _ _ _ h => h) (Or.inl ⟨by kernel_rfl, ?_⟩) hS ?_
      rotate_left
      · intro V hV
        go_simp
        (try with_reducible rfl)
      simp only [put_list, List.set_cons_succ, List.set_cons_zero]
      refine wpAnyH_done (by kernel_rfl) ?_ _
      (try simp only [put_none])
      replace H4 := hideP ((hS.block _ (lt_of_block H4.out)).trans H4.out)
      replace H5 := hideP ((hS.block _ (lt_of_block H5.out)).trans H5.out)
      replace H6 := hideP ((hS.block _ (lt_of_block H6.out)).trans H6.out)
      replace HG := hideP (HG.out.below hS)
      replace HBW := hideP (HBW.out.trans (hS.mono HBW.out.size))
      clear hS
      have HNE : Hid (ne ≤ 8) := by show ne ≤ 8; omega
      have HEW1 := hideP (HEW.out.moved HBW.out)
      clear hlen hne
      obtain ⟨q0, q1, q2, q3, q4, q5⟩ := cells H4.out
      go_wp2_with fail
      refine (listL_any M _).mono ?_
      rintro r z1 ⟨⟨vm, rfl, hL⟩, hb⟩
      have HLM := hideP hL
      replace H4 := hideP ((hb.block _ (lt_of_block H4.out)).trans H4.out)
      replace H5 := hideP ((hb.block _ (lt_of_block H5.out)).trans H5.out)
      replace H6 := hideP ((hb.block _ (lt_of_block H6.out)).trans H6.out)
      replace HG := hideP (HG.out.below hb)
      replace HBW := hideP (HBW.out.trans (hb.mono HBW.out.size))
      replace HEW1 := hideP (HEW1.out.moved hb)
      clear hb q0 q1 q2 q3 q4 q5
      obtain ⟨gm, om, cm, rfl, -, -, -, -⟩ := hL.ex
      go_wp2_with fail
      refine (rnew_any (by decide) HFM.out _ _ HLM.out).mono ?_
      rintro r z2 ⟨⟨fo, tv, rfl, hT, hfo⟩, hb⟩
      have HLT := hideP hT
      have HFO := hideP hfo
      replace H4 := hideP ((hb.block _ (lt_of_block H4.out)).trans H4.out)
      replace H5 := hideP ((hb.block _ (lt_of_block H5.out)).trans H5.out)
      replace H6 := hideP ((hb.block _ (lt_of_block H6.out)).trans H6.out)
      replace HG := hideP (HG.out.below hb)
      replace HBW := hideP (HBW.out.trans (hb.mono HBW.out.size))
      replace HEW1 := hideP (HEW1.out.moved hb)
      replace HLM := hideP (HLM.out.moved hb)
      clear hb hfo
      obtain ⟨gt, ot, ct, rfl, -, -, -, -⟩ := hT.ex
      go_wp2_with fail
      refine at_world (fun W1 hW1 => ?_)
      have hFb : W1.heap[z2.heap.size]? = some (.cells #[.slice (some ⟨gm, om, none⟩) 6 cm, .int .u64 (fo : Int), .slice (some ⟨gt, ot, none⟩) 6 ct] 38 (0, 0)) := by
        rw [hW1]
        exact heap_new _ _
      have hb : Below z2.heap.size z2 W1 := by
        rw [hW1]
        exact (Below.refl _ _).alloc (Nat.le_refl _) _
      replace H4 := hideP ((hb.block _ (lt_of_block H4.out)).trans H4.out)
      replace H5 := hideP ((hb.block _ (lt_of_block H5.out)).trans H5.out)
      replace H6 := hideP ((hb.block _ (lt_of_block H6.out)).trans H6.out)
      replace HG := hideP (HG.out.below hb)
      replace HBW := hideP (HBW.out.trans (hb.mono HBW.out.size))
      replace HEW1 := hideP (HEW1.out.moved hb)
      replace HLM := hideP (HLM.out.moved hb)
      replace HLT := hideP (HLT.out.moved hb)
      have HFb := hideP hFb
      have HFF : Hid (FF W1 (.agg #[.slice (some ⟨gm, om, none⟩) 6 cm, .int .u64 (fo : Int), .slice (some ⟨gt, ot, none⟩) 6 ct]) 6 M) := ⟨_, fo, _, rfl, HLM.out, HLT.out, HFO.out⟩
      clear hb hW1 hFb hL hT
      generalize z2.heap.size = FB at *
      refine wp_region_heldS (S := fun V => Below W1.heap.size W1 V) (by kernel_rfl) ((Below.refl _ _).drew) (fun hS => ?_)
      refine wpAnyH_takeL (i := 0) (v := .agg (cs (limb A))) rfl (by kernel_rfl) (by kernel_rfl) (by kernel_rfl) (fun _ _ _ h => h) (yieldsIf_load_mid (by kernel_rfl) 29 _ rfl (w.heap.size + 1) (0) rfl (cs (limb A)).toList _ (fun V hV => rangeOf ((hV.block _ (lt_of_block H5.out)).trans H5.out)) under rfl (info _)) hS ?_
      simp only [put_list, List.set_cons_succ, List.set_cons_zero]
      refine wpAnyH_takeL (i := 2) (v := ?_) rfl (by kernel_rfl) (by kernel_rfl) (by kernel_rfl) (fun _ _ _ h => h) (Or.inl ⟨by kernel_rfl, ?_⟩) hS ?_
      rotate_left
      · intro V hV
        go_simp
        (try with_reducible rfl)
      simp only [put_list, List.set_cons_succ, List.set_cons_zero]
      refine wpAnyH_takeL (i := 3) (v := ?_) rfl (by kernel_rfl) (by kernel_rfl) (by kernel_rfl) (fun _ _ _ h => h) (Or.inl ⟨by kernel_rfl, ?_⟩) hS ?_
      rotate_left
      · intro V hV
        have k0 : V.cell? ⟨FB, 0, none⟩ = some (.slice (some ⟨gm, om, none⟩) 6 cm) := blk_cell ((hV.block _ (lt_of_block HFb.out)).trans HFb.out) rfl
        have k1 : V.cell? ⟨FB, 1, none⟩ = some (.int .u64 fo) := blk_cell ((hV.block _ (lt_of_block HFb.out)).trans HFb.out) rfl
        have k2 : V.cell? ⟨FB, 2, none⟩ = some (.slice (some ⟨gt, ot, none⟩) 6 ct) := blk_cell ((hV.block _ (lt_of_block HFb.out)).trans HFb.out) rfl
        go_simp
        (try with_reducible rfl)
      simp only [put_list, List.set_cons_succ, List.set_cons_zero]
      refine wpAnyH_takeL (i := 5) (v := .agg (cs (limb B))) rfl (by kernel_rfl) (by kernel_rfl) (by kernel_rfl) (fun _ _ _ h => h) (yieldsIf_load_mid (by kernel_rfl) 29 _ rfl (w.heap.size + 1 + 1) (0) rfl (cs (limb B)).toList _ (fun V hV => rangeOf ((hV.block _ (lt_of_block H6.out)).trans H6.out)) under rfl (info _)) hS ?_
      simp only [put_list, List.set_cons_succ, List.set_cons_zero]
      refine wpAnyH_takeL (i := 7) (v := ?_) rfl (by kernel_rfl) (by kernel_rfl) (by kernel_rfl) (fun _ _ _ h => h) (Or.inl ⟨by kernel_rfl, ?_⟩) hS ?_
      rotate_left
      · intro V hV
        go_simp
        (try with_reducible rfl)
      simp only [put_list, List.set_cons_succ, List.set_cons_zero]
      refine wpAnyH_takeL (i := 8) (v := ?_) rfl (by kernel_rfl) (by kernel_rfl) (by kernel_rfl) (fun _ _ _ h => h) (Or.inl ⟨by kernel_rfl, ?_⟩) hS ?_
      rotate_left
      · intro V hV
        have k0 : V.cell? ⟨FB, 0, none⟩ = some (.slice (some ⟨gm, om, none⟩) 6 cm) := blk_cell ((hV.block _ (lt_of_block HFb.out)).trans HFb.out) rfl
        have k1 : V.cell? ⟨FB, 1, none⟩ = some (.int .u64 fo) := blk_cell ((hV.block _ (lt_of_block HFb.out)).trans HFb.out) rfl
        have k2 : V.cell? ⟨FB, 2, none⟩ = some (.slice (some ⟨gt, ot, none⟩) 6 ct) := blk_cell ((hV.block _ (lt_of_block HFb.out)).trans HFb.out) rfl
        go_simp
        (try with_reducible rfl)
      simp only [put_list, List.set_cons_succ, List.set_cons_zero]
      refine wpAnyH_ready (rs := [1]) (by kernel_rfl) (by simp) (AllReadyH.cons rfl (fun K hK => ?_) AllReadyH.nil)
      go_simp
      refine (listL_any A _).mono ?_
      rintro r x1 ⟨⟨va, rfl, hL⟩, hb⟩
      refine hK.out _ _ (hS.trans (hb.mono hS.size)) (fun hS2 => ?_)
      clear hS
      have hS := hS2
      clear hS2
      have Hva := hideP hL
      clear hL
      clear hb
      clear hK K
      refine wpAnyH_ready (rs := [4]) (by kernel_rfl) (by simp) (AllReadyH.cons rfl (fun K hK => ?_) AllReadyH.nil)
      go_simp
      refine (rmod_any (na := 6) (n := 6) (by decide) (by decide) A M (by rw [← R_eq]; exact HR3.out.2.1) HFM.out.pos HFM.out.lt _ va _ Hva.out (HLM.out.moved hS)).mono ?_
      rintro r x2 ⟨⟨vx, rfl, hL⟩, hb⟩
      refine hK.out _ _ (hS.trans (hb.mono hS.size)) (fun hS2 => ?_)
      clear hS
      have hS := hS2
      clear hS2
      have Hvx := hideP hL
      clear hL
      clear hb
      clear hK K
      refine wpAnyH_ready (rs := [6]) (by kernel_rfl) (by simp) (AllReadyH.cons rfl (fun K hK => ?_) AllReadyH.nil)
      go_simp
      refine (listL_any B _).mono ?_
      rintro r x3 ⟨⟨vb, rfl, hL⟩, hb⟩
      refine hK.out _ _ (hS.trans (hb.mono hS.size)) (fun hS2 => ?_)
      clear hS
      have hS := hS2
      clear hS2
      have Hvb := hideP hL
      replace Hvx := hideP (Hvx.out.moved hb)
      clear hL
      clear hb
      clear hK K
      refine wpAnyH_ready (rs := [9]) (by kernel_rfl) (by simp) (AllReadyH.cons rfl (fun K hK => ?_) AllReadyH.nil)
      go_simp
      refine (rmod_any (na := 6) (n := 6) (by decide) (by decide) B M (by rw [← R_eq]; exact HR3.out.2.2) HFM.out.pos HFM.out.lt _ vb _ Hvb.out (HLM.out.moved hS)).mono ?_
      rintro r x4 ⟨⟨vy, rfl, hL⟩, hb⟩
      refine hK.out _ _ (hS.trans (hb.mono hS.size)) (fun hS2 => ?_)
      clear hS
      have hS := hS2
      clear hS2
      have Hvy := hideP hL
      replace Hvx := hideP (Hvx.out.moved hb)
      clear hL
      clear hb
      clear hK K
      refine wpAnyH_ready (rs := [10]) (by kernel_rfl) (by simp) (AllReadyH.cons rfl (fun K hK => ?_) AllReadyH.nil)
      go_simp
      refine hK.out _ _ hS (fun hS => ?_)
      clear hK K
      refine wpAnyH_ready (rs := [11]) (by kernel_rfl) (by simp) (AllReadyH.cons rfl (fun K hK => ?_) AllReadyH.nil)
      go_simp
      refine hK.out _ _ hS (fun hS => ?_)
      clear hK K
      refine wpAnyH_done (by kernel_rfl) ?_ _
      (try simp only [put_none])
      have hb := hS
      replace H4 := hideP ((hb.block _ (lt_of_block H4.out)).trans H4.out)
      replace H5 := hideP ((hb.block _ (lt_of_block H5.out)).trans H5.out)
      replace H6 := hideP ((hb.block _ (lt_of_block H6.out)).trans H6.out)
      replace HG := hideP (HG.out.below hb)
      replace HBW := hideP (HBW.out.trans (hb.mono HBW.out.size))
      replace HEW1 := hideP (HEW1.out.moved hb)
      replace HLM := hideP (HLM.out.moved hb)
      replace HLT := hideP (HLT.out.moved hb)
      replace HFF := hideP (HFF.out.moved hb)
      replace HFb := hideP ((hb.block _ (lt_of_block HFb.out)).trans HFb.out)
      clear hb hS Hva Hvb
      go_wp2_with fail
      refine wp_region_heldS (S := fun V => Below x4.heap.size x4 V) (by kernel_rfl) ((Below.refl _ _).drew) (fun hS => ?_)
      refine wpAnyH_takeL (i := 0) (v := ?_) rfl (by kernel_rfl) (by kernel_rfl) (by kernel_rfl) (fun _ _ _ h => h) (Or.inl ⟨by kernel_rfl, ?_⟩) hS ?_
      rotate_left
      · intro V hV
        go_simp
        (try with_reducible rfl)
      simp only [put_list, List.set_cons_succ, List.set_cons_zero]
      refine wpAnyH_takeL (i := 1) (v := .agg (cs (limb A))) rfl (by kernel_rfl) (by kernel_rfl) (by kernel_rfl) (fun _ _ _ h => h) (yieldsIf_load_mid (by kernel_rfl) 29 _ rfl (w.heap.size + 1) (0) rfl (cs (limb A)).toList _ (fun V hV => rangeOf ((hV.block _ (lt_of_block H5.out)).trans H5.out)) under rfl (info _)) hS ?_
      simp only [put_list, List.set_cons_succ, List.set_cons_zero]
      refine wpAnyH_takeL (i := 3) (v := ?_) rfl (by kernel_rfl) (by kernel_rfl) (by kernel_rfl) (fun _ _ _ h => h) (Or.inl ⟨by kernel_rfl, ?_⟩) hS ?_
      rotate_left
      · intro V hV
        go_simp
        (try with_reducible rfl)
      simp only [put_list, List.set_cons_succ, List.set_cons_zero]
      refine wpAnyH_takeL (i := 4) (v := .agg (cs (limb B))) rfl (by kernel_rfl) (by kernel_rfl) (by kernel_rfl) (fun _ _ _ h => h) (yieldsIf_load_mid (by kernel_rfl) 29 _ rfl (w.heap.size + 1 + 1) (0) rfl (cs (limb B)).toList _ (fun V hV => rangeOf ((hV.block _ (lt_of_block H6.out)).trans H6.out)) under rfl (info _)) hS ?_
      simp only [put_list, List.set_cons_succ, List.set_cons_zero]
      refine regionQ (r0 := 2) 2 (fun k => match k with | 0 => 2 | _ => 5) (fun k => match k with | 0 => 80 | _ => 83) (fun k => match k with | 0 => .agg (cs (limb (el M A))) | _ => .agg (cs (limb (el M B)))) (fun i p q => #[true, true, decide (1 ≤ i), true, true, decide (2 ≤ i), p, q, false, false] : Nat → Bool → Bool → Array Bool) (cs (fun _ => 0)) 29 6 7 14 15 (by kernel_rfl) (by decide) (by decide) (by kernel_rfl) hS ?_ ?_ ?_ ?_
      · intro i hi T w2 K hbw hT hK
        match i, hi with
        | 0, _ =>
          have t0 : T[78]? = some (.pointer (some ⟨p, 0, none⟩)) := hT 78 (by decide) (by decide)
          have t1 : T[79]? = some (.agg (cs (limb A))) := hT 79 (by decide) (by decide)
          refine wpOp_stepT (i := 2) rfl (fun K' hK' => ?_)
          have HK' := hideP hK'
          have HK9 := hideP hK
          clear hK hK' hT
          go_simp
          refine (in_any (HG.out.below hbw) A HR3.out.2.1).mono ?_
          rintro e w3 ⟨rfl, hb⟩
          exact HK'.out _ _ (HK9.out w3 hb)
        | 1, _ =>
          have t0 : T[81]? = some (.pointer (some ⟨p, 0, none⟩)) := hT 81 (by decide) (by decide)
          have t1 : T[82]? = some (.agg (cs (limb B))) := hT 82 (by decide) (by decide)
          refine wpOp_stepT (i := 5) rfl (fun K' hK' => ?_)
          have HK' := hideP hK'
          have HK9 := hideP hK
          clear hK hK' hT
          go_simp
          refine (in_any (HG.out.below hbw) B HR3.out.2.2).mono ?_
          rintro e w3 ⟨rfl, hb⟩
          exact HK'.out _ _ (HK9.out w3 hb)
        | k' + 2, h => exact absurd h (by omega)
      · intro T w2 K hK
        refine wpOp_stepT rfl (fun K' hK' => ?_)
        have HK' := hideP hK'
        have HK9 := hideP hK
        clear hK hK'
        go_simp
        exact HK'.out _ _ HK9.out
      · intro T w2 K hK
        refine wpOp_stepT rfl (fun K' hK' => ?_)
        have HK' := hideP hK'
        have HK9 := hideP hK
        clear hK hK'
        go_simp
        exact HK'.out _ _ HK9.out
      intro w2 b1 b2 hS l1 l2 h1 h2 n12
      simp only [TC, List.set_cons_succ, List.set_cons_zero]
      refine wpAnyH_ready (rs := [8]) (by kernel_rfl) (by simp) (AllReadyH.cons rfl (fun K hK => ?_) AllReadyH.nil)
      refine ite_wp (by kernel_rfl) ?_
      refine wp_store_midN 29 (.tmp 14) (.tmp 80) rfl rfl b1 0 (cs (limb (el M A))) rfl rfl (there_cs h1 _) (info _) (one _) ?_
      have g1 := blk_sets (cs (limb (el M A))).toList 0 h1
      rw [putAll_cs] at g1
      have hB1 := But.sets (cs (limb (el M A))).toList 0 (But.refl b1 w2)
      replace h2 := (hB1.same b2 (n12.symm)).trans h2
      have hSB := hS.trans (hB1.below.mono l1)
      clear h1 hB1
      generalize w2.setCells b1 0 (cs (limb (el M A))).toList = w3 at g1 h2 hSB ⊢
      refine hK.out _ _ hSB (fun hS => ?_)
      clear hK K hSB
      refine wpAnyH_ready (rs := [9]) (by kernel_rfl) (by simp) (AllReadyH.cons rfl (fun K hK => ?_) AllReadyH.nil)
      refine ite_wp (by kernel_rfl) ?_
      refine wp_store_midN 29 (.tmp 15) (.tmp 83) rfl rfl b2 0 (cs (limb (el M B))) rfl rfl (there_cs h2 _) (info _) (one _) ?_
      have g2 := blk_sets (cs (limb (el M B))).toList 0 h2
      rw [putAll_cs] at g2
      have hB1 := But.sets (cs (limb (el M B))).toList 0 (But.refl b2 w3)
      replace g1 := (hB1.same b1 (n12)).trans g1
      have hSB := hS.trans (hB1.below.mono l2)
      clear h2 hB1
      generalize w3.setCells b2 0 (cs (limb (el M B))).toList = W2 at g2 g1 hSB ⊢
      refine hK.out _ _ hSB (fun hS => ?_)
      clear hK K hSB
      refine wpAnyH_done (by kernel_rfl) ?_ _
      (try simp only [put_none])
      have hb := hS
      replace H4 := hideP ((hb.block _ (lt_of_block H4.out)).trans H4.out)
      replace H5 := hideP ((hb.block _ (lt_of_block H5.out)).trans H5.out)
      replace H6 := hideP ((hb.block _ (lt_of_block H6.out)).trans H6.out)
      replace HG := hideP (HG.out.below hb)
      replace HBW := hideP (HBW.out.trans (hb.mono HBW.out.size))
      replace HEW1 := hideP (HEW1.out.moved hb)
      replace HLM := hideP (HLM.out.moved hb)
      replace HLT := hideP (HLT.out.moved hb)
      replace HFF := hideP (HFF.out.moved hb)
      replace Hvx := hideP (Hvx.out.moved hb)
      replace Hvy := hideP (Hvy.out.moved hb)
      replace HFb := hideP ((hb.block _ (lt_of_block HFb.out)).trans HFb.out)
      have HP1 := hideP g1
      have HQ1 := hideP g2
      clear hb hS g1 g2 l1 l2 n12
      obtain ⟨hrb, Yr, hrn, hyr⟩ := root_eqs HMF.out A
      have CR : Hid (∀ w, Good w p M → Calls Try.prog 51 #[.pointer (some ⟨p, 0, none⟩), .agg (cs (limb (el M A)))] w fun r w' => r = .returned (.tuple #[.agg (cs (limb (el M Yr))), .bool (rootDB M (A % M))]) ∧ Below w.heap.size w w') := fun w hg => by
        have := root_any hg A
        rw [hrn, hrb] at this
        exact this
      have HYR := hideP hyr
      clear hrb hrn hyr
      obtain ⟨q0, q1, q2, q3, q4, q5⟩ := cells HP1.out
      go_wp2_with fail
      refine (CR.out _ HG.out).mono ?_
      rintro r W3 ⟨rfl, hb⟩
      replace H4 := hideP ((hb.block _ (lt_of_block H4.out)).trans H4.out)
      replace H5 := hideP ((hb.block _ (lt_of_block H5.out)).trans H5.out)
      replace H6 := hideP ((hb.block _ (lt_of_block H6.out)).trans H6.out)
      replace HG := hideP (HG.out.below hb)
      replace HBW := hideP (HBW.out.trans (hb.mono HBW.out.size))
      replace HEW1 := hideP (HEW1.out.moved hb)
      replace HLM := hideP (HLM.out.moved hb)
      replace HLT := hideP (HLT.out.moved hb)
      replace HFF := hideP (HFF.out.moved hb)
      replace Hvx := hideP (Hvx.out.moved hb)
      replace Hvy := hideP (Hvy.out.moved hb)
      replace HFb := hideP ((hb.block _ (lt_of_block HFb.out)).trans HFb.out)
      replace HP1 := hideP ((hb.block _ (lt_of_block HP1.out)).trans HP1.out)
      replace HQ1 := hideP ((hb.block _ (lt_of_block HQ1.out)).trans HQ1.out)
      clear hb q0 q1 q2 q3 q4 q5 CR
      have hK0 := heap_new W3 (.cells (cs (fun _ => 0)) 29 (0, 0))
      have hbn := (Below.refl W3.heap.size W3).alloc (Nat.le_refl _) (.cells (cs (fun _ => 0)) 29 (0, 0))
      have g1 := blk_sets (cs (limb (el M Yr))).toList 0 hK0
      rw [putAll_cs] at g1
      have hB1 := But.sets (cs (limb (el M Yr))).toList 0 (But.refl W3.heap.size (W3.alloc (.cells (cs (fun _ => 0)) 29 (0, 0))))
      have hb := hbn.trans hB1.below
      clear hbn hB1
      have hth := there_cs hK0 (limb (el M Yr))
      rw [← zero_lit] at hth g1 hb
      clear hK0
      rename_i K9 hK9
      refine hK9 _ _ ?_
      clear hK9 K9
      iterate 4 (refine wpList_plain rfl (fun K hK => ?_); go_simp; refine hK _ _ ?_; clear hK K)
      refine wpList_store_mid rfl 29 _ _ rfl W3.heap.size 0 (cs (limb (el M Yr))) rfl rfl hth (info _) (one _) ?_
      clear hth
      (try simp only [put_none])
      generalize (W3.alloc (.cells _ 29 (0, 0))).setCells W3.heap.size 0 (cs (limb (el M Yr))).toList = W4x at g1 hb ⊢
      have HT1 := hideP g1
      replace H4 := hideP ((hb.block _ (lt_of_block H4.out)).trans H4.out)
      replace H5 := hideP ((hb.block _ (lt_of_block H5.out)).trans H5.out)
      replace H6 := hideP ((hb.block _ (lt_of_block H6.out)).trans H6.out)
      replace HG := hideP (HG.out.below hb)
      replace HBW := hideP (HBW.out.trans (hb.mono HBW.out.size))
      replace HEW1 := hideP (HEW1.out.moved hb)
      replace HLM := hideP (HLM.out.moved hb)
      replace HLT := hideP (HLT.out.moved hb)
      replace HFF := hideP (HFF.out.moved hb)
      replace Hvx := hideP (Hvx.out.moved hb)
      replace Hvy := hideP (Hvy.out.moved hb)
      replace HFb := hideP ((hb.block _ (lt_of_block HFb.out)).trans HFb.out)
      replace HP1 := hideP ((hb.block _ (lt_of_block HP1.out)).trans HP1.out)
      replace HQ1 := hideP ((hb.block _ (lt_of_block HQ1.out)).trans HQ1.out)
      clear hb g1
      generalize W3.heap.size = B3 at HT1 ⊢
      have k0 : W4x.cell? ⟨FB, 0, none⟩ = some (.slice (some ⟨gm, om, none⟩) 6 cm) := blk_cell HFb.out rfl
      have k1 : W4x.cell? ⟨FB, 1, none⟩ = some (.int .u64 fo) := blk_cell HFb.out rfl
      have k2 : W4x.cell? ⟨FB, 2, none⟩ = some (.slice (some ⟨gt, ot, none⟩) 6 ct) := blk_cell HFb.out rfl
      have hAM : A % M < M := Nat.mod_lt _ HFM.out.pos
      have hBM : B % M < M := Nat.mod_lt _ HFM.out.pos
      have HAM := hideP hAM
      have HBM := hideP hBM
      clear hAM hBM
      go_wp2_with fail
      refine (rroot_any (by decide) HFM.out (A % M) HAM.out _ _ _ HFF.out Hvx.out).mono ?_
      rintro r W5 ⟨⟨vw, rfl, hL⟩, hb⟩
      have Hvw := hideP hL
      replace H4 := hideP ((hb.block _ (lt_of_block H4.out)).trans H4.out)
      replace H5 := hideP ((hb.block _ (lt_of_block H5.out)).trans H5.out)
      replace H6 := hideP ((hb.block _ (lt_of_block H6.out)).trans H6.out)
      replace HG := hideP (HG.out.below hb)
      replace HBW := hideP (HBW.out.trans (hb.mono HBW.out.size))
      replace HEW1 := hideP (HEW1.out.moved hb)
      replace HLM := hideP (HLM.out.moved hb)
      replace HLT := hideP (HLT.out.moved hb)
      replace HFF := hideP (HFF.out.moved hb)
      replace Hvx := hideP (Hvx.out.moved hb)
      replace Hvy := hideP (Hvy.out.moved hb)
      replace HFb := hideP ((hb.block _ (lt_of_block HFb.out)).trans HFb.out)
      replace HP1 := hideP ((hb.block _ (lt_of_block HP1.out)).trans HP1.out)
      replace HQ1 := hideP ((hb.block _ (lt_of_block HQ1.out)).trans HQ1.out)
      replace HT1 := hideP ((hb.block _ (lt_of_block HT1.out)).trans HT1.out)
      clear hb hL k0 k1 k2
      go_wp2_with fail
      refine wp_region_heldS (S := fun V => Below W5.heap.size W5 V) (by kernel_rfl) ((Below.refl _ _).drew) (fun hS => ?_)
      refine wpAnyH_takeL (i := 0) (v := ?_) rfl (by kernel_rfl) (by kernel_rfl) (by kernel_rfl) (fun _ _ _ h => h) (Or.inl ⟨by kernel_rfl, ?_⟩) hS ?_
      rotate_left
      · intro V hV
        go_simp
        (try with_reducible rfl)
      simp only [put_list, List.set_cons_succ, List.set_cons_zero]
      refine wpAnyH_takeL (i := 1) (v := .agg (cs (limb (el M A)))) rfl (by kernel_rfl) (by kernel_rfl) (by kernel_rfl) (fun _ _ _ h => h) (yieldsIf_load_mid (by kernel_rfl) 29 _ rfl (b1) (0) rfl (cs (limb (el M A))).toList _ (fun V hV => rangeOf ((hV.block _ (lt_of_block HP1.out)).trans HP1.out)) under rfl (info _)) hS ?_
      simp only [put_list, List.set_cons_succ, List.set_cons_zero]
      refine wpAnyH_takeL (i := 3) (v := ?_) rfl (by kernel_rfl) (by kernel_rfl) (by kernel_rfl) (fun _ _ _ h => h) (Or.inl ⟨by kernel_rfl, ?_⟩) hS ?_
      rotate_left
      · intro V hV
        go_simp
        (try with_reducible rfl)
      simp only [put_list, List.set_cons_succ, List.set_cons_zero]
      refine wpAnyH_ready (rs := [2]) (by kernel_rfl) (by simp) (AllReadyH.cons rfl (fun K hK => ?_) AllReadyH.nil)
      go_simp
      refine (out_any (HG.out.below hS) A).mono ?_
      rintro r y11 ⟨rfl, hb⟩
      refine hK.out _ _ (hS.trans (hb.mono hS.size)) (fun hS2 => ?_)
      clear hS
      have hS := hS2
      clear hS2
      clear hb
      clear hK K
      refine wpAnyH_ready (rs := [4]) (by kernel_rfl) (by simp) (AllReadyH.cons rfl (fun K hK => ?_) AllReadyH.nil)
      go_simp
      refine (arrL_any _ _ _ (Hvx.out.moved hS)).mono ?_
      rintro r y12 ⟨rfl, hb⟩
      refine hK.out _ _ (hS.trans (hb.mono hS.size)) (fun hS2 => ?_)
      clear hS
      have hS := hS2
      clear hS2
      clear hb
      clear hK K
      refine wpAnyH_takeL (i := 5) (v := .bool true) rfl (by kernel_rfl) (by kernel_rfl) (by kernel_rfl) (fun _ _ _ h => h) (Or.inl ⟨by kernel_rfl, ?_⟩) hS ?_
      · intro V hV
        exact exec_eqS rfl rfl V (eq_nums (a := (A % M)) (b := A % M) (rfl) (Nat.lt_trans (Nat.mod_lt _ HFM.out.pos) HMF.out.lt) V)
      simp only [put_list, List.set_cons_succ, List.set_cons_zero]
      refine wpAnyH_takeL (i := 6) (v := ?_) rfl (by kernel_rfl) (by kernel_rfl) (by kernel_rfl) (fun _ _ _ h => h) (Or.inl ⟨by kernel_rfl, ?_⟩) hS ?_
      rotate_left
      · intro V hV
        go_simp
        (try with_reducible rfl)
      simp only [put_list, List.set_cons_succ, List.set_cons_zero]
      as_aux_lemma =>
        refine wpAnyH_takeL (i := 7) (v := ?_) rfl (by kernel_rfl) (by kernel_rfl) (by kernel_rfl) (fun _ _ _ h => h) (Or.inl ⟨by kernel_rfl, ?_⟩) hS ?_
        rotate_left
        · intro V hV
          go_simp
          (try with_reducible rfl)
        simp only [put_list, List.set_cons_succ, List.set_cons_zero]
        refine wpAnyH_takeL (i := 8) (v := ?_) rfl (by kernel_rfl) (by kernel_rfl) (by kernel_rfl) (fun _ _ _ h => h) (Or.inl ⟨by kernel_rfl, ?_⟩) hS ?_
        rotate_left
        · intro V hV
          go_simp
          (try with_reducible rfl)
        simp only [put_list, List.set_cons_succ, List.set_cons_zero]
        refine wpAnyH_takeL (i := 9) (v := .agg (cs (limb (el M A)))) rfl (by kernel_rfl) (by kernel_rfl) (by kernel_rfl) (fun _ _ _ h => h) (yieldsIf_load_mid (by kernel_rfl) 29 _ rfl (b1) (0) rfl (cs (limb (el M A))).toList _ (fun V hV => rangeOf ((hV.block _ (lt_of_block HP1.out)).trans HP1.out)) under rfl (info _)) hS ?_
        simp only [put_list, List.set_cons_succ, List.set_cons_zero]
        refine wpAnyH_takeL (i := 10) (v := .agg (cs (limb (el M B)))) rfl (by kernel_rfl) (by kernel_rfl) (by kernel_rfl) (fun _ _ _ h => h) (yieldsIf_load_mid (by kernel_rfl) 29 _ rfl (b2) (0) rfl (cs (limb (el M B))).toList _ (fun V hV => rangeOf ((hV.block _ (lt_of_block HQ1.out)).trans HQ1.out)) under rfl (info _)) hS ?_
        simp only [put_list, List.set_cons_succ, List.set_cons_zero]
        refine wpAnyH_takeL (i := 13) (v := ?_) rfl (by kernel_rfl) (by kernel_rfl) (by kernel_rfl) (fun _ _ _ h => h) (Or.inl ⟨by kernel_rfl, ?_⟩) hS ?_
        rotate_left
        · intro V hV
          go_simp
          (try with_reducible rfl)
        simp only [put_list, List.set_cons_succ, List.set_cons_zero]
        refine wpAnyH_takeL (i := 14) (v := ?_) rfl (by kernel_rfl) (by kernel_rfl) (by kernel_rfl) (fun _ _ _ h => h) (Or.inl ⟨by kernel_rfl, ?_⟩) hS ?_
        rotate_left
        · intro V hV
          go_simp
          (try with_reducible rfl)
        simp only [put_list, List.set_cons_succ, List.set_cons_zero]
        refine wpAnyH_takeL (i := 15) (v := ?_) rfl (by kernel_rfl) (by kernel_rfl) (by kernel_rfl) (fun _ _ _ h => h) (Or.inl ⟨by kernel_rfl, ?_⟩) hS ?_
        rotate_left
        · intro V hV
          go_simp
          (try with_reducible rfl)
        simp only [put_list, List.set_cons_succ, List.set_cons_zero]
        refine wpAnyH_takeL (i := 16) (v := ?_) rfl (by kernel_rfl) (by kernel_rfl) (by kernel_rfl) (fun _ _ _ h => h) (Or.inl ⟨by kernel_rfl, ?_⟩) hS ?_
        rotate_left
        · intro V hV
          have k0 : V.cell? ⟨FB, 0, none⟩ = some (.slice (some ⟨gm, om, none⟩) 6 cm) := blk_cell ((hV.block _ (lt_of_block HFb.out)).trans HFb.out) rfl
          have k1 : V.cell? ⟨FB, 1, none⟩ = some (.int .u64 fo) := blk_cell ((hV.block _ (lt_of_block HFb.out)).trans HFb.out) rfl
          have k2 : V.cell? ⟨FB, 2, none⟩ = some (.slice (some ⟨gt, ot, none⟩) 6 ct) := blk_cell ((hV.block _ (lt_of_block HFb.out)).trans HFb.out) rfl
          go_simp
          (try with_reducible rfl)
        simp only [put_list, List.set_cons_succ, List.set_cons_zero]
        as_aux_lemma =>
          refine wpAnyH_ready (rs := [11]) (by kernel_rfl) (by simp) (AllReadyH.cons rfl (fun K hK => ?_) AllReadyH.nil)
          go_simp
          refine (addM_any (HG.out.below hS) A B).mono ?_
          rintro r y13 ⟨rfl, hb⟩
          refine hK.out _ _ (hS.trans (hb.mono hS.size)) (fun hS2 => ?_)
          clear hS
          have hS := hS2
          clear hS2
          clear hb
          clear hK K
          refine wpAnyH_ready (rs := [12]) (by kernel_rfl) (by simp) (AllReadyH.cons rfl (fun K hK => ?_) AllReadyH.nil)
          go_simp
          refine (out_any (HG.out.below hS) (A + B)).mono ?_
          rintro r y14 ⟨rfl, hb⟩
          refine hK.out _ _ (hS.trans (hb.mono hS.size)) (fun hS2 => ?_)
          clear hS
          have hS := hS2
          clear hS2
          clear hb
          clear hK K
          refine wpAnyH_ready (rs := [17]) (by kernel_rfl) (by simp) (AllReadyH.cons rfl (fun K hK => ?_) AllReadyH.nil)
          go_simp
          refine (raddMod_any (by decide) (A % M) (B % M) M HAM.out HBM.out HFM.out.lt _ _ _ _ (Hvx.out.moved hS) (Hvy.out.moved hS) (HLM.out.moved hS)).mono ?_
          rintro r y15 ⟨⟨vd5, rfl, hL⟩, hb⟩
          refine hK.out _ _ (hS.trans (hb.mono hS.size)) (fun hS2 => ?_)
          clear hS
          have hS := hS2
          clear hS2
          have Hvd5 := hideP hL
          clear hL
          clear hb
          clear hK K
          refine wpAnyH_ready (rs := [18]) (by kernel_rfl) (by simp) (AllReadyH.cons rfl (fun K hK => ?_) AllReadyH.nil)
          go_simp
          refine (arrL_any _ _ _ Hvd5.out).mono ?_
          rintro r y16 ⟨rfl, hb⟩
          refine hK.out _ _ (hS.trans (hb.mono hS.size)) (fun hS2 => ?_)
          clear hS
          have hS := hS2
          clear hS2
          clear hb
          clear hK K
          refine wpAnyH_takeL (i := 19) (v := .bool true) rfl (by kernel_rfl) (by kernel_rfl) (by kernel_rfl) (fun _ _ _ h => h) (Or.inl ⟨by kernel_rfl, ?_⟩) hS ?_
          · intro V hV
            exact exec_eqS rfl rfl V (eq_nums (a := ((A + B) % M)) (b := ((A % M + B % M) % M)) (Nat.add_mod A B M) (Nat.lt_trans (Nat.mod_lt _ HFM.out.pos) HMF.out.lt) V)
          simp only [put_list, List.set_cons_succ, List.set_cons_zero]
          refine wpAnyH_takeL (i := 20) (v := ?_) rfl (by kernel_rfl) (by kernel_rfl) (by kernel_rfl) (fun _ _ _ h => h) (Or.inl ⟨by kernel_rfl, ?_⟩) hS ?_
          rotate_left
          · intro V hV
            go_simp
            (try with_reducible rfl)
          simp only [put_list, List.set_cons_succ, List.set_cons_zero]
          refine wpAnyH_takeL (i := 21) (v := ?_) rfl (by kernel_rfl) (by kernel_rfl) (by kernel_rfl) (fun _ _ _ h => h) (Or.inl ⟨by kernel_rfl, ?_⟩) hS ?_
          rotate_left
          · intro V hV
            go_simp
            (try with_reducible rfl)
          simp only [put_list, List.set_cons_succ, List.set_cons_zero]
          refine wpAnyH_takeL (i := 22) (v := ?_) rfl (by kernel_rfl) (by kernel_rfl) (by kernel_rfl) (fun _ _ _ h => h) (Or.inl ⟨by kernel_rfl, ?_⟩) hS ?_
          rotate_left
          · intro V hV
            go_simp
            (try with_reducible rfl)
          simp only [put_list, List.set_cons_succ, List.set_cons_zero]
          as_aux_lemma =>
            refine wpAnyH_takeL (i := 23) (v := ?_) rfl (by kernel_rfl) (by kernel_rfl) (by kernel_rfl) (fun _ _ _ h => h) (Or.inl ⟨by kernel_rfl, ?_⟩) hS ?_
            rotate_left
            · intro V hV
              go_simp
              (try with_reducible rfl)
            simp only [put_list, List.set_cons_succ, List.set_cons_zero]
            refine wpAnyH_takeL (i := 24) (v := .agg (cs (limb (el M A)))) rfl (by kernel_rfl) (by kernel_rfl) (by kernel_rfl) (fun _ _ _ h => h) (yieldsIf_load_mid (by kernel_rfl) 29 _ rfl (b1) (0) rfl (cs (limb (el M A))).toList _ (fun V hV => rangeOf ((hV.block _ (lt_of_block HP1.out)).trans HP1.out)) under rfl (info _)) hS ?_
            simp only [put_list, List.set_cons_succ, List.set_cons_zero]
            refine wpAnyH_takeL (i := 25) (v := .agg (cs (limb (el M B)))) rfl (by kernel_rfl) (by kernel_rfl) (by kernel_rfl) (fun _ _ _ h => h) (yieldsIf_load_mid (by kernel_rfl) 29 _ rfl (b2) (0) rfl (cs (limb (el M B))).toList _ (fun V hV => rangeOf ((hV.block _ (lt_of_block HQ1.out)).trans HQ1.out)) under rfl (info _)) hS ?_
            simp only [put_list, List.set_cons_succ, List.set_cons_zero]
            refine wpAnyH_takeL (i := 28) (v := ?_) rfl (by kernel_rfl) (by kernel_rfl) (by kernel_rfl) (fun _ _ _ h => h) (Or.inl ⟨by kernel_rfl, ?_⟩) hS ?_
            rotate_left
            · intro V hV
              go_simp
              (try with_reducible rfl)
            simp only [put_list, List.set_cons_succ, List.set_cons_zero]
            refine wpAnyH_takeL (i := 29) (v := ?_) rfl (by kernel_rfl) (by kernel_rfl) (by kernel_rfl) (fun _ _ _ h => h) (Or.inl ⟨by kernel_rfl, ?_⟩) hS ?_
            rotate_left
            · intro V hV
              go_simp
              (try with_reducible rfl)
            simp only [put_list, List.set_cons_succ, List.set_cons_zero]
            refine wpAnyH_takeL (i := 30) (v := ?_) rfl (by kernel_rfl) (by kernel_rfl) (by kernel_rfl) (fun _ _ _ h => h) (Or.inl ⟨by kernel_rfl, ?_⟩) hS ?_
            rotate_left
            · intro V hV
              go_simp
              (try with_reducible rfl)
            simp only [put_list, List.set_cons_succ, List.set_cons_zero]
            refine wpAnyH_takeL (i := 31) (v := ?_) rfl (by kernel_rfl) (by kernel_rfl) (by kernel_rfl) (fun _ _ _ h => h) (Or.inl ⟨by kernel_rfl, ?_⟩) hS ?_
            rotate_left
            · intro V hV
              have k0 : V.cell? ⟨FB, 0, none⟩ = some (.slice (some ⟨gm, om, none⟩) 6 cm) := blk_cell ((hV.block _ (lt_of_block HFb.out)).trans HFb.out) rfl
              have k1 : V.cell? ⟨FB, 1, none⟩ = some (.int .u64 fo) := blk_cell ((hV.block _ (lt_of_block HFb.out)).trans HFb.out) rfl
              have k2 : V.cell? ⟨FB, 2, none⟩ = some (.slice (some ⟨gt, ot, none⟩) 6 ct) := blk_cell ((hV.block _ (lt_of_block HFb.out)).trans HFb.out) rfl
              go_simp
              (try with_reducible rfl)
            simp only [put_list, List.set_cons_succ, List.set_cons_zero]
            refine wpAnyH_ready (rs := [26]) (by kernel_rfl) (by simp) (AllReadyH.cons rfl (fun K hK => ?_) AllReadyH.nil)
            go_simp
            refine (subM_any (HG.out.below hS) A B).mono ?_
            rintro r y17 ⟨rfl, hb⟩
            refine hK.out _ _ (hS.trans (hb.mono hS.size)) (fun hS2 => ?_)
            clear hS
            have hS := hS2
            clear hS2
            clear hb
            clear hK K
            as_aux_lemma =>
              refine wpAnyH_ready (rs := [27]) (by kernel_rfl) (by simp) (AllReadyH.cons rfl (fun K hK => ?_) AllReadyH.nil)
              go_simp
              refine (out_any (HG.out.below hS) (A + (M - B % M))).mono ?_
              rintro r y18 ⟨rfl, hb⟩
              refine hK.out _ _ (hS.trans (hb.mono hS.size)) (fun hS2 => ?_)
              clear hS
              have hS := hS2
              clear hS2
              clear hb
              clear hK K
              refine wpAnyH_ready (rs := [32]) (by kernel_rfl) (by simp) (AllReadyH.cons rfl (fun K hK => ?_) AllReadyH.nil)
              go_simp
              refine (rsubMod_any (by decide) (A % M) (B % M) M HAM.out HBM.out HFM.out.lt _ _ _ _ (Hvx.out.moved hS) (Hvy.out.moved hS) (HLM.out.moved hS)).mono ?_
              rintro r y19 ⟨⟨vd9, rfl, hL⟩, hb⟩
              refine hK.out _ _ (hS.trans (hb.mono hS.size)) (fun hS2 => ?_)
              clear hS
              have hS := hS2
              clear hS2
              have Hvd9 := hideP hL
              clear hL
              clear hb
              clear hK K
              refine wpAnyH_ready (rs := [33]) (by kernel_rfl) (by simp) (AllReadyH.cons rfl (fun K hK => ?_) AllReadyH.nil)
              go_simp
              refine (arrL_any _ _ _ Hvd9.out).mono ?_
              rintro r y20 ⟨rfl, hb⟩
              refine hK.out _ _ (hS.trans (hb.mono hS.size)) (fun hS2 => ?_)
              clear hS
              have hS := hS2
              clear hS2
              clear hb
              clear hK K
              refine wpAnyH_takeL (i := 34) (v := .bool true) rfl (by kernel_rfl) (by kernel_rfl) (by kernel_rfl) (fun _ _ _ h => h) (Or.inl ⟨by kernel_rfl, ?_⟩) hS ?_
              · intro V hV
                exact exec_eqS rfl rfl V (eq_nums (a := ((A + (M - B % M)) % M)) (b := ((A % M + (M - B % M)) % M)) ((Nat.mod_add_mod A M _).symm) (Nat.lt_trans (Nat.mod_lt _ HFM.out.pos) HMF.out.lt) V)
              simp only [put_list, List.set_cons_succ, List.set_cons_zero]
              refine wpAnyH_takeL (i := 35) (v := ?_) rfl (by kernel_rfl) (by kernel_rfl) (by kernel_rfl) (fun _ _ _ h => h) (Or.inl ⟨by kernel_rfl, ?_⟩) hS ?_
              rotate_left
              · intro V hV
                go_simp
                (try with_reducible rfl)
              simp only [put_list, List.set_cons_succ, List.set_cons_zero]
              refine wpAnyH_takeL (i := 36) (v := ?_) rfl (by kernel_rfl) (by kernel_rfl) (by kernel_rfl) (fun _ _ _ h => h) (Or.inl ⟨by kernel_rfl, ?_⟩) hS ?_
              rotate_left
              · intro V hV
                go_simp
                (try with_reducible rfl)
              simp only [put_list, List.set_cons_succ, List.set_cons_zero]
              refine wpAnyH_takeL (i := 37) (v := ?_) rfl (by kernel_rfl) (by kernel_rfl) (by kernel_rfl) (fun _ _ _ h => h) (Or.inl ⟨by kernel_rfl, ?_⟩) hS ?_
              rotate_left
              · intro V hV
                go_simp
                (try with_reducible rfl)
              simp only [put_list, List.set_cons_succ, List.set_cons_zero]
              refine wpAnyH_takeL (i := 38) (v := ?_) rfl (by kernel_rfl) (by kernel_rfl) (by kernel_rfl) (fun _ _ _ h => h) (Or.inl ⟨by kernel_rfl, ?_⟩) hS ?_
              rotate_left
              · intro V hV
                go_simp
                (try with_reducible rfl)
              simp only [put_list, List.set_cons_succ, List.set_cons_zero]
              as_aux_lemma =>
                refine wpAnyH_takeL (i := 39) (v := .agg (cs (limb (el M A)))) rfl (by kernel_rfl) (by kernel_rfl) (by kernel_rfl) (fun _ _ _ h => h) (yieldsIf_load_mid (by kernel_rfl) 29 _ rfl (b1) (0) rfl (cs (limb (el M A))).toList _ (fun V hV => rangeOf ((hV.block _ (lt_of_block HP1.out)).trans HP1.out)) under rfl (info _)) hS ?_
                simp only [put_list, List.set_cons_succ, List.set_cons_zero]
                refine wpAnyH_takeL (i := 43) (v := ?_) rfl (by kernel_rfl) (by kernel_rfl) (by kernel_rfl) (fun _ _ _ h => h) (Or.inl ⟨by kernel_rfl, ?_⟩) hS ?_
                rotate_left
                · intro V hV
                  go_simp
                  (try with_reducible rfl)
                simp only [put_list, List.set_cons_succ, List.set_cons_zero]
                refine wpAnyH_takeL (i := 44) (v := ?_) rfl (by kernel_rfl) (by kernel_rfl) (by kernel_rfl) (fun _ _ _ h => h) (Or.inl ⟨by kernel_rfl, ?_⟩) hS ?_
                rotate_left
                · intro V hV
                  go_simp
                  (try with_reducible rfl)
                simp only [put_list, List.set_cons_succ, List.set_cons_zero]
                refine wpAnyH_takeL (i := 45) (v := ?_) rfl (by kernel_rfl) (by kernel_rfl) (by kernel_rfl) (fun _ _ _ h => h) (Or.inl ⟨by kernel_rfl, ?_⟩) hS ?_
                rotate_left
                · intro V hV
                  have k0 : V.cell? ⟨FB, 0, none⟩ = some (.slice (some ⟨gm, om, none⟩) 6 cm) := blk_cell ((hV.block _ (lt_of_block HFb.out)).trans HFb.out) rfl
                  have k1 : V.cell? ⟨FB, 1, none⟩ = some (.int .u64 fo) := blk_cell ((hV.block _ (lt_of_block HFb.out)).trans HFb.out) rfl
                  have k2 : V.cell? ⟨FB, 2, none⟩ = some (.slice (some ⟨gt, ot, none⟩) 6 ct) := blk_cell ((hV.block _ (lt_of_block HFb.out)).trans HFb.out) rfl
                  go_simp
                  (try with_reducible rfl)
                simp only [put_list, List.set_cons_succ, List.set_cons_zero]
                have hmk := make_row'
                refine regionM (r := 59) (fun b => .slice (some ⟨b, 0, none⟩) 6 6) 2 (fun k => match k with | 0 => 40 | _ => 41) (fun k => match k with | 0 => 136 | _ => 137) (fun k => match k with | 0 => .agg (cs (limb (el M (M - A % M)))) | _ => .agg (cs (limb ((M - A % M) % M)))) (fun i p => #[true, true, true, true, true, true, true, true, true, true, true, true, true, true, true, true, true, true, true, true, true, true, true, true, true, true, true, true, true, true, true, true, true, true, true, true, true, true, true, true, decide (1 ≤ i), decide (2 ≤ i), p, true, true, true, false, false, false, false, false, false, false, false, false, false, false, false, false, false, false, false, false, false, false, false, false, false, false, false, false, false, false, false, false, false, false, false, false, false, false, false, false, false, false, false, false, false, false, false, false, false, false, false, false, false, false, false, false, false, false, false, false, false, false] : Nat → Bool → Array Bool) (cs (fun _ => 0)) 23 42 138 (by kernel_rfl) (by decide) (by kernel_rfl) hS ?_ ?_ ?_
                · intro i hi T w2 K hbw hT hK
                  match i, hi with
                  | 0, _ =>
                    have t0 : T[134]? = some (.pointer (some ⟨p, 0, none⟩)) := hT 134 (by decide)
                    have t1 : T[135]? = some (.agg (cs (limb (el M A)))) := hT 135 (by decide)
                    have tg : T[132]? = some (.bool true) := hT 132 (by decide)
                    refine wpOp_stepT (i := 40) rfl (fun K' hK' => ?_)
                    have HK' := hideP hK'
                    have HK9 := hideP hK
                    refine ite_wp (wanted_of rfl rfl rfl tg) ?_
                    clear hK hK' hT tg
                    go_simp
                    refine (neg_any (HG.out.below hbw) A).mono ?_
                    rintro e w3 ⟨rfl, hb⟩
                    exact HK'.out _ _ (HK9.out w3 hb)
                  | 1, _ =>
                    have t0 : T[133]? = some (.pointer (some ⟨p, 0, none⟩)) := hT 133 (by decide)
                    have t1 : T[136]? = some (.agg (cs (limb (el M (M - A % M))))) := hT 136 (by decide)
                    have tg : T[132]? = some (.bool true) := hT 132 (by decide)
                    refine wpOp_stepT (i := 41) rfl (fun K' hK' => ?_)
                    have HK' := hideP hK'
                    have HK9 := hideP hK
                    refine ite_wp (wanted_of rfl rfl rfl tg) ?_
                    clear hK hK' hT tg
                    go_simp
                    refine (out_any (HG.out.below hbw) (M - A % M)).mono ?_
                    rintro e w3 ⟨rfl, hb⟩
                    exact HK'.out _ _ (HK9.out w3 hb)
                  | k' + 2, h => exact absurd h (by omega)
                · intro T w2 K hT hK
                  have tg : T[132]? = some (.bool true) := hT 132 (by decide)
                  refine wpOp_stepT rfl (fun K' hK' => ?_)
                  have HK' := hideP hK'
                  have HK9 := hideP hK
                  have hmk2 := hmk w2
                  unfold cs at hmk2
                  refine ite_wp (wanted_of rfl rfl rfl tg) ?_
                  clear hK hK' hmk hT tg
                  go_simp
                  exact HK'.out _ _ HK9.out
                intro w2 bz hS lz hz
                simp only [TC, List.set_cons_succ, List.set_cons_zero]
                have Hzz : Hid (LW w2 (.slice (some ⟨bz, 0, none⟩) 6 6) 6 (limb 0)) := ⟨bz, 0, 6, rfl, Nat.le_refl _, by decide, lt_of_block hz, fun j hj => by rw [Nat.zero_add]; exact (blk_cell hz (get (fun _ => 0) hj)).trans (by simp [limb])⟩
                clear hz lz hmk
                refine wpAnyH_ready (rs := [46]) (by kernel_rfl) (by simp) (AllReadyH.cons rfl (fun K hK => ?_) AllReadyH.nil)
                go_simp
                refine (rsubMod_any (by decide) 0 (A % M) M HFM.out.pos HAM.out HFM.out.lt _ _ _ _ Hzz.out (Hvx.out.moved hS) (HLM.out.moved hS)).mono ?_
                rintro r y21 ⟨⟨vd11, rfl, hL⟩, hb⟩
                refine hK.out _ _ (hS.trans (hb.mono hS.size)) (fun hS2 => ?_)
                clear hS
                have hS := hS2
                clear hS2
                have Hvd11 := hideP hL
                clear hL
                clear hb
                clear hK K
                refine wpAnyH_ready (rs := [47]) (by kernel_rfl) (by simp) (AllReadyH.cons rfl (fun K hK => ?_) AllReadyH.nil)
                go_simp
                refine (arrL_any _ _ _ Hvd11.out).mono ?_
                rintro r y22 ⟨rfl, hb⟩
                refine hK.out _ _ (hS.trans (hb.mono hS.size)) (fun hS2 => ?_)
                clear hS
                have hS := hS2
                clear hS2
                clear hb
                clear hK K
                refine wpAnyH_takeL (i := 48) (v := .bool true) rfl (by kernel_rfl) (by kernel_rfl) (by kernel_rfl) (fun _ _ _ h => h) (Or.inl ⟨by kernel_rfl, ?_⟩) hS ?_
                · intro V hV
                  exact exec_eqS rfl rfl V (eq_nums (a := ((M - A % M) % M)) (b := ((0 + (M - A % M)) % M)) (by rw [Nat.zero_add]) (Nat.lt_trans (Nat.mod_lt _ HFM.out.pos) HMF.out.lt) V)
                simp only [put_list, List.set_cons_succ, List.set_cons_zero]
                as_aux_lemma =>
                  refine wpAnyH_takeL (i := 49) (v := ?_) rfl (by kernel_rfl) (by kernel_rfl) (by kernel_rfl) (fun _ _ _ h => h) (Or.inl ⟨by kernel_rfl, ?_⟩) hS ?_
                  rotate_left
                  · intro V hV
                    go_simp
                    (try with_reducible rfl)
                  simp only [put_list, List.set_cons_succ, List.set_cons_zero]
                  refine wpAnyH_takeL (i := 50) (v := ?_) rfl (by kernel_rfl) (by kernel_rfl) (by kernel_rfl) (fun _ _ _ h => h) (Or.inl ⟨by kernel_rfl, ?_⟩) hS ?_
                  rotate_left
                  · intro V hV
                    go_simp
                    (try with_reducible rfl)
                  simp only [put_list, List.set_cons_succ, List.set_cons_zero]
                  refine wpAnyH_takeL (i := 51) (v := ?_) rfl (by kernel_rfl) (by kernel_rfl) (by kernel_rfl) (fun _ _ _ h => h) (Or.inl ⟨by kernel_rfl, ?_⟩) hS ?_
                  rotate_left
                  · intro V hV
                    go_simp
                    (try with_reducible rfl)
                  simp only [put_list, List.set_cons_succ, List.set_cons_zero]
                  refine wpAnyH_takeL (i := 52) (v := ?_) rfl (by kernel_rfl) (by kernel_rfl) (by kernel_rfl) (fun _ _ _ h => h) (Or.inl ⟨by kernel_rfl, ?_⟩) hS ?_
                  rotate_left
                  · intro V hV
                    go_simp
                    (try with_reducible rfl)
                  simp only [put_list, List.set_cons_succ, List.set_cons_zero]
                  refine wpAnyH_takeL (i := 53) (v := .agg (cs (limb (el M A)))) rfl (by kernel_rfl) (by kernel_rfl) (by kernel_rfl) (fun _ _ _ h => h) (yieldsIf_load_mid (by kernel_rfl) 29 _ rfl (b1) (0) rfl (cs (limb (el M A))).toList _ (fun V hV => rangeOf ((hV.block _ (lt_of_block HP1.out)).trans HP1.out)) under rfl (info _)) hS ?_
                  simp only [put_list, List.set_cons_succ, List.set_cons_zero]
                  refine wpAnyH_takeL (i := 54) (v := .agg (cs (limb (el M B)))) rfl (by kernel_rfl) (by kernel_rfl) (by kernel_rfl) (fun _ _ _ h => h) (yieldsIf_load_mid (by kernel_rfl) 29 _ rfl (b2) (0) rfl (cs (limb (el M B))).toList _ (fun V hV => rangeOf ((hV.block _ (lt_of_block HQ1.out)).trans HQ1.out)) under rfl (info _)) hS ?_
                  simp only [put_list, List.set_cons_succ, List.set_cons_zero]
                  refine wpAnyH_takeL (i := 57) (v := ?_) rfl (by kernel_rfl) (by kernel_rfl) (by kernel_rfl) (fun _ _ _ h => h) (Or.inl ⟨by kernel_rfl, ?_⟩) hS ?_
                  rotate_left
                  · intro V hV
                    have k0 : V.cell? ⟨FB, 0, none⟩ = some (.slice (some ⟨gm, om, none⟩) 6 cm) := blk_cell ((hV.block _ (lt_of_block HFb.out)).trans HFb.out) rfl
                    have k1 : V.cell? ⟨FB, 1, none⟩ = some (.int .u64 fo) := blk_cell ((hV.block _ (lt_of_block HFb.out)).trans HFb.out) rfl
                    have k2 : V.cell? ⟨FB, 2, none⟩ = some (.slice (some ⟨gt, ot, none⟩) 6 ct) := blk_cell ((hV.block _ (lt_of_block HFb.out)).trans HFb.out) rfl
                    go_simp
                    (try with_reducible rfl)
                  simp only [put_list, List.set_cons_succ, List.set_cons_zero]
                  refine wpAnyH_takeL (i := 58) (v := ?_) rfl (by kernel_rfl) (by kernel_rfl) (by kernel_rfl) (fun _ _ _ h => h) (Or.inl ⟨by kernel_rfl, ?_⟩) hS ?_
                  rotate_left
                  · intro V hV
                    go_simp
                    (try with_reducible rfl)
                  simp only [put_list, List.set_cons_succ, List.set_cons_zero]
                  as_aux_lemma =>
                    refine wpAnyH_takeL (i := 59) (v := ?_) rfl (by kernel_rfl) (by kernel_rfl) (by kernel_rfl) (fun _ _ _ h => h) (Or.inl ⟨by kernel_rfl, ?_⟩) hS ?_
                    rotate_left
                    · intro V hV
                      go_simp
                      (try with_reducible rfl)
                    simp only [put_list, List.set_cons_succ, List.set_cons_zero]
                    refine wpAnyH_ready (rs := [55]) (by kernel_rfl) (by simp) (AllReadyH.cons rfl (fun K hK => ?_) AllReadyH.nil)
                    go_simp
                    refine (mulM_any (HG.out.below hS) A B).mono ?_
                    rintro r y23 ⟨rfl, hb⟩
                    refine hK.out _ _ (hS.trans (hb.mono hS.size)) (fun hS2 => ?_)
                    clear hS
                    have hS := hS2
                    clear hS2
                    clear hb
                    clear hK K
                    refine wpAnyH_ready (rs := [56]) (by kernel_rfl) (by simp) (AllReadyH.cons rfl (fun K hK => ?_) AllReadyH.nil)
                    go_simp
                    refine (out_any (HG.out.below hS) (A * B)).mono ?_
                    rintro r y24 ⟨rfl, hb⟩
                    refine hK.out _ _ (hS.trans (hb.mono hS.size)) (fun hS2 => ?_)
                    clear hS
                    have hS := hS2
                    clear hS2
                    clear hb
                    clear hK K
                    refine wpAnyH_ready (rs := [60]) (by kernel_rfl) (by simp) (AllReadyH.cons rfl (fun K hK => ?_) AllReadyH.nil)
                    go_simp
                    refine (rmulMod_any HFM.out (A % M) (B % M) HAM.out HBM.out _ _ _ _ (HFF.out.moved hS) (Hvx.out.moved hS) (Hvy.out.moved hS)).mono ?_
                    rintro r y25 ⟨⟨vd15, rfl, hL⟩, hb⟩
                    refine hK.out _ _ (hS.trans (hb.mono hS.size)) (fun hS2 => ?_)
                    clear hS
                    have hS := hS2
                    clear hS2
                    have Hvd15 := hideP hL
                    clear hL
                    clear hb
                    clear hK K
                    refine wpAnyH_ready (rs := [61]) (by kernel_rfl) (by simp) (AllReadyH.cons rfl (fun K hK => ?_) AllReadyH.nil)
                    go_simp
                    refine (arrL_any _ _ _ Hvd15.out).mono ?_
                    rintro r y26 ⟨rfl, hb⟩
                    refine hK.out _ _ (hS.trans (hb.mono hS.size)) (fun hS2 => ?_)
                    clear hS
                    have hS := hS2
                    clear hS2
                    clear hb
                    clear hK K
                    refine wpAnyH_takeL (i := 62) (v := .bool true) rfl (by kernel_rfl) (by kernel_rfl) (by kernel_rfl) (fun _ _ _ h => h) (Or.inl ⟨by kernel_rfl, ?_⟩) hS ?_
                    · intro V hV
                      exact exec_eqS rfl rfl V (eq_nums (a := ((A * B) % M)) (b := (A % M * (B % M) % M)) (Nat.mul_mod A B M) (Nat.lt_trans (Nat.mod_lt _ HFM.out.pos) HMF.out.lt) V)
                    simp only [put_list, List.set_cons_succ, List.set_cons_zero]
                    refine wpAnyH_takeL (i := 63) (v := ?_) rfl (by kernel_rfl) (by kernel_rfl) (by kernel_rfl) (fun _ _ _ h => h) (Or.inl ⟨by kernel_rfl, ?_⟩) hS ?_
                    rotate_left
                    · intro V hV
                      go_simp
                      (try with_reducible rfl)
                    simp only [put_list, List.set_cons_succ, List.set_cons_zero]
                    refine wpAnyH_takeL (i := 64) (v := ?_) rfl (by kernel_rfl) (by kernel_rfl) (by kernel_rfl) (fun _ _ _ h => h) (Or.inl ⟨by kernel_rfl, ?_⟩) hS ?_
                    rotate_left
                    · intro V hV
                      go_simp
                      (try with_reducible rfl)
                    simp only [put_list, List.set_cons_succ, List.set_cons_zero]
                    as_aux_lemma =>
                      refine wpAnyH_takeL (i := 65) (v := ?_) rfl (by kernel_rfl) (by kernel_rfl) (by kernel_rfl) (fun _ _ _ h => h) (Or.inl ⟨by kernel_rfl, ?_⟩) hS ?_
                      rotate_left
                      · intro V hV
                        go_simp
                        (try with_reducible rfl)
                      simp only [put_list, List.set_cons_succ, List.set_cons_zero]
                      refine wpAnyH_takeL (i := 66) (v := ?_) rfl (by kernel_rfl) (by kernel_rfl) (by kernel_rfl) (fun _ _ _ h => h) (Or.inl ⟨by kernel_rfl, ?_⟩) hS ?_
                      rotate_left
                      · intro V hV
                        go_simp
                        (try with_reducible rfl)
                      simp only [put_list, List.set_cons_succ, List.set_cons_zero]
                      refine wpAnyH_takeL (i := 67) (v := .agg (cs (limb (el M A)))) rfl (by kernel_rfl) (by kernel_rfl) (by kernel_rfl) (fun _ _ _ h => h) (yieldsIf_load_mid (by kernel_rfl) 29 _ rfl (b1) (0) rfl (cs (limb (el M A))).toList _ (fun V hV => rangeOf ((hV.block _ (lt_of_block HP1.out)).trans HP1.out)) under rfl (info _)) hS ?_
                      simp only [put_list, List.set_cons_succ, List.set_cons_zero]
                      refine wpAnyH_takeL (i := 68) (v := ?_) rfl (by kernel_rfl) (by kernel_rfl) (by kernel_rfl) (fun _ _ _ h => h) (Or.inl ⟨by kernel_rfl, ?_⟩) hS ?_
                      rotate_left
                      · intro V hV
                        go_simp
                        (try with_reducible rfl)
                      simp only [put_list, List.set_cons_succ, List.set_cons_zero]
                      refine wpAnyH_takeL (i := 72) (v := ?_) rfl (by kernel_rfl) (by kernel_rfl) (by kernel_rfl) (fun _ _ _ h => h) (Or.inl ⟨by kernel_rfl, ?_⟩) hS ?_
                      rotate_left
                      · intro V hV
                        have k0 : V.cell? ⟨FB, 0, none⟩ = some (.slice (some ⟨gm, om, none⟩) 6 cm) := blk_cell ((hV.block _ (lt_of_block HFb.out)).trans HFb.out) rfl
                        have k1 : V.cell? ⟨FB, 1, none⟩ = some (.int .u64 fo) := blk_cell ((hV.block _ (lt_of_block HFb.out)).trans HFb.out) rfl
                        have k2 : V.cell? ⟨FB, 2, none⟩ = some (.slice (some ⟨gt, ot, none⟩) 6 ct) := blk_cell ((hV.block _ (lt_of_block HFb.out)).trans HFb.out) rfl
                        go_simp
                        (try with_reducible rfl)
                      simp only [put_list, List.set_cons_succ, List.set_cons_zero]
                      refine wpAnyH_takeL (i := 73) (v := ?_) rfl (by kernel_rfl) (by kernel_rfl) (by kernel_rfl) (fun _ _ _ h => h) (Or.inl ⟨by kernel_rfl, ?_⟩) hS ?_
                      rotate_left
                      · intro V hV
                        go_simp
                        (try with_reducible rfl)
                      simp only [put_list, List.set_cons_succ, List.set_cons_zero]
                      refine wpAnyH_takeL (i := 74) (v := ?_) rfl (by kernel_rfl) (by kernel_rfl) (by kernel_rfl) (fun _ _ _ h => h) (Or.inl ⟨by kernel_rfl, ?_⟩) hS ?_
                      rotate_left
                      · intro V hV
                        go_simp
                        (try with_reducible rfl)
                      simp only [put_list, List.set_cons_succ, List.set_cons_zero]
                      refine wpAnyH_ready (rs := [69]) (by kernel_rfl) (by simp) (AllReadyH.cons rfl (fun K hK => ?_) AllReadyH.nil)
                      obtain ⟨ve, y27, hrun, hUS, hb⟩ := append_exp HNE.out (HEW1.out.moved hS)
                      have HUS := hideP hUS
                      clear hUS
                      refine ite_wp (by kernel_rfl) ?_
                      refine wp_append_runD _ _ 27 165 rfl rfl rfl rfl rfl hrun ?_
                      refine hK.out _ _ (hS.trans (hb.mono hS.size)) (fun hS2 => ?_)
                      clear hS
                      have hS := hS2
                      clear hS2 hb hrun
                      clear hK K
                      simp only [List.set_cons_succ, List.set_cons_zero]
                      as_aux_lemma =>
                        refine wpAnyH_ready (rs := [70]) (by kernel_rfl) (by simp) (AllReadyH.cons rfl (fun K hK => ?_) AllReadyH.nil)
                        go_simp
                        refine (exp_any (HG.out.below hS) A _ ne ef HUS.out).mono ?_
                        rintro r y28 ⟨rfl, hb⟩
                        refine hK.out _ _ (hS.trans (hb.mono hS.size)) (fun hS2 => ?_)
                        clear hS
                        have hS := hS2
                        clear hS2
                        clear hb
                        clear hK K
                        refine wpAnyH_ready (rs := [71]) (by kernel_rfl) (by simp) (AllReadyH.cons rfl (fun K hK => ?_) AllReadyH.nil)
                        go_simp
                        refine (out_any (HG.out.below hS) (A ^ val ef ne)).mono ?_
                        rintro r y29 ⟨rfl, hb⟩
                        refine hK.out _ _ (hS.trans (hb.mono hS.size)) (fun hS2 => ?_)
                        clear hS
                        have hS := hS2
                        clear hS2
                        clear hb
                        clear hK K
                        refine wpAnyH_ready (rs := [75]) (by kernel_rfl) (by simp) (AllReadyH.cons rfl (fun K hK => ?_) AllReadyH.nil)
                        go_simp
                        refine (rexp_any HFM.out (A % M) HAM.out ne HNE.out ef _ _ _ _ (HFF.out.moved hS) (Hvx.out.moved hS) (HEW1.out.moved hS)).mono ?_
                        rintro r y30 ⟨⟨vd20, rfl, hL⟩, hb⟩
                        refine hK.out _ _ (hS.trans (hb.mono hS.size)) (fun hS2 => ?_)
                        clear hS
                        have hS := hS2
                        clear hS2
                        have Hvd20 := hideP hL
                        clear hL
                        clear hb
                        clear hK K
                        refine wpAnyH_ready (rs := [76]) (by kernel_rfl) (by simp) (AllReadyH.cons rfl (fun K hK => ?_) AllReadyH.nil)
                        go_simp
                        refine (arrL_any _ _ _ Hvd20.out).mono ?_
                        rintro r y31 ⟨rfl, hb⟩
                        refine hK.out _ _ (hS.trans (hb.mono hS.size)) (fun hS2 => ?_)
                        clear hS
                        have hS := hS2
                        clear hS2
                        clear hb
                        clear hK K
                        refine wpAnyH_takeL (i := 77) (v := .bool true) rfl (by kernel_rfl) (by kernel_rfl) (by kernel_rfl) (fun _ _ _ h => h) (Or.inl ⟨by kernel_rfl, ?_⟩) hS ?_
                        · intro V hV
                          exact exec_eqS rfl rfl V (eq_nums (a := ((A ^ val ef ne) % M)) (b := ((A % M) ^ val ef ne % M)) (Nat.pow_mod A _ M) (Nat.lt_trans (Nat.mod_lt _ HFM.out.pos) HMF.out.lt) V)
                        simp only [put_list, List.set_cons_succ, List.set_cons_zero]
                        refine wpAnyH_takeL (i := 78) (v := ?_) rfl (by kernel_rfl) (by kernel_rfl) (by kernel_rfl) (fun _ _ _ h => h) (Or.inl ⟨by kernel_rfl, ?_⟩) hS ?_
                        rotate_left
                        · intro V hV
                          go_simp
                          (try with_reducible rfl)
                        simp only [put_list, List.set_cons_succ, List.set_cons_zero]
                        refine wpAnyH_takeL (i := 79) (v := ?_) rfl (by kernel_rfl) (by kernel_rfl) (by kernel_rfl) (fun _ _ _ h => h) (Or.inl ⟨by kernel_rfl, ?_⟩) hS ?_
                        rotate_left
                        · intro V hV
                          go_simp
                          (try with_reducible rfl)
                        simp only [put_list, List.set_cons_succ, List.set_cons_zero]
                        refine wpAnyH_takeL (i := 80) (v := ?_) rfl (by kernel_rfl) (by kernel_rfl) (by kernel_rfl) (fun _ _ _ h => h) (Or.inl ⟨by kernel_rfl, ?_⟩) hS ?_
                        rotate_left
                        · intro V hV
                          go_simp
                          (try with_reducible rfl)
                        simp only [put_list, List.set_cons_succ, List.set_cons_zero]
                        as_aux_lemma =>
                          refine wpAnyH_takeL (i := 81) (v := ?_) rfl (by kernel_rfl) (by kernel_rfl) (by kernel_rfl) (fun _ _ _ h => h) (Or.inl ⟨by kernel_rfl, ?_⟩) hS ?_
                          rotate_left
                          · intro V hV
                            go_simp
                            (try with_reducible rfl)
                          simp only [put_list, List.set_cons_succ, List.set_cons_zero]
                          refine wpAnyH_takeL (i := 82) (v := .agg (cs (limb (el M A)))) rfl (by kernel_rfl) (by kernel_rfl) (by kernel_rfl) (fun _ _ _ h => h) (yieldsIf_load_mid (by kernel_rfl) 29 _ rfl (b1) (0) rfl (cs (limb (el M A))).toList _ (fun V hV => rangeOf ((hV.block _ (lt_of_block HP1.out)).trans HP1.out)) under rfl (info _)) hS ?_
                          simp only [put_list, List.set_cons_succ, List.set_cons_zero]
                          refine wpAnyH_takeL (i := 85) (v := ?_) rfl (by kernel_rfl) (by kernel_rfl) (by kernel_rfl) (fun _ _ _ h => h) (Or.inl ⟨by kernel_rfl, ?_⟩) hS ?_
                          rotate_left
                          · intro V hV
                            have k0 : V.cell? ⟨FB, 0, none⟩ = some (.slice (some ⟨gm, om, none⟩) 6 cm) := blk_cell ((hV.block _ (lt_of_block HFb.out)).trans HFb.out) rfl
                            have k1 : V.cell? ⟨FB, 1, none⟩ = some (.int .u64 fo) := blk_cell ((hV.block _ (lt_of_block HFb.out)).trans HFb.out) rfl
                            have k2 : V.cell? ⟨FB, 2, none⟩ = some (.slice (some ⟨gt, ot, none⟩) 6 ct) := blk_cell ((hV.block _ (lt_of_block HFb.out)).trans HFb.out) rfl
                            go_simp
                            (try with_reducible rfl)
                          simp only [put_list, List.set_cons_succ, List.set_cons_zero]
                          refine wpAnyH_takeL (i := 86) (v := ?_) rfl (by kernel_rfl) (by kernel_rfl) (by kernel_rfl) (fun _ _ _ h => h) (Or.inl ⟨by kernel_rfl, ?_⟩) hS ?_
                          rotate_left
                          · intro V hV
                            go_simp
                            (try with_reducible rfl)
                          simp only [put_list, List.set_cons_succ, List.set_cons_zero]
                          refine wpAnyH_ready (rs := [83]) (by kernel_rfl) (by simp) (AllReadyH.cons rfl (fun K hK => ?_) AllReadyH.nil)
                          go_simp
                          refine (inv_any (HG.out.below hS) A).mono ?_
                          rintro r y32 ⟨rfl, hb⟩
                          refine hK.out _ _ (hS.trans (hb.mono hS.size)) (fun hS2 => ?_)
                          clear hS
                          have hS := hS2
                          clear hS2
                          clear hb
                          clear hK K
                          refine wpAnyH_ready (rs := [84]) (by kernel_rfl) (by simp) (AllReadyH.cons rfl (fun K hK => ?_) AllReadyH.nil)
                          go_simp
                          refine (out_any (HG.out.below hS) (A ^ (M - 2))).mono ?_
                          rintro r y33 ⟨rfl, hb⟩
                          refine hK.out _ _ (hS.trans (hb.mono hS.size)) (fun hS2 => ?_)
                          clear hS
                          have hS := hS2
                          clear hS2
                          clear hb
                          clear hK K
                          refine wpAnyH_ready (rs := [87]) (by kernel_rfl) (by simp) (AllReadyH.cons rfl (fun K hK => ?_) AllReadyH.nil)
                          go_simp
                          refine (rinv_any HFM.out (A % M) HAM.out _ _ _ (HFF.out.moved hS) (Hvx.out.moved hS)).mono ?_
                          rintro r y34 ⟨⟨vd24, rfl, hL⟩, hb⟩
                          refine hK.out _ _ (hS.trans (hb.mono hS.size)) (fun hS2 => ?_)
                          clear hS
                          have hS := hS2
                          clear hS2
                          have Hvd24 := hideP hL
                          clear hL
                          clear hb
                          clear hK K
                          refine wpAnyH_ready (rs := [88]) (by kernel_rfl) (by simp) (AllReadyH.cons rfl (fun K hK => ?_) AllReadyH.nil)
                          go_simp
                          refine (arrL_any _ _ _ Hvd24.out).mono ?_
                          rintro r y35 ⟨rfl, hb⟩
                          refine hK.out _ _ (hS.trans (hb.mono hS.size)) (fun hS2 => ?_)
                          clear hS
                          have hS := hS2
                          clear hS2
                          clear hb
                          clear hK K
                          as_aux_lemma =>
                            refine wpAnyH_takeL (i := 89) (v := .bool true) rfl (by kernel_rfl) (by kernel_rfl) (by kernel_rfl) (fun _ _ _ h => h) (Or.inl ⟨by kernel_rfl, ?_⟩) hS ?_
                            · intro V hV
                              exact exec_eqS rfl rfl V (eq_nums (a := ((A ^ (M - 2)) % M)) (b := ((A % M) ^ (M - 2) % M)) (Nat.pow_mod A _ M) (Nat.lt_trans (Nat.mod_lt _ HFM.out.pos) HMF.out.lt) V)
                            simp only [put_list, List.set_cons_succ, List.set_cons_zero]
                            refine wpAnyH_takeL (i := 90) (v := ?_) rfl (by kernel_rfl) (by kernel_rfl) (by kernel_rfl) (fun _ _ _ h => h) (Or.inl ⟨by kernel_rfl, ?_⟩) hS ?_
                            rotate_left
                            · intro V hV
                              go_simp
                              (try with_reducible rfl)
                            simp only [put_list, List.set_cons_succ, List.set_cons_zero]
                            refine wpAnyH_takeL (i := 91) (v := ?_) rfl (by kernel_rfl) (by kernel_rfl) (by kernel_rfl) (fun _ _ _ h => h) (Or.inl ⟨by kernel_rfl, ?_⟩) hS ?_
                            rotate_left
                            · intro V hV
                              go_simp
                              (try with_reducible rfl)
                            simp only [put_list, List.set_cons_succ, List.set_cons_zero]
                            refine wpAnyH_takeL (i := 92) (v := ?_) rfl (by kernel_rfl) (by kernel_rfl) (by kernel_rfl) (fun _ _ _ h => h) (Or.inl ⟨by kernel_rfl, ?_⟩) hS ?_
                            rotate_left
                            · intro V hV
                              go_simp
                              (try with_reducible rfl)
                            simp only [put_list, List.set_cons_succ, List.set_cons_zero]
                            refine wpAnyH_takeL (i := 93) (v := ?_) rfl (by kernel_rfl) (by kernel_rfl) (by kernel_rfl) (fun _ _ _ h => h) (Or.inl ⟨by kernel_rfl, ?_⟩) hS ?_
                            rotate_left
                            · intro V hV
                              go_simp
                              (try with_reducible rfl)
                            simp only [put_list, List.set_cons_succ, List.set_cons_zero]
                            refine wpAnyH_takeL (i := 94) (v := ?_) rfl (by kernel_rfl) (by kernel_rfl) (by kernel_rfl) (fun _ _ _ h => h) (Or.inl ⟨by kernel_rfl, ?_⟩) hS ?_
                            rotate_left
                            · intro V hV
                              go_simp
                              (try with_reducible rfl)
                            simp only [put_list, List.set_cons_succ, List.set_cons_zero]
                            refine wpAnyH_takeL (i := 95) (v := ?_) rfl (by kernel_rfl) (by kernel_rfl) (by kernel_rfl) (fun _ _ _ h => h) (Or.inl ⟨by kernel_rfl, ?_⟩) hS ?_
                            rotate_left
                            · intro V hV
                              go_simp
                              (try with_reducible rfl)
                            simp only [put_list, List.set_cons_succ, List.set_cons_zero]
                            refine wpAnyH_takeL (i := 96) (v := ?_) rfl (by kernel_rfl) (by kernel_rfl) (by kernel_rfl) (fun _ _ _ h => h) (Or.inl ⟨by kernel_rfl, ?_⟩) hS ?_
                            rotate_left
                            · intro V hV
                              go_simp
                              (try with_reducible rfl)
                            simp only [put_list, List.set_cons_succ, List.set_cons_zero]
                            as_aux_lemma =>
                              refine wpAnyH_takeL (i := 97) (v := ?_) rfl (by kernel_rfl) (by kernel_rfl) (by kernel_rfl) (fun _ _ _ h => h) (Or.inl ⟨by kernel_rfl, ?_⟩) hS ?_
                              rotate_left
                              · intro V hV
                                go_simp
                                (try with_reducible rfl)
                              simp only [put_list, List.set_cons_succ, List.set_cons_zero]
                              refine wpAnyH_takeL (i := 98) (v := .agg (cs (limb (el M Yr)))) rfl (by kernel_rfl) (by kernel_rfl) (by kernel_rfl) (fun _ _ _ h => h) (yieldsIf_load_mid (by kernel_rfl) 29 _ rfl (B3) (0) rfl (cs (limb (el M Yr))).toList _ (fun V hV => rangeOf ((hV.block _ (lt_of_block HT1.out)).trans HT1.out)) under rfl (info _)) hS ?_
                              simp only [put_list, List.set_cons_succ, List.set_cons_zero]
                              refine wpAnyH_takeL (i := 100) (v := ?_) rfl (by kernel_rfl) (by kernel_rfl) (by kernel_rfl) (fun _ _ _ h => h) (Or.inl ⟨by kernel_rfl, ?_⟩) hS ?_
                              rotate_left
                              · intro V hV
                                go_simp
                                (try with_reducible rfl)
                              simp only [put_list, List.set_cons_succ, List.set_cons_zero]
                              refine wpAnyH_ready (rs := [99]) (by kernel_rfl) (by simp) (AllReadyH.cons rfl (fun K hK => ?_) AllReadyH.nil)
                              go_simp
                              refine (out_any (HG.out.below hS) Yr).mono ?_
                              rintro r y36 ⟨rfl, hb⟩
                              refine hK.out _ _ (hS.trans (hb.mono hS.size)) (fun hS2 => ?_)
                              clear hS
                              have hS := hS2
                              clear hS2
                              clear hb
                              clear hK K
                              refine wpAnyH_ready (rs := [101]) (by kernel_rfl) (by simp) (AllReadyH.cons rfl (fun K hK => ?_) AllReadyH.nil)
                              go_simp
                              refine (arrL_any _ _ _ (Hvw.out.moved hS)).mono ?_
                              rintro r y37 ⟨rfl, hb⟩
                              refine hK.out _ _ (hS.trans (hb.mono hS.size)) (fun hS2 => ?_)
                              clear hS
                              have hS := hS2
                              clear hS2
                              clear hb
                              clear hK K
                              refine wpAnyH_takeL (i := 102) (v := .bool true) rfl (by kernel_rfl) (by kernel_rfl) (by kernel_rfl) (fun _ _ _ h => h) (Or.inl ⟨by kernel_rfl, ?_⟩) hS ?_
                              · intro V hV
                                exact exec_eqS rfl rfl V (eq_nums (a := (Yr % M)) (b := rootD M (A % M)) (HYR.out) (by rw [← HYR.out]; exact Nat.lt_trans (Nat.mod_lt _ HFM.out.pos) HMF.out.lt) V)
                              simp only [put_list, List.set_cons_succ, List.set_cons_zero]
                              refine wpAnyH_takeL (i := 103) (v := ?_) rfl (by kernel_rfl) (by kernel_rfl) (by kernel_rfl) (fun _ _ _ h => h) (Or.inl ⟨by kernel_rfl, ?_⟩) hS ?_
                              rotate_left
                              · intro V hV
                                go_simp
                                (try with_reducible rfl)
                              simp only [put_list, List.set_cons_succ, List.set_cons_zero]
                              refine wpAnyH_ready (rs := [104]) (by kernel_rfl) (by simp) (AllReadyH.cons rfl (fun K hK => ?_) AllReadyH.nil)
                              go_simp
                              refine hK.out _ _ hS (fun hS => ?_)
                              clear hK K
                              refine wpAnyH_done (by kernel_rfl) ?_ _
                              (try simp only [put_none])
                              have HF := hideP (HBW.out.trans (hS.mono HBW.out.size))
                              clear hS
                              go_wp2
                              go_ret
                              exact ⟨rfl, HF.out⟩
end Go.Proofs.Ytiekipkmfopdoaa.W6
