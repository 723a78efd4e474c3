/-
  Roots.
-/
import Derived.Test.YtiekipkmfopdoaaMeth24
namespace Go.Proofs.Ytiekipkmfopdoaa.W4
open Go.RowKit Go.Shelf

theorem eq_el (x y : Int) (W : World) : (Op.equalIn 9999 23 (.int .u64 x) (.int .u64 y)).run Try.prog W = .ok (x == y) W := by
  unfold Op.equalIn
  simp [go_sem]

theorem eq_lits (a0 a1 a2 a3 b0 b1 b2 b3 : Int) (W : World) : (Op.equalIn 10000 24 (.agg #[.int .u64 a0, .int .u64 a1, .int .u64 a2, .int .u64 a3]) (.agg #[.int .u64 b0, .int .u64 b1, .int .u64 b2, .int .u64 b3])).run Try.prog W = .ok (a0 == b0 && (a1 == b1 && (a2 == b2 && (a3 == b3)))) W := by
  unfold Op.equalIn
  simp [go_sem, List.range', eq_el]
  by_cases h0 : a0 = b0 <;> by_cases h1 : a1 = b1 <;> by_cases h2 : a2 = b2 <;> by_cases h3 : a3 = b3 <;> simp [go_sem, h0, h1, h2, h3]

theorem eq_wv {X Y : Nat} (hX : X < R) (hY : Y < R) (W : World) : (Op.equalIn 10000 24 (wv X) (wv Y)).run Try.prog W = .ok (decide (X = Y)) W := by
  refine (eq_lits (limb X 0 : Int) (limb X 1 : Int) (limb X 2 : Int) (limb X 3 : Int) (limb Y 0 : Int) (limb Y 1 : Int) (limb Y 2 : Int) (limb Y 3 : Int) W).trans ?_
  congr 1
  rw [Bool.eq_iff_iff, decide_eq_true_eq]
  simp only [Bool.and_eq_true, beq_iff_eq]
  constructor
  · rintro ⟨h0, h1, h2, h3⟩
    rw [← val_limbs hX, ← val_limbs hY]
    refine val_congr _ (fun j hj => ?_)
    match j, hj with
    | 0, _ => omega
    | 1, _ => omega
    | 2, _ => omega
    | 3, _ => omega
    | k + 4, h => exact absurd h (by omega)
  · rintro rfl
    exact ⟨rfl, rfl, rfl, rfl⟩

theorem endPairT {P : Program} {fn : Func} {R : Ending → World → Prop} {K : Act → World → Prop} {a : Act} {w : World} {id L R0 i j k c ty ty1 ty2 ty3 : Nat} {C : Array Value} {v : Value} {d : TypeDesc} {pos1 pos2 pos3 aft1 aft2 aft3} (hf : fn.results = #[.cell j ty, .tmp c]) (hi : a.eval (.tmp i) = .pointer (some ⟨L, 0, none⟩)) (hj : a.eval (.tmp j) = .pointer (some ⟨R0, 0, none⟩)) (hjk : k ≠ j) (hjc : c ≠ j) (hk : k < a.tmps.size) (hcs : c < a.tmps.size) (hd : a.defers = [])
    (hu : P.underlying ty = some d) (hr : d.isRow = true) (hs : (P.info? ty).map (·.size) = some C.size) (h1 : C.all (·.oneCell') = true)
    (hL : w.rangeAt L 0 C.toList) (hR : w.there R0 0 C.size) (h : ∀ wS, But R0 w wS → R (.returned (.tuple #[.agg C, v])) wS) :
    ((Code.region id #[{ dst := some k, op := .load ty (.tmp i), type := ty1, pos := pos1, after := aft1, guard := none }, { dst := none, op := .store ty (.tmp j) (.tmp k), type := ty2, pos := pos2, after := aft2, guard := none }, { dst := some c, op := .assign (.const v), type := ty3, pos := pos3, after := aft3, guard := none }] false).seq .ret).wp P (Exit.then K (bodyPost P fn R)) a w :=
  endPairQ (fun _ _ h => h) hf hi hj hjk hjc hk hcs hd hu hr hs h1 hL hR h

set_option maxRecDepth 100000 in
theorem exec_neq {ev : Operand → Value} {d : Option Nat} {x y : Operand} {A B : Array Value} {b : Bool} {ty' : Nat} {pos aft g} (hx : ev x = .agg A) (hy : ev y = .agg B) (W : World) (h : (Op.equalIn 10000 24 (.agg A) (.agg B)).run Try.prog W = .ok b W) :
    (execOp ev { dst := d, op := Op.binOp BinOp.neq 24 x y 24, type := ty', pos := pos, after := aft, guard := g }).run Try.prog W = .ok (.value (.bool (!b))) W := by
  unfold execOp
  simp only [hx, hy]
  have hg : (eqGuard BinOp.neq 24 x y (.agg A) (.agg B)).run Try.prog W = .ok () W := by
    unfold eqGuard
    simp [go_sem]
  simp [go_sem, hg]
  rw [h]
  rfl

/-- What Root answers. -/
def rootN (m X : Nat) : Nat := if el m (X ^ ((m + 1) / 4) * X ^ ((m + 1) / 4)) = el m X then el m (X ^ ((m + 1) / 4)) else 0
def rootB (m X : Nat) : Bool := decide (el m (X ^ ((m + 1) / 4) * X ^ ((m + 1) / 4)) = el m X)

theorem cs_zero : cs (limb 0) = cs (fun _ => 0) := cs_congr (fun j _ => by simp [limb])

set_option maxHeartbeats 8000000 in
set_option maxRecDepth 100000 in
theorem root_any {p m : Nat} {w : World} (hgood : Good w p m) (X : Nat) : Calls Try.prog 33 #[.pointer (some ⟨p, 0, none⟩), wv (el m X)] w fun r w' => r = .returned (.tuple #[wv (rootN m X), .bool (rootB m X)]) ∧ Below w.heap.size w w' := by
  have hp := hgood.lt
  obtain ⟨f, hMF, hr⟩ := hgood.ex
  have HIS := hideP (fun w (hr : RingAt w p m f (el m 1) (el m R)) => isMade_good hr hMF)
  have HMF := hideP hMF
  have HR := hideP hr
  have HQ := hideP (fun w => quarter_any m hMF.lt hMF.odd w)
  have hmR := hMF.lt
  have HM2 : Hid ((m + 1) / 4 < R) := (by omega : (m + 1) / 4 < R)
  have HEQ : Hid (∀ W, (Op.equalIn 10000 24 (wv (el m (X ^ ((m + 1) / 4) * X ^ ((m + 1) / 4)))) (wv (el m X))).run Try.prog W = .ok (rootB m X) W) := fun W => eq_wv (el_ltR hMF _) (el_ltR hMF _) W
  have HRES : Hid (wv (rootN m X) = if rootB m X = true then wv (el m (X ^ ((m + 1) / 4))) else .agg (cs (fun _ => 0))) := by
    show _ = _
    unfold rootN rootB
    by_cases h : el m (X ^ ((m + 1) / 4) * X ^ ((m + 1) / 4)) = el m X
    · rw [if_pos h, if_pos (by simpa using h)]
    · rw [if_neg h, if_neg (by simpa using h)]
      unfold wv
      rw [cs_zero]
  clear hr hMF hgood hmR
  generalize rootB m X = ok at *
  generalize (wv (rootN m X)) = res at *
  unfold wv at HQ HEQ HRES ⊢
  rw [show cs (limb (el m X)) = #[.int .u64 (limb (el m X) 0), .int .u64 (limb (el m X) 1), .int .u64 (limb (el m X) 2), .int .u64 (limb (el m X) 3)] from rfl]
  go_enter Try.func33, Try.ntmps33
  refine wp_seqH (fun K0 HK0 => ?_)
  go_wp2_with fail
  refine HK0.out _ _ ?_
  clear HK0 K0
  refine at_world (fun W0 hW0 => ?_)
  have hA : W0.heap[w.heap.size]? = some (.cells (cs (limb (el m X))) 24 (0, 0)) := by
    rw [hW0]
    exact (heap_old _ _ (by simp)).trans (heap_new _ _)
  have hD : W0.heap[w.heap.size + 1]? = some (.cells (cs (fun _ => 0)) 24 (0, 0)) := by
    rw [hW0]
    exact heap_new1 _ _ _
  have HBW : Hid (Below w.heap.size w W0) := by
    show Below _ _ _
    rw [hW0]
    repeat first | exact Below.refl _ _ | (refine Below.alloc ?_ (by simp <;> omega) _)
  clear hW0
  have HR0 := hideP (HR.out.belowN hp HBW.out)
  have HA := hideP hA
  have HD := hideP hD
  clear HR hA hD
  have nR : w.heap.size ≤ w.heap.size + 1 := by omega
  generalize hRR : w.heap.size + 1 = R0 at *
  refine wp_seqH (fun K1 HK1 => ?_)
  refine wp_seqH (fun K2 HK2 => ?_)
  go_wp2_with (go_at_call 76; refine (HIS.out _ HR0.out).mono ?_; rintro e w' ⟨rfl, rfl⟩)
  refine HK2.out _ _ ?_
  clear HK2 K2
  refine wp_cond_false rfl (wp_skip ?_)
  refine HK1.out _ _ ?_
  clear HK1 K1
  refine wp_seqH (fun K3 HK3 => ?_)
  have HREST : Hid (∀ (b1 : Nat) (v : Value) (w5 : World), Below W0.heap.size W0 w5 → W0.heap.size ≤ b1 → w5.heap[b1]? = some (.cells (cs (limb (el m (X ^ ((m + 1) / 4))))) 24 (0, 0)) →
      K3 { tmps := #[.pointer (some ⟨p, 0, none⟩), .agg #[.int .u64 (limb (el m X) 0), .int .u64 (limb (el m X) 1), .int .u64 (limb (el m X) 2), .int .u64 (limb (el m X) 3)], undef, .pointer (some ⟨w.heap.size, 0, none⟩), .pointer (some ⟨R0, 0, none⟩), .bool false, .pointer (some ⟨b1, 0, none⟩), .pointer (some ⟨p, 0, none⟩), .bool true, .bool false, undef, .pointer (some ⟨p, 0, none⟩), .agg (cs (limb (el m X))), .pointer (some ⟨p, 0, none⟩), .pointer (some ⟨p, 0, none⟩), .pointer (some ⟨p, 0, none⟩), .agg (cs (limb m)), .agg (cs (limb ((m + 1) / 4))), v, .agg (cs (limb (el m (X ^ ((m + 1) / 4))))), undef, undef, undef, undef, undef, undef, undef, undef], defers := [] } w5) := by
    intro b1 v w5 hS l1 g1
    have HRx := hideP (HR0.out.below hS)
    have HAx := hideP ((hS.block _ (lt_of_block HA.out)).trans HA.out)
    have HDx := hideP ((hS.block _ (lt_of_block HD.out)).trans HD.out)
    have HGx := hideP g1
    have HBx := hideP hS
    clear g1 hS l1
    refine HK3.out _ _ ?_
    refine wp_seqH (fun K4 HK4 => ?_)
    refine wp_seqH (fun K5 HK5 => ?_)
    have HC := hideP (mult_el HRx.out.drew HMF.out (X ^ ((m + 1) / 4)) (X ^ ((m + 1) / 4)))
    unfold wv at HC
    refine wp_region_heldS (S := fun V => Below w5.heap.size w5 V) (by kernel_rfl) ((Below.refl _ _).drew) (fun hS => ?_)
    refine wpAnyH_takeL (i := 0) (v := ?_) rfl (by kernel_rfl) (by kernel_rfl) (by kernel_rfl) (fun _ _ _ h => h) (Or.inl ⟨by kernel_rfl, ?_⟩) hS ?_
    rotate_left
    · intro V hV
      go_simp
      (try with_reducible rfl)
    simp only [put_list, List.set_cons_succ, List.set_cons_zero]
    refine wpAnyH_takeL (i := 1) (v := .agg (cs (limb (el m (X ^ ((m + 1) / 4)))))) rfl (by kernel_rfl) (by kernel_rfl) (by kernel_rfl) (fun _ _ _ h => h) (yieldsIf_load_mid (by kernel_rfl) 24 _ rfl (b1) (0) rfl (cs (limb (el m (X ^ ((m + 1) / 4))))).toList _ (fun V hV => rangeOf ((hV.block _ (lt_of_block HGx.out)).trans HGx.out)) under rfl (info _)) hS ?_
    simp only [put_list, List.set_cons_succ, List.set_cons_zero]
    refine wpAnyH_takeL (i := 2) (v := .agg (cs (limb (el m (X ^ ((m + 1) / 4)))))) rfl (by kernel_rfl) (by kernel_rfl) (by kernel_rfl) (fun _ _ _ h => h) (yieldsIf_load_mid (by kernel_rfl) 24 _ rfl (b1) (0) rfl (cs (limb (el m (X ^ ((m + 1) / 4))))).toList _ (fun V hV => rangeOf ((hV.block _ (lt_of_block HGx.out)).trans HGx.out)) under rfl (info _)) hS ?_
    simp only [put_list, List.set_cons_succ, List.set_cons_zero]
    refine wpAnyH_takeL (i := 4) (v := .agg (cs (limb (el m X)))) rfl (by kernel_rfl) (by kernel_rfl) (by kernel_rfl) (fun _ _ _ h => h) (yieldsIf_load_mid (by kernel_rfl) 24 _ rfl (w.heap.size) (0) rfl (cs (limb (el m X))).toList _ (fun V hV => rangeOf ((hV.block _ (lt_of_block HAx.out)).trans HAx.out)) under rfl (info _)) hS ?_
    simp only [put_list, List.set_cons_succ, List.set_cons_zero]
    refine wpAnyH_ready (rs := [3]) (by kernel_rfl) (by simp) (AllReadyH.cons rfl (fun K hK => ?_) AllReadyH.nil)
    go_simp
    refine HC.out.mono ?_
    rintro e w6 ⟨rfl, hbc⟩
    refine hK.out _ _ (hS.trans (hbc.mono hS.size)) (fun hS => ?_)
    clear hK K
    clear hbc
    have heq := HEQ.out
    generalize cs (limb (el m (X ^ ((m + 1) / 4) * X ^ ((m + 1) / 4)))) = CA at heq ⊢
    generalize cs (limb (el m X)) = CB at heq ⊢
    refine wpAnyH_takeL (i := 5) (v := .bool (!ok)) rfl (by kernel_rfl) (by kernel_rfl) (by kernel_rfl) (fun _ _ _ h => h) (Or.inl ⟨by kernel_rfl, ?_⟩) hS ?_
    · intro V hV
      exact exec_neq rfl rfl V (heq V)
    simp only [put_list, List.set_cons_succ, List.set_cons_zero]
    refine wpAnyH_done (by kernel_rfl) ?_ _
    (try simp only [put_none])
    refine HK5.out _ _ ?_
    have HD6 := hideP ((hS.block _ (lt_of_block HDx.out)).trans HDx.out)
    have HG6 := hideP ((hS.block _ (lt_of_block HGx.out)).trans HGx.out)
    have HB6 := hideP (HBW.out.trans ((HBx.out.mono HBW.out.size).trans (hS.mono (Nat.le_trans HBW.out.size HBx.out.size))))
    clear hS heq
    cases ok with
    | true =>
      refine wp_cond_false rfl (wp_skip ?_)
      refine HK4.out _ _ ?_
      refine endPairQ (fun _ _ h => h) rfl rfl rfl (by decide) (by decide) (by show 27 < 28; decide) (by show 5 < 28; decide) rfl under rfl (info _) (one _) (rangeOf HG6.out) (there_cs HD6.out _) ?_
      intro wS hBut
      exact ⟨by rw [HRES.out]; rfl, HB6.out.trans (hBut.below.mono nR)⟩
    | false =>
      refine wp_cond_true rfl ?_
      refine endPairT rfl rfl rfl (by decide) (by decide) (by show 26 < 28; decide) (by show 5 < 28; decide) rfl under rfl (info _) (one _) (rangeOf HD6.out) (there_cs HD6.out _) ?_
      intro wS hBut
      exact ⟨by rw [HRES.out]; rfl, HB6.out.trans (hBut.below.mono nR)⟩
  clear HK3
  refine wp_region_heldS (S := fun V => Below W0.heap.size W0 V) (by kernel_rfl) ((Below.refl _ _).drew) (fun hS => ?_)
  refine wpAnyH_takeL (i := 0) (v := ?_) rfl (by kernel_rfl) (by kernel_rfl) (by kernel_rfl) (fun _ _ _ h => h) (Or.inl ⟨by kernel_rfl, ?_⟩) hS ?_
  rotate_left
  · intro V hV
    go_simp
    (try with_reducible rfl)
  simp only [put_list, List.set_cons_succ, List.set_cons_zero]
  refine wpAnyH_takeL (i := 1) (v := .agg (cs (limb (el m X)))) rfl (by kernel_rfl) (by kernel_rfl) (by kernel_rfl) (fun _ _ _ h => h) (yieldsIf_load_mid (by kernel_rfl) 24 _ rfl (w.heap.size) (0) rfl (cs (limb (el m X))).toList _ (fun V hV => rangeOf ((hV.block _ (lt_of_block HA.out)).trans HA.out)) under rfl (info _)) hS ?_
  simp only [put_list, List.set_cons_succ, List.set_cons_zero]
  refine wpAnyH_takeL (i := 2) (v := ?_) rfl (by kernel_rfl) (by kernel_rfl) (by kernel_rfl) (fun _ _ _ h => h) (Or.inl ⟨by kernel_rfl, ?_⟩) hS ?_
  rotate_left
  · intro V hV
    go_simp
    (try with_reducible rfl)
  simp only [put_list, List.set_cons_succ, List.set_cons_zero]
  refine wpAnyH_takeL (i := 3) (v := ?_) rfl (by kernel_rfl) (by kernel_rfl) (by kernel_rfl) (fun _ _ _ h => h) (Or.inl ⟨by kernel_rfl, ?_⟩) hS ?_
  rotate_left
  · intro V hV
    go_simp
    (try with_reducible rfl)
  simp only [put_list, List.set_cons_succ, List.set_cons_zero]
  refine wpAnyH_takeL (i := 4) (v := ?_) rfl (by kernel_rfl) (by kernel_rfl) (by kernel_rfl) (fun _ _ _ h => h) (Or.inl ⟨by kernel_rfl, ?_⟩) hS ?_
  rotate_left
  · intro V hV
    go_simp
    (try with_reducible rfl)
  simp only [put_list, List.set_cons_succ, List.set_cons_zero]
  refine wpAnyH_takeL (i := 5) (v := .agg (cs (limb m))) rfl (by kernel_rfl) (by kernel_rfl) (by kernel_rfl) (fun _ _ _ h => h) (yieldsIf_load_mid (by kernel_rfl) 24 _ rfl (p) (0) rfl (cs (limb m)).toList _ (fun V hV => (HR0.out.below hV).mod) under rfl (info _)) hS ?_
  simp only [put_list, List.set_cons_succ, List.set_cons_zero]
  refine wpAnyH_ready (rs := [6, 9]) (by kernel_rfl) (by simp) (AllReadyH.cons rfl (fun K hK => ?_) (AllReadyH.cons rfl (fun K hK => ?_) AllReadyH.nil))
  · go_simp
    refine (HQ.out _).mono ?_
    rintro e x1 ⟨rfl, hbc⟩
    refine hK.out _ _ (hS.trans (hbc.mono hS.size)) (fun hS2 => ?_)
    clear hK K hbc hS
    have hS := hS2
    clear hS2
    refine wpAnyH_ready (rs := [7, 9]) (by kernel_rfl) (by simp) (AllReadyH.cons rfl (fun K hK => ?_) (AllReadyH.cons rfl (fun K hK => ?_) AllReadyH.nil))
    · go_simp
      refine (words_any ((m + 1) / 4) _).mono ?_
      rintro e x2 ⟨⟨v, rfl, hU⟩, hbc⟩
      refine hK.out _ _ (hS.trans (hbc.mono hS.size)) (fun hS2 => ?_)
      clear hK K hbc hS
      have hS := hS2
      clear hS2
      refine wpAnyH_ready (rs := [8, 9]) (by kernel_rfl) (by simp) (AllReadyH.cons rfl (fun K hK => ?_) (AllReadyH.cons rfl (fun K hK => ?_) AllReadyH.nil))
      · go_simp
        have HC := hideP (raise_any (HR0.out.below hS) HMF.out X v _ _ hU)
        rw [val_limbs HM2.out] at HC
        unfold wv at HC
        refine (HC.out).mono ?_
        rintro e x3 ⟨rfl, hbc⟩
        clear HC hU
        refine hK.out _ _ (hS.trans (hbc.mono hS.size)) (fun hS2 => ?_)
        clear hK K hbc hS
        have hS := hS2
        clear hS2
        refine wpAnyH_ready (rs := [9]) (by kernel_rfl) (by simp) (AllReadyH.cons rfl (fun K hK => ?_) AllReadyH.nil)
        go_simp
        refine hK.out _ _ (hS.alloc hS.size _) (fun hS2 => ?_)
        clear hK K
        refine at_worldH (fun x4 hw2 => ?_)
        have h1 : x4.heap[x3.heap.size]? = some (.cells (cs (fun _ => 0)) 24 (0, 0)) := by rw [hw2]; exact heap_new _ _
        have l1 : W0.heap.size ≤ x3.heap.size := hS.size
        rw [← hw2] at hS2
        have hbx : Below x3.heap.size x3 x4 := by rw [hw2]; first | exact (Below.refl _ _).alloc (Nat.le_refl _) _ | exact ((Below.refl _ _).alloc (Nat.le_refl _) _).drew
        (try replace hU := hU.below hbx)
        clear hw2 hS hbx
        have hS := hS2
        clear hS2
        refine wpAnyH_ready (rs := [10]) (by kernel_rfl) (by simp) (AllReadyH.cons rfl (fun K hK => ?_) AllReadyH.nil)
        refine ite_wp (by kernel_rfl) ?_
        refine wp_store_midN 24 (.tmp 6) (.tmp 19) rfl rfl (x3.heap.size) 0 (cs (limb (el m (X ^ ((m + 1) / 4))))) rfl rfl (there_cs h1 _) (info _) (one _) ?_
        have g1 := blk_sets (cs (limb (el m (X ^ ((m + 1) / 4))))).toList 0 h1
        rw [putAll_cs] at g1
        have hB1 := But.sets (cs (limb (el m (X ^ ((m + 1) / 4))))).toList 0 (But.refl (x3.heap.size) x4)
        have hSB := hS.trans (hB1.below.mono l1)
        clear h1 hB1
        generalize x4.setCells (x3.heap.size) 0 (cs (limb (el m (X ^ ((m + 1) / 4))))).toList = w5 at g1 hSB ⊢
        refine hK.out _ _ hSB (fun hS => ?_)
        clear hK K hSB
        refine wpAnyH_done (by kernel_rfl) ?_ _
        (try simp only [put_none])
        exact HREST.out _ _ _ hS l1 g1
      · go_simp
        refine hK.out _ _ (hS.alloc hS.size _) (fun hS2 => ?_)
        clear hK K
        refine at_worldH (fun x5 hw2 => ?_)
        have h1 : x5.heap[x2.heap.size]? = some (.cells (cs (fun _ => 0)) 24 (0, 0)) := by rw [hw2]; exact heap_new _ _
        have l1 : W0.heap.size ≤ x2.heap.size := hS.size
        rw [← hw2] at hS2
        have hbx : Below x2.heap.size x2 x5 := by rw [hw2]; first | exact (Below.refl _ _).alloc (Nat.le_refl _) _ | exact ((Below.refl _ _).alloc (Nat.le_refl _) _).drew
        (try replace hU := hU.below hbx)
        clear hw2 hS hbx
        have hS := hS2
        clear hS2
        refine wpAnyH_ready (rs := [8]) (by kernel_rfl) (by simp) (AllReadyH.cons rfl (fun K hK => ?_) AllReadyH.nil)
        go_simp
        have HC := hideP (raise_any (HR0.out.below hS) HMF.out X v _ _ hU)
        rw [val_limbs HM2.out] at HC
        unfold wv at HC
        refine (HC.out).mono ?_
        rintro e x6 ⟨rfl, hbc⟩
        have h2 := (hbc.block _ (lt_of_block h1)).trans h1
        clear HC hU
        refine hK.out _ _ (hS.trans (hbc.mono hS.size)) (fun hS2 => ?_)
        clear hK K hbc hS
        have hS := hS2
        clear hS2
        clear h1
        have h1 := h2
        clear h2
        refine wpAnyH_ready (rs := [10]) (by kernel_rfl) (by simp) (AllReadyH.cons rfl (fun K hK => ?_) AllReadyH.nil)
        refine ite_wp (by kernel_rfl) ?_
        refine wp_store_midN 24 (.tmp 6) (.tmp 19) rfl rfl (x2.heap.size) 0 (cs (limb (el m (X ^ ((m + 1) / 4))))) rfl rfl (there_cs h1 _) (info _) (one _) ?_
        have g1 := blk_sets (cs (limb (el m (X ^ ((m + 1) / 4))))).toList 0 h1
        rw [putAll_cs] at g1
        have hB1 := But.sets (cs (limb (el m (X ^ ((m + 1) / 4))))).toList 0 (But.refl (x2.heap.size) x6)
        have hSB := hS.trans (hB1.below.mono l1)
        clear h1 hB1
        generalize x6.setCells (x2.heap.size) 0 (cs (limb (el m (X ^ ((m + 1) / 4))))).toList = w5 at g1 hSB ⊢
        refine hK.out _ _ hSB (fun hS => ?_)
        clear hK K hSB
        refine wpAnyH_done (by kernel_rfl) ?_ _
        (try simp only [put_none])
        exact HREST.out _ _ _ hS l1 g1
    · go_simp
      refine hK.out _ _ (hS.alloc hS.size _) (fun hS2 => ?_)
      clear hK K
      refine at_worldH (fun x7 hw2 => ?_)
      have h1 : x7.heap[x1.heap.size]? = some (.cells (cs (fun _ => 0)) 24 (0, 0)) := by rw [hw2]; exact heap_new _ _
      have l1 : W0.heap.size ≤ x1.heap.size := hS.size
      rw [← hw2] at hS2
      have hbx : Below x1.heap.size x1 x7 := by rw [hw2]; first | exact (Below.refl _ _).alloc (Nat.le_refl _) _ | exact ((Below.refl _ _).alloc (Nat.le_refl _) _).drew
      (try replace hU := hU.below hbx)
      clear hw2 hS hbx
      have hS := hS2
      clear hS2
      refine wpAnyH_ready (rs := [7]) (by kernel_rfl) (by simp) (AllReadyH.cons rfl (fun K hK => ?_) AllReadyH.nil)
      go_simp
      refine (words_any ((m + 1) / 4) _).mono ?_
      rintro e x8 ⟨⟨v, rfl, hU⟩, hbc⟩
      have h2 := (hbc.block _ (lt_of_block h1)).trans h1
      refine hK.out _ _ (hS.trans (hbc.mono hS.size)) (fun hS2 => ?_)
      clear hK K hbc hS
      have hS := hS2
      clear hS2
      clear h1
      have h1 := h2
      clear h2
      refine wpAnyH_ready (rs := [8]) (by kernel_rfl) (by simp) (AllReadyH.cons rfl (fun K hK => ?_) AllReadyH.nil)
      go_simp
      have HC := hideP (raise_any (HR0.out.below hS) HMF.out X v _ _ hU)
      rw [val_limbs HM2.out] at HC
      unfold wv at HC
      refine (HC.out).mono ?_
      rintro e x9 ⟨rfl, hbc⟩
      have h2 := (hbc.block _ (lt_of_block h1)).trans h1
      clear HC hU
      refine hK.out _ _ (hS.trans (hbc.mono hS.size)) (fun hS2 => ?_)
      clear hK K hbc hS
      have hS := hS2
      clear hS2
      clear h1
      have h1 := h2
      clear h2
      refine wpAnyH_ready (rs := [10]) (by kernel_rfl) (by simp) (AllReadyH.cons rfl (fun K hK => ?_) AllReadyH.nil)
      refine ite_wp (by kernel_rfl) ?_
      refine wp_store_midN 24 (.tmp 6) (.tmp 19) rfl rfl (x1.heap.size) 0 (cs (limb (el m (X ^ ((m + 1) / 4))))) rfl rfl (there_cs h1 _) (info _) (one _) ?_
      have g1 := blk_sets (cs (limb (el m (X ^ ((m + 1) / 4))))).toList 0 h1
      rw [putAll_cs] at g1
      have hB1 := But.sets (cs (limb (el m (X ^ ((m + 1) / 4))))).toList 0 (But.refl (x1.heap.size) x9)
      have hSB := hS.trans (hB1.below.mono l1)
      clear h1 hB1
      generalize x9.setCells (x1.heap.size) 0 (cs (limb (el m (X ^ ((m + 1) / 4))))).toList = w5 at g1 hSB ⊢
      refine hK.out _ _ hSB (fun hS => ?_)
      clear hK K hSB
      refine wpAnyH_done (by kernel_rfl) ?_ _
      (try simp only [put_none])
      exact HREST.out _ _ _ hS l1 g1
  · go_simp
    refine hK.out _ _ (hS.alloc hS.size _) (fun hS2 => ?_)
    clear hK K
    refine at_worldH (fun x10 hw2 => ?_)
    have h1 : x10.heap[W0.heap.size]? = some (.cells (cs (fun _ => 0)) 24 (0, 0)) := by rw [hw2]; exact heap_new _ _
    have l1 : W0.heap.size ≤ W0.heap.size := hS.size
    rw [← hw2] at hS2
    have hbx : Below W0.heap.size W0 x10 := by rw [hw2]; first | exact (Below.refl _ _).alloc (Nat.le_refl _) _ | exact ((Below.refl _ _).alloc (Nat.le_refl _) _).drew
    (try replace hU := hU.below hbx)
    clear hw2 hS hbx
    have hS := hS2
    clear hS2
    refine wpAnyH_ready (rs := [6]) (by kernel_rfl) (by simp) (AllReadyH.cons rfl (fun K hK => ?_) AllReadyH.nil)
    go_simp
    refine (HQ.out _).mono ?_
    rintro e x11 ⟨rfl, hbc⟩
    have h2 := (hbc.block _ (lt_of_block h1)).trans h1
    refine hK.out _ _ (hS.trans (hbc.mono hS.size)) (fun hS2 => ?_)
    clear hK K hbc hS
    have hS := hS2
    clear hS2
    clear h1
    have h1 := h2
    clear h2
    refine wpAnyH_ready (rs := [7]) (by kernel_rfl) (by simp) (AllReadyH.cons rfl (fun K hK => ?_) AllReadyH.nil)
    go_simp
    refine (words_any ((m + 1) / 4) _).mono ?_
    rintro e x12 ⟨⟨v, rfl, hU⟩, hbc⟩
    have h2 := (hbc.block _ (lt_of_block h1)).trans h1
    refine hK.out _ _ (hS.trans (hbc.mono hS.size)) (fun hS2 => ?_)
    clear hK K hbc hS
    have hS := hS2
    clear hS2
    clear h1
    have h1 := h2
    clear h2
    refine wpAnyH_ready (rs := [8]) (by kernel_rfl) (by simp) (AllReadyH.cons rfl (fun K hK => ?_) AllReadyH.nil)
    go_simp
    have HC := hideP (raise_any (HR0.out.below hS) HMF.out X v _ _ hU)
    rw [val_limbs HM2.out] at HC
    unfold wv at HC
    refine (HC.out).mono ?_
    rintro e x13 ⟨rfl, hbc⟩
    have h2 := (hbc.block _ (lt_of_block h1)).trans h1
    clear HC hU
    refine hK.out _ _ (hS.trans (hbc.mono hS.size)) (fun hS2 => ?_)
    clear hK K hbc hS
    have hS := hS2
    clear hS2
    clear h1
    have h1 := h2
    clear h2
    refine wpAnyH_ready (rs := [10]) (by kernel_rfl) (by simp) (AllReadyH.cons rfl (fun K hK => ?_) AllReadyH.nil)
    refine ite_wp (by kernel_rfl) ?_
    refine wp_store_midN 24 (.tmp 6) (.tmp 19) rfl rfl (W0.heap.size) 0 (cs (limb (el m (X ^ ((m + 1) / 4))))) rfl rfl (there_cs h1 _) (info _) (one _) ?_
    have g1 := blk_sets (cs (limb (el m (X ^ ((m + 1) / 4))))).toList 0 h1
    rw [putAll_cs] at g1
    have hB1 := But.sets (cs (limb (el m (X ^ ((m + 1) / 4))))).toList 0 (But.refl (W0.heap.size) x13)
    have hSB := hS.trans (hB1.below.mono l1)
    clear h1 hB1
    generalize x13.setCells (W0.heap.size) 0 (cs (limb (el m (X ^ ((m + 1) / 4))))).toList = w5 at g1 hSB ⊢
    refine hK.out _ _ hSB (fun hS => ?_)
    clear hK K hSB
    refine wpAnyH_done (by kernel_rfl) ?_ _
    (try simp only [put_none])
    exact HREST.out _ _ _ hS l1 g1

end Go.Proofs.Ytiekipkmfopdoaa.W4
