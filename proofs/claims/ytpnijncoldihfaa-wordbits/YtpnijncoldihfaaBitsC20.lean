/-
  Words in boxes as cells by their index; the document's bits of words.
-/
import Derived.Test.YtpnijncoldihfaaBitsC12
import Derived.Test.YtpnijncoldihfaaBitsC19
namespace Go.Proofs.Ytpnijncoldihfaa
open Go.RowKit Go.Shelf

/-- Four cells. -/
def c4 (g : Nat → Nat) : Array Value := #[.int .u64 (g 0), .int .u64 (g 1), .int .u64 (g 2), .int .u64 (g 3)]

theorem wv_c4 (X : Nat) : wv X = .agg (c4 (limb X)) := wv_limb X

theorem cget4 (g : Nat → Nat) {j : Nat} (h : j < 4) : (c4 g)[j]? = some (.int .u64 (g j)) := by
  match j, h with
  | 0, _ => rfl
  | 1, _ => rfl
  | 2, _ => rfl
  | 3, _ => rfl
  | k + 4, h => exact absurd h (by omega)

theorem cset4 (g : Nat → Nat) {j : Nat} (v : Nat) (h : j < 4) : (c4 g).setIfInBounds j (.int .u64 v) = c4 (fun i => if i = j then v else g i) := by
  match j, h with
  | 0, _ => rfl
  | 1, _ => rfl
  | 2, _ => rfl
  | 3, _ => rfl
  | k + 4, h => exact absurd h (by omega)

theorem under23 : Try.prog.underlying 23 = some (.array 4 22) := by kernel_rfl

theorem size23 : (Try.prog.info? 23).map (·.size) = some 4 := by kernel_rfl

theorem oneCell4 (g : Nat → Nat) : (c4 g).all (·.oneCell') = true := by simp [c4, Value.oneCell']

theorem zero4 : (#[.int .u64 0, .int .u64 0, .int .u64 0, .int .u64 0] : Array Value) = c4 (fun _ => 0) := rfl

theorem putAll4 (g' g : Nat → Nat) : putAll (c4 g') 0 (c4 g).toList = c4 g := by
  simp [c4, putAll]

theorem there4 {w : World} {b t : Nat} {g : Nat → Nat} (h : w.heap[b]? = some (.cells (c4 g) t (0, 0))) : w.there b 0 4 := thereOf h

set_option maxHeartbeats 2000000 in
set_option maxRecDepth 100000 in
theorem refBit_any (X i : Nat) (hi : i < 256) (w : World) : Calls Try.prog 107 #[wv X, .int .i64 i] w fun e w' => e = .returned (.int .u64 (bt X i)) ∧ Below w.heap.size w w' := by
  have cA := blk_cell (heap_new w (.cells (c4 (limb X)) 23 (0, 0))) (cget4 (limb X) (show i / 64 < 4 by omega))
  have hb : limb X (i / 64) / 2 ^ (i % 64) % 2 = bt X i := limb_bit X i
  have HB : Hid ((((limb X (i / 64) / 2 ^ (i % 64) % 2 : Nat)) : Int) = ((bt X i : Nat) : Int)) := by rw [hb]; show _ = _; rfl
  clear hb
  have e1 : ((i : Int)).tdiv 64 = ((i / 64 : Nat) : Int) := by rw [Int.tdiv_eq_ediv_of_nonneg (by omega)]; omega
  have e1' : IntKind.i64.wrap ((i / 64 : Nat) : Int) = ((i / 64 : Nat) : Int) := by rw [IntKind.wrap_i64]; omega
  have e2 : ((i : Int)).tmod 64 = ((i % 64 : Nat) : Int) := by rw [Int.tmod_eq_emod_of_nonneg (by omega)]; omega
  have e2' : IntKind.i64.wrap ((i % 64 : Nat) : Int) = ((i % 64 : Nat) : Int) := by rw [IntKind.wrap_i64]; omega
  have e3 : IntKind.u64.wrap ((i % 64 : Nat) : Int) = ((i % 64 : Nat) : Int) := by rw [IntKind.wrap_u64]; omega
  have g1 : ((i / 64 : Nat) : Int) < 4 := by omega
  have g2 : ((i % 64 : Nat) : Int) < 64 := by omega
  rw [wv_c4]
  generalize c4 (limb X) = ca at *
  generalize limb X (i / 64) = da at *
  generalize i / 64 = q at *
  generalize i % 64 = r at *
  clear hi
  go_enter Try.func107, Try.ntmps107
  go_wp2_with fail
  have hv : ((da : Int) / 2 ^ r).tmod 2 = ((da / 2 ^ r % 2 : Nat) : Int) := by
    have h : ((da : Int) / 2 ^ r) = ((da / 2 ^ r : Nat) : Int) := by simp
    rw [h, Int.tmod_eq_emod_of_nonneg (Int.natCast_nonneg _)]
    rfl
  go_ret
  exact ⟨by rw [hv, HB.out]; rfl, (Below.refl _ _).alloc (Nat.le_refl _) _⟩

set_option maxHeartbeats 2000000 in
set_option maxRecDepth 100000 in
theorem setBit_any (O i b : Nat) (hO : O < 2 ^ i) (hi : i < 256) (hb : b ≤ 1) (w : World) : Calls Try.prog 106 #[wv O, .int .i64 i, .int .u64 b] w fun e w' => e = .returned (wv (O + b * 2 ^ i)) ∧ Below w.heap.size w w' := by
  have hq4 : i / 64 < 4 := by omega
  have hbx : ((w.alloc (.cells (c4 (limb O)) 23 (0, 0))).alloc (.cells (c4 (fun _ => 0)) 23 (0, 0))).heap[w.heap.size]? = some (.cells (c4 (limb O)) 23 (0, 0)) := (heap_old _ _ (by simp)).trans (heap_new _ _)
  have hbr : ((w.alloc (.cells (c4 (limb O)) 23 (0, 0))).alloc (.cells (c4 (fun _ => 0)) 23 (0, 0))).heap[w.heap.size + 1]? = some (.cells (c4 (fun _ => 0)) 23 (0, 0)) := heap_new1 _ _ _
  have hlw : Below w.heap.size w ((w.alloc (.cells (c4 (limb O)) 23 (0, 0))).alloc (.cells (c4 (fun _ => 0)) 23 (0, 0))) := ((Below.refl _ w).alloc (Nat.le_refl _) _).alloc (by simp) _
  have hval : (fun j => if j = i / 64 then limb O (i / 64) + b * 2 ^ (i % 64) else limb O j) = limb (O + b * 2 ^ i) := by
    funext j
    rw [limb_add_bit O b i j hO hb]
    by_cases hj : j = i / 64
    · rw [if_pos hj, if_pos hj, hj]
    · rw [if_neg hj, if_neg hj]
  have hsum : limb O (i / 64) + b * 2 ^ (i % 64) < 18446744073709551616 := by
    have h := limb_add_bit O b i (i / 64) hO hb
    rw [if_pos rfl] at h
    rw [← h]
    exact limb_lt _ _
  have e1 : ((i : Int)).tdiv 64 = ((i / 64 : Nat) : Int) := by rw [Int.tdiv_eq_ediv_of_nonneg (by omega)]; omega
  have e1' : IntKind.i64.wrap ((i / 64 : Nat) : Int) = ((i / 64 : Nat) : Int) := by rw [IntKind.wrap_i64]; omega
  have e2 : ((i : Int)).tmod 64 = ((i % 64 : Nat) : Int) := by rw [Int.tmod_eq_emod_of_nonneg (by omega)]; omega
  have e2' : IntKind.i64.wrap ((i % 64 : Nat) : Int) = ((i % 64 : Nat) : Int) := by rw [IntKind.wrap_i64]; omega
  have e3 : IntKind.u64.wrap ((i % 64 : Nat) : Int) = ((i % 64 : Nat) : Int) := by rw [IntKind.wrap_u64]; omega
  have g1 : ((i / 64 : Nat) : Int) < 4 := by omega
  have g2 : ((i % 64 : Nat) : Int) < 64 := by omega
  have hp : (b : Int) * 2 ^ (i % 64) = ((b * 2 ^ (i % 64) : Nat) : Int) := by simp
  have e7 : IntKind.u64.wrap ((b : Int) * 2 ^ (i % 64)) = ((b * 2 ^ (i % 64) : Nat) : Int) := by rw [hp]; exact M64.wrapN _ (by omega)
  have e8 : IntKind.u64.wrap ((limb O (i / 64) : Int) + ((b * 2 ^ (i % 64) : Nat) : Int)) = ((limb O (i / 64) + b * 2 ^ (i % 64) : Nat) : Int) := by rw [← Int.natCast_add]; exact M64.wrapN _ (by omega)
  have cx := blk_cell hbx (cget4 (limb O) hq4)
  have fx : ∀ o, ((w.alloc (.cells (c4 (limb O)) 23 (0, 0))).alloc (.cells (c4 (fun _ => 0)) 23 (0, 0))).frozen? ⟨w.heap.size, o, none⟩ = false := fun o => blk_free hbx
  have HV := hideP hval
  have HX := hideP hbx
  have HR := hideP hbr
  have HW := hideP hlw
  have HQ := hideP hq4
  rw [wv_c4 O]
  clear hp hsum hval hbx hbr hlw hq4 hO hi hb
  generalize hres : wv (O + b * 2 ^ i) = res
  have HRES := hideP hres
  clear hres
  generalize limb O (i / 64) = da at *
  generalize i / 64 = q at *
  generalize hpw : b * 2 ^ (i % 64) = pw at *
  generalize i % 64 = r at *
  generalize da + pw = dp at *
  clear hpw
  generalize hco : c4 (limb O) = co at *
  have HCO := hideP hco
  clear hco
  rw [← zero4] at cx fx HX HR HW
  go_enter Try.func106, Try.ntmps106
  iterate 60 (first | go_values | go_skip | go_guarded | go_step)
  have hco : co.setIfInBounds q (.int .u64 (dp : Int)) = c4 (limb (O + b * 2 ^ i)) := by
    rw [← HCO.out, cset4 _ _ HQ.out, HV.out]
  rw [hco]
  clear hco HX HR HW cx fx e1 e1' e2 e2' e3 e7 e8 g1 g2 HV HQ HCO
  have hbx : ((w.alloc (.cells (c4 (limb (O + b * 2 ^ i))) 23 (0, 0))).alloc (.cells #[.int .u64 0, .int .u64 0, .int .u64 0, .int .u64 0] 23 (0, 0))).heap[w.heap.size]? = some (.cells (c4 (limb (O + b * 2 ^ i))) 23 (0, 0)) := (heap_old _ _ (by simp)).trans (heap_new _ _)
  have hbr : ((w.alloc (.cells (c4 (limb (O + b * 2 ^ i))) 23 (0, 0))).alloc (.cells #[.int .u64 0, .int .u64 0, .int .u64 0, .int .u64 0] 23 (0, 0))).heap[w.heap.size + 1]? = some (.cells (c4 (fun _ => 0)) 23 (0, 0)) := heap_new1 _ _ _
  have hlw : Below w.heap.size w ((w.alloc (.cells (c4 (limb (O + b * 2 ^ i))) 23 (0, 0))).alloc (.cells #[.int .u64 0, .int .u64 0, .int .u64 0, .int .u64 0] 23 (0, 0))) := ((Below.refl _ w).alloc (Nat.le_refl _) _).alloc (by simp) _
  generalize (w.alloc (.cells (c4 (limb (O + b * 2 ^ i))) 23 (0, 0))).alloc (.cells #[.int .u64 0, .int .u64 0, .int .u64 0, .int .u64 0] 23 (0, 0)) = w1 at hbx hbr hlw ⊢
  refine wp_region_list ?_
  refine wpList_load_mid rfl 23 _ rfl w.heap.size 0 rfl (c4 (limb (O + b * 2 ^ i))).toList _ (rangeOf hbx) under23 rfl size23 ?_
  refine wpList_store_mid rfl 23 _ _ rfl (w.heap.size + 1) 0 (c4 (limb (O + b * 2 ^ i))) rfl rfl (there4 hbr) size23 (oneCell4 _) ?_
  have hb2 := blk_sets (c4 (limb (O + b * 2 ^ i))).toList 0 hbr
  rw [putAll4] at hb2
  have HL := hideP (hlw.trans ((But.sets (c4 (limb (O + b * 2 ^ i))).toList 0 (But.refl (w.heap.size + 1) w1)).below.mono (by omega)))
  have HB2 := hideP hb2
  clear hbx hbr hlw hb2
  generalize w1.setCells (w.heap.size + 1) 0 (c4 (limb (O + b * 2 ^ i))).toList = w2 at HL HB2 ⊢
  refine wpList_nil ?_
  go_wp2_with fail
  exact bodyPost_ret_by (results_cell rfl rfl (run_loadVar_mid _ _ 0 23 (c4 (limb (O + b * 2 ^ i))).toList _ (rangeOf HB2.out) under23 rfl size23)) rfl ⟨by rw [← HRES.out, wv_c4], HL.out⟩

end Go.Proofs.Ytpnijncoldihfaa
