/-
  The document's texts of words.
-/
import Derived.Test.YtpnijncoldihfaaTextsC40
import Derived.Test.YtpnijncoldihfaaTextsC41
namespace Go.Proofs.Ytpnijncoldihfaa
open Go.RowKit Go.Shelf

set_option maxHeartbeats 4000000 in
set_option maxRecDepth 100000 in
theorem refValue_any (c : Nat) (hc : c < 256) (w : World) : Calls Try.prog 116 #[.int .u8 c] w fun e w' => e = .returned (.int .u64 (digV c)) ∧ w = w' := by
  rcases (show c < 48 ∨ (48 ≤ c ∧ c ≤ 57) ∨ (57 < c ∧ c < 65) ∨ (65 ≤ c ∧ c ≤ 70) ∨ (70 < c ∧ c < 97) ∨ (97 ≤ c ∧ c ≤ 102) ∨ 102 < c by omega) with h | h | h | h | h | h | h
  · have a0 : ¬ (48 : Int) ≤ (c : Int) := by omega
    have a1 : (c : Int) ≤ 57 := by omega
    have a2 : ¬ (97 : Int) ≤ (c : Int) := by omega
    have a3 : (c : Int) ≤ 102 := by omega
    have a4 : ¬ (65 : Int) ≤ (c : Int) := by omega
    have a5 : (c : Int) ≤ 70 := by omega
    have hv : digV c = 16 := by unfold digV; rw [if_neg (by omega), if_neg (by omega), if_neg (by omega)]
    rw [hv]
    clear hv
    go_enter Try.func116, Try.ntmps116
    go_wp2
    go_ret
    exact ⟨rfl, rfl⟩
  · have a0 : (48 : Int) ≤ (c : Int) := by omega
    have a1 : (c : Int) ≤ 57 := by omega
    have a2 : ¬ (97 : Int) ≤ (c : Int) := by omega
    have a3 : (c : Int) ≤ 102 := by omega
    have a4 : ¬ (65 : Int) ≤ (c : Int) := by omega
    have a5 : (c : Int) ≤ 70 := by omega
    have e1 : IntKind.u8.wrap ((c : Int) - 48) = ((c - 48 : Nat) : Int) := by rw [IntKind.wrap_u8]; omega
    have e2 : IntKind.u64.wrap ((c - 48 : Nat) : Int) = ((c - 48 : Nat) : Int) := by rw [IntKind.wrap_u64]; omega
    have hv : digV c = c - 48 := by unfold digV; rw [if_pos (by omega)]
    rw [hv]
    clear hv
    generalize c - 48 = d at *
    go_enter Try.func116, Try.ntmps116
    go_wp2
    go_ret
    exact ⟨rfl, rfl⟩
  · have a0 : (48 : Int) ≤ (c : Int) := by omega
    have a1 : ¬ (c : Int) ≤ 57 := by omega
    have a2 : ¬ (97 : Int) ≤ (c : Int) := by omega
    have a3 : (c : Int) ≤ 102 := by omega
    have a4 : ¬ (65 : Int) ≤ (c : Int) := by omega
    have a5 : (c : Int) ≤ 70 := by omega
    have hv : digV c = 16 := by unfold digV; rw [if_neg (by omega), if_neg (by omega), if_neg (by omega)]
    rw [hv]
    clear hv
    go_enter Try.func116, Try.ntmps116
    go_wp2
    go_ret
    exact ⟨rfl, rfl⟩
  · have a0 : (48 : Int) ≤ (c : Int) := by omega
    have a1 : ¬ (c : Int) ≤ 57 := by omega
    have a2 : ¬ (97 : Int) ≤ (c : Int) := by omega
    have a3 : (c : Int) ≤ 102 := by omega
    have a4 : (65 : Int) ≤ (c : Int) := by omega
    have a5 : (c : Int) ≤ 70 := by omega
    have e1 : IntKind.u8.wrap ((c : Int) - 65) = ((c - 65 : Nat) : Int) := by rw [IntKind.wrap_u8]; omega
    have e2 : IntKind.u64.wrap ((c - 65 : Nat) : Int) = ((c - 65 : Nat) : Int) := by rw [IntKind.wrap_u64]; omega
    have e3 : IntKind.u64.wrap (((c - 65 : Nat) : Int) + 10) = ((c - 65 + 10 : Nat) : Int) := by rw [IntKind.wrap_u64]; omega
    have hv : digV c = c - 65 + 10 := by unfold digV; rw [if_neg (by omega), if_neg (by omega), if_pos (by omega)]
    rw [hv]
    clear hv
    generalize c - 65 = d at *
    go_enter Try.func116, Try.ntmps116
    go_wp2
    go_ret
    exact ⟨rfl, rfl⟩
  · have a0 : (48 : Int) ≤ (c : Int) := by omega
    have a1 : ¬ (c : Int) ≤ 57 := by omega
    have a2 : ¬ (97 : Int) ≤ (c : Int) := by omega
    have a3 : (c : Int) ≤ 102 := by omega
    have a4 : (65 : Int) ≤ (c : Int) := by omega
    have a5 : ¬ (c : Int) ≤ 70 := by omega
    have hv : digV c = 16 := by unfold digV; rw [if_neg (by omega), if_neg (by omega), if_neg (by omega)]
    rw [hv]
    clear hv
    go_enter Try.func116, Try.ntmps116
    go_wp2
    go_ret
    exact ⟨rfl, rfl⟩
  · have a0 : (48 : Int) ≤ (c : Int) := by omega
    have a1 : ¬ (c : Int) ≤ 57 := by omega
    have a2 : (97 : Int) ≤ (c : Int) := by omega
    have a3 : (c : Int) ≤ 102 := by omega
    have a4 : (65 : Int) ≤ (c : Int) := by omega
    have a5 : ¬ (c : Int) ≤ 70 := by omega
    have e1 : IntKind.u8.wrap ((c : Int) - 97) = ((c - 97 : Nat) : Int) := by rw [IntKind.wrap_u8]; omega
    have e2 : IntKind.u64.wrap ((c - 97 : Nat) : Int) = ((c - 97 : Nat) : Int) := by rw [IntKind.wrap_u64]; omega
    have e3 : IntKind.u64.wrap (((c - 97 : Nat) : Int) + 10) = ((c - 97 + 10 : Nat) : Int) := by rw [IntKind.wrap_u64]; omega
    have hv : digV c = c - 97 + 10 := by unfold digV; rw [if_neg (by omega), if_pos (by omega)]
    rw [hv]
    clear hv
    generalize c - 97 = d at *
    go_enter Try.func116, Try.ntmps116
    go_wp2
    go_ret
    exact ⟨rfl, rfl⟩
  · have a0 : (48 : Int) ≤ (c : Int) := by omega
    have a1 : ¬ (c : Int) ≤ 57 := by omega
    have a2 : (97 : Int) ≤ (c : Int) := by omega
    have a3 : ¬ (c : Int) ≤ 102 := by omega
    have a4 : (65 : Int) ≤ (c : Int) := by omega
    have a5 : ¬ (c : Int) ≤ 70 := by omega
    have hv : digV c = 16 := by unfold digV; rw [if_neg (by omega), if_neg (by omega), if_neg (by omega)]
    rw [hv]
    clear hv
    go_enter Try.func116, Try.ntmps116
    go_wp2
    go_ret
    exact ⟨rfl, rfl⟩

set_option maxRecDepth 100000 in
theorem slice_hex {d : Nat} (hd : d < 16) (W : World) : (Instr.sliceAt 9 (.string ⟨#[48, 49, 50, 51, 52, 53, 54, 55, 56, 57, 97, 98, 99, 100, 101, 102]⟩) (some (.int .u64 (d : Int))) (some (.int .u64 ((d : Int) + 1))) none).run Try.prog W = .ok (.string (⟨#[UInt8.ofNat (hexd d)]⟩)) W := by
  match d, hd with
  | 0, _ => rfl
  | 1, _ => rfl
  | 2, _ => rfl
  | 3, _ => rfl
  | 4, _ => rfl
  | 5, _ => rfl
  | 6, _ => rfl
  | 7, _ => rfl
  | 8, _ => rfl
  | 9, _ => rfl
  | 10, _ => rfl
  | 11, _ => rfl
  | 12, _ => rfl
  | 13, _ => rfl
  | 14, _ => rfl
  | 15, _ => rfl
  | k + 16, h => exact absurd h (by omega)

set_option maxHeartbeats 1000000 in
set_option maxRecDepth 100000 in
theorem refDigit_any (d : Nat) (hd : d < 16) (w : World) : Calls Try.prog 126 #[.int .u64 d] w fun e w' => e = .returned (.string ⟨#[UInt8.ofNat (hexd d)]⟩) ∧ Below w.heap.size w w' := by
  have hsl := fun W => slice_hex hd W
  have e1 : IntKind.u64.wrap ((d : Int) + 1) = (d : Int) + 1 := by rw [IntKind.wrap_u64]; omega
  generalize UInt8.ofNat (hexd d) = c at *
  clear hd
  go_enter Try.func126, Try.ntmps126
  go_wp2_with fail
  go_ret
  exact ⟨rfl, Below.refl _ _⟩

/-- One digit more. -/
theorem strD_succ (b X k : Nat) : (⟨#[UInt8.ofNat (hexd (X / b ^ k % b))]⟩ : ByteArray) ++ strD b X k = strD b X (k + 1) := by
  apply ByteArray.ext
  rw [ByteArray.data_append]
  unfold strD
  apply Array.ext'
  rw [List.range_succ_eq_map]
  simp only [Array.toList_append, List.map_cons, List.map_map, List.cons_append, List.nil_append, List.cons.injEq]
  refine ⟨by unfold digB; rw [Nat.add_sub_cancel, Nat.sub_zero], ?_⟩
  refine List.map_congr_left (fun j hj => ?_)
  have := List.mem_range.1 hj
  simp only [Function.comp]
  unfold digB
  rw [show k + 1 - 1 - j.succ = k - 1 - j by omega]

/-- How long a text is. -/
def strLen : Value → Nat
  | .string t => t.size
  | _ => 0

/-- Where the text has come to. -/
structure TI (w wr : World) (N : Nat) : Prop where
  x : wr.heap[w.heap.size]? = some (.cells (c4 (limb N)) 23 (0, 0))
  b : Below w.heap.size w wr

theorem TI.move {w wr V : World} {N : Nat} (I : TI w wr N) (hb : Below wr.heap.size wr V) : TI w V N :=
  ⟨(hb.block _ (lt_of_block I.x)).trans I.x, I.b.trans (hb.mono I.b.size)⟩

theorem TI.put {w wr : World} {N : Nat} (I : TI w wr N) (M : Nat) : TI w (wr.setCells w.heap.size 0 (c4 (limb M)).toList) M := by
  have h := blk_sets (c4 (limb M)).toList 0 I.x
  rw [putAll4] at h
  exact ⟨h, I.b.trans ((But.sets _ _ (But.refl w.heap.size wr)).below)⟩

theorem c4_form {N : Nat} {v0 v1 v2 v3 : Int} (hv : wv N = .agg #[.int .u64 v0, .int .u64 v1, .int .u64 v2, .int .u64 v3]) : c4 (limb N) = #[.int .u64 v0, .int .u64 v1, .int .u64 v2, .int .u64 v3] := by
  have h := wv_c4 N
  rw [hv] at h
  injection h with h
  exact h.symm

set_option maxHeartbeats 16000000 in
set_option maxRecDepth 100000 in
theorem refText_any (X b : Nat) (hX : X < M256) (hb : b = 10 ∨ b = 16) (w : World) : Calls Try.prog 118 #[wv X, .int .u64 b] w fun e w' => (∃ n, n ≤ 78 ∧ ND b X n ∧ e = .returned (.string (strD b X n))) ∧ Below w.heap.size w w' := by
  have hb16 : b ≤ 16 := by omega
  have hb10 : 10 ≤ b := by omega
  have HXM := hideP hX
  have HB16 := hideP hb16
  have HB10 := hideP hb10
  have HE : Hid (TI w (w.alloc (.cells (c4 (limb X)) 23 (0, 0))) X) := ⟨heap_new _ _, (Below.refl _ w).alloc (Nat.le_refl _) _⟩
  rw [wv_c4]
  clear hX hb hb16 hb10
  go_enter Try.func118, Try.ntmps118
  go_wp2_with fail
  generalize w.alloc (.cells (c4 (limb X)) 23 (0, 0)) = W2 at HE ⊢
  go_loopw [5] (fun s wr => ∃ (k : Nat), k ≤ 78 ∧ s = .string (strD b X k) ∧ (0 < k → X / b ^ k ≠ 0) ∧ TI w wr (X / b ^ k)) (fun s _ => 78 - strLen s)
  case atStart => exact ⟨0, Nat.zero_le _, rfl, fun h => absurd h (by omega), by rw [Nat.pow_zero, Nat.div_one]; exact HE.out⟩
  case round =>
    obtain ⟨k, hk, rfl, hnz, I⟩ := hrel
    have HI := hideP I
    have HNZ := hideP hnz
    clear I HE hnz
    by_cases hlt : k < 78
    · have HN : Hid (k < 78) := hlt
      have hb16 := HB16.out
      have hb10 := HB10.out
      have hQM : X / b ^ k < M256 := Nat.lt_of_le_of_lt (Nat.div_le_self _ _) HXM.out
      have hR16 : X / b ^ k % b < 16 := Nat.lt_of_lt_of_le (Nat.mod_lt _ (by omega)) hb16
      have hQe : X / b ^ k / b = X / b ^ (k + 1) := by rw [Nat.div_div_eq_div_mul, Nat.pow_succ]
      have hQM' : X / b ^ (k + 1) < M256 := Nat.lt_of_le_of_lt (Nat.div_le_self _ _) HXM.out
      have co := fun W => refOf_any b (by omega) W
      have cm := fun W => refMod_any (X / b ^ k) b W
      have cv := fun W => refDiv_any (X / b ^ k) b W
      have cz := fun W => zero_any (X / b ^ (k + 1)) W
      have cg := fun W => refDigit_any (X / b ^ k % b) hR16 W
      have hstr := strD_succ b X k
      have hbM : b % M256 = b := Nat.mod_eq_of_lt (Nat.lt_of_le_of_lt hb16 (by decide))
      have hrest : restN (X / b ^ k) b = X / b ^ k % b := by unfold restN; rw [if_neg (by omega)]
      rw [hbM, Nat.mod_eq_of_lt hQM, hrest, wv_c4 (X / b ^ k % b)] at cm
      rw [hbM, Nat.mod_eq_of_lt hQM, hQe, wv_c4 (X / b ^ (k + 1))] at cv
      rw [Nat.mod_eq_of_lt hQM'] at cz
      obtain ⟨y0, y1, y2, y3, hy⟩ := wv_form b
      obtain ⟨v0, v1, v2, v3, hv⟩ := wv_form (X / b ^ k)
      obtain ⟨q0, q1, q2, q3, hq⟩ := wv_form (X / b ^ (k + 1))
      simp only [hy, hv] at co cm cv
      simp only [hq] at cz
      have HCV := hideP (c4_form hv)
      have HCQ := hideP (c4_form hq)
      have hxx := HI.out.x
      rw [HCV.out] at hxx
      obtain ⟨cx0, cx1, cx2, cx3⟩ := cells4 hxx
      have hlx := lt_of_block hxx
      have hR0 : limb (X / b ^ k % b) 0 = X / b ^ k % b := by
        unfold limb
        rw [Nat.pow_zero, Nat.div_one, Nat.mod_eq_of_lt (by omega)]
      have HR0 := hideP hR0
      have hsz1 : ¬ 9223372036854775807 < 1 + (strD b X k).size := by rw [strD_size]; omega
      have hlen : (strD b X k).size = k := strD_size b X k
      have hlen' : (strD b X (k + 1)).size = k + 1 := strD_size b X (k + 1)
      have HLEN := hideP hlen
      have HLEN' := hideP hlen'
      have CO := hideP co
      have CM := hideP cm
      have CV := hideP cv
      have CZ := hideP cz
      have CG := hideP cg
      have HSTR := hideP hstr
      clear co cm cv cz cg hstr hy hv hq hxx hbM hrest hQe hR16 hQM hQM' hlt hk hb16 hb10 hR0 hlen hlen'
      generalize hsN : strD b X (k + 1) = sN at *
      have HSN := hideP hsN
      clear hsN
      generalize strD b X k = sK at *
      generalize X / b ^ k % b = rd at *
      generalize UInt8.ofNat (hexd rd) = cd at *
      go_wp2_with fail
      refine wp_region_heldS (S := fun V => Below wr.heap.size wr V) (by kernel_rfl) (Below.refl _ _).drew (fun hS => ?_)
      refine wpAnyH_takeL (i := 0) (v := ?_) rfl (by kernel_rfl) (by kernel_rfl) (by kernel_rfl) (fun _ _ _ h => h) (Or.inl ⟨by kernel_rfl, ?_⟩) hS ?_
      rotate_left
      · intro V hV
        have k0 := (hV.cell (p := ⟨w.heap.size, 0, none⟩) hlx).trans cx0
        have k1 := (hV.cell (p := ⟨w.heap.size, 1, none⟩) hlx).trans cx1
        have k2 := (hV.cell (p := ⟨w.heap.size, 2, none⟩) hlx).trans cx2
        have k3 := (hV.cell (p := ⟨w.heap.size, 3, none⟩) hlx).trans cx3
        go_simp
        (try with_reducible rfl)
      simp only [put_list, List.set_cons_succ, List.set_cons_zero]
      refine wpAnyH_takeL (i := 1) (v := ?_) rfl (by kernel_rfl) (by kernel_rfl) (by kernel_rfl) (fun _ _ _ h => h) (Or.inl ⟨by kernel_rfl, ?_⟩) hS ?_
      rotate_left
      · intro V hV
        go_simp
        (try with_reducible rfl)
      simp only [put_list, List.set_cons_succ, List.set_cons_zero]
      clear cx0 cx1 cx2 cx3 hlx
      refine regionO (r := 1) 2 (fun k => match k with | 0 => 2 | _ => 3) (fun k => match k with | 0 => 9 | _ => 10) (fun k => match k with | 0 => .agg #[.int .u64 y0, .int .u64 y1, .int .u64 y2, .int .u64 y3] | _ => .agg (c4 (limb rd))) (fun i p => #[true, true, decide (1 ≤ i), decide (2 ≤ i), p, false] : Nat → Bool → Array Bool) #[.int .u64 0, .int .u64 0, .int .u64 0, .int .u64 0] 23 4 6 (by kernel_rfl) (by decide) (by kernel_rfl) hS ?_ ?_ ?_
      · intro i hi T w2 K hT hK
        match i, hi with
        | 0, _ =>
          have t0 : T[8]? = some (.int .u64 b) := hT 8 (by decide)
          refine wpOp_stepT (i := 2) rfl (fun K' hK' => ?_)
          have HK' := hideP hK'
          have HK9 := hideP hK
          clear hK hK' hT
          go_simp
          refine (CO.out _).mono ?_
          rintro e w3 ⟨rfl, hb⟩
          exact HK'.out _ _ (HK9.out w3 hb)
        | 1, _ =>
          have t0 : T[7]? = some (.agg #[.int .u64 v0, .int .u64 v1, .int .u64 v2, .int .u64 v3]) := hT 7 (by decide)
          have t1 : T[9]? = some (.agg #[.int .u64 y0, .int .u64 y1, .int .u64 y2, .int .u64 y3]) := hT 9 (by decide)
          refine wpOp_stepT (i := 3) rfl (fun K' hK' => ?_)
          have HK' := hideP hK'
          have HK9 := hideP hK
          clear hK hK' hT
          go_simp
          refine (CM.out _).mono ?_
          rintro e w3 ⟨rfl, hb⟩
          exact HK'.out _ _ (HK9.out w3 hb)
        | k' + 2, h => exact absurd h (by omega)
      · intro T w2 K hK
        refine wpOp_stepT rfl (fun K' hK' => ?_)
        have HK' := hideP hK'
        have HK9 := hideP hK
        clear hK hK'
        go_simp
        exact HK'.out _ _ HK9.out
      intro w2 b1 hS l1 h1
      simp only [TC, List.set_cons_succ, List.set_cons_zero]
      rw [zero4] at h1
      refine wpAnyH_ready (rs := [5]) (by kernel_rfl) (by simp) (AllReadyH.cons rfl (fun K hK => ?_) AllReadyH.nil)
      rw [if_pos (by kernel_rfl)]
      refine wp_store_mid 23 (.tmp 6) (.tmp 10) rfl b1 0 (c4 (limb rd)) rfl rfl (there4 h1) size23 (oneCell4 _) ?_
      have g1 := blk_sets (c4 (limb rd)).toList 0 h1
      rw [putAll4] at g1
      have hB1 := But.sets (c4 (limb rd)).toList 0 (But.refl b1 w2)
      have hSB := hS.trans (hB1.below.mono l1)
      clear h1 hB1
      generalize w2.setCells b1 0 (c4 (limb rd)).toList = w3 at g1 hSB ⊢
      refine hK.out _ _ hSB (fun hS => ?_)
      clear hK K hSB
      refine wpAnyH_done (by kernel_rfl) ?_ _
      have HI3 := hideP (HI.out.move hS)
      have cr0 := blk_cell g1 (cget4 (limb rd) (show 0 < 4 by decide))
      rw [HR0.out] at cr0
      clear hS l1 g1 HI
      (try simp only [put_none])
      go_wp2_with fail
      refine (CG.out _).mono ?_
      rintro e w4 ⟨rfl, hb4⟩
      have HI4 := hideP (HI3.out.move hb4)
      clear hb4 cr0 HI3 CG
      have hsz2 : (⟨#[cd]⟩ : ByteArray).size = 1 := rfl
      go_wp2_with fail
      refine wp_region_heldS (S := fun V => Below w.heap.size w V) (by kernel_rfl) HI4.out.b.drew (fun hS => ?_)
      refine wpAnyH_takeL (i := 1) (v := ?_) rfl (by kernel_rfl) (by kernel_rfl) (by kernel_rfl) (fun _ _ _ h => h) (Or.inl ⟨by kernel_rfl, ?_⟩) hS ?_
      rotate_left
      · intro V hV
        go_simp
        (try with_reducible rfl)
      simp only [put_list, List.set_cons_succ, List.set_cons_zero]
      refine wpAnyH_pair (i := 0) (j := 2) (r := 2) 16 18 (.agg #[.int .u64 v0, .int .u64 v1, .int .u64 v2, .int .u64 v3]) (.agg #[.int .u64 y0, .int .u64 y1, .int .u64 y2, .int .u64 y3]) (by kernel_rfl) (by kernel_rfl) (by kernel_rfl) (by decide) (by decide) (fun w' hb => HI4.out.b.drew.trans (hb.mono HI4.out.b.drew.size)) ?_ ?_ ?_
      · intro T w' K hT hb hK
        have hxx := (hb.block _ (lt_of_block (show w4.drew.heap[w.heap.size]? = _ from HI4.out.x))).trans (show w4.drew.heap[w.heap.size]? = _ from HI4.out.x)
        rw [HCV.out] at hxx
        have HK' := hideP hK
        clear hK
        rcases hT with rfl | rfl
        · simp only [List.set_cons_succ, List.set_cons_zero] at HK' ⊢
          refine wpOp_stepT rfl (fun K' hK' => ?_)
          have HKK := hideP hK'
          clear hK'
          rw [if_pos (by kernel_rfl)]
          refine wp_load_mid 23 _ rfl w.heap.size 0 rfl [.int .u64 v0, .int .u64 v1, .int .u64 v2, .int .u64 v3] _ (rangeOf hxx) under23 rfl size23 ?_
          exact HKK.out _ _ HK'.out
        · simp only [List.set_cons_succ, List.set_cons_zero] at HK' ⊢
          refine wpOp_stepT rfl (fun K' hK' => ?_)
          have HKK := hideP hK'
          clear hK'
          rw [if_pos (by kernel_rfl)]
          refine wp_load_mid 23 _ rfl w.heap.size 0 rfl [.int .u64 v0, .int .u64 v1, .int .u64 v2, .int .u64 v3] _ (rangeOf hxx) under23 rfl size23 ?_
          exact HKK.out _ _ HK'.out
      · intro T w' K hT hb hK
        have HK' := hideP hK
        clear hK
        rcases hT with rfl | rfl
        · simp only [List.set_cons_succ, List.set_cons_zero] at HK' ⊢
          refine wpOp_stepT rfl (fun K' hK' => ?_)
          have HKK := hideP hK'
          clear hK'
          go_simp
          refine (CO.out _).mono ?_
          rintro e w3 ⟨rfl, hb'⟩
          exact HKK.out _ _ (HK'.out w3 hb')
        · simp only [List.set_cons_succ, List.set_cons_zero] at HK' ⊢
          refine wpOp_stepT rfl (fun K' hK' => ?_)
          have HKK := hideP hK'
          clear hK'
          go_simp
          refine (CO.out _).mono ?_
          rintro e w3 ⟨rfl, hb'⟩
          exact HKK.out _ _ (HK'.out w3 hb')
      intro w5 hb5
      have HI5 : Hid (TI w w5 (X / b ^ k)) := TI.move (wr := w4.drew) ⟨HI4.out.x, HI4.out.b.drew⟩ hb5
      clear hb5 HI4 hS CO
      simp only [List.set_cons_succ, List.set_cons_zero]
      refine wpAnyH_ready (rs := [3]) (by kernel_rfl) (by simp) (AllReadyH.cons rfl (fun K hK => ?_) AllReadyH.nil)
      rw [if_pos (by kernel_rfl)]
      have HKX := hideP hK
      clear hK
      go_simp
      refine (CV.out _).mono ?_
      rintro e w6 ⟨rfl, hb6⟩
      have HI6 := hideP (HI5.out.move hb6)
      clear hb6 HI5
      refine HKX.out.out _ _ HI6.out.b (fun hS => ?_)
      clear HKX K hS
      refine wpAnyH_ready (rs := [4]) (by kernel_rfl) (by simp) (AllReadyH.cons rfl (fun K hK => ?_) AllReadyH.nil)
      rw [if_pos (by kernel_rfl)]
      refine wp_store_mid 23 _ _ rfl w.heap.size 0 (c4 (limb (X / b ^ (k + 1)))) rfl rfl (there4 HI6.out.x) size23 (oneCell4 _) ?_
      have HI7 := hideP (HI6.out.put (X / b ^ (k + 1)))
      clear HI6
      generalize w6.setCells w.heap.size 0 (c4 (limb (X / b ^ (k + 1)))).toList = w7 at HI7 ⊢
      refine hK.out _ _ HI7.out.b (fun hS => ?_)
      clear hK K hS
      refine wpAnyH_done (by kernel_rfl) ?_ _
      (try simp only [put_none])
      have hxx := HI7.out.x
      rw [HCQ.out] at hxx
      obtain ⟨cx0, cx1, cx2, cx3⟩ := cells4 hxx
      clear hxx
      go_wp2_with fail
      refine (CZ.out _).mono ?_
      rintro e w8 ⟨rfl, hb8⟩
      have HI8 := hideP (HI7.out.move hb8)
      clear hb8 cx0 cx1 cx2 cx3 HI7
      by_cases hQ : X / b ^ (k + 1) = 0
      · rw [decide_eq_true hQ]
        have HND : Hid (ND b X (k + 1)) := by
          have hb10 := HB10.out
          refine ⟨by omega, ?_, fun h => ?_⟩
          · rcases Nat.lt_or_ge X (b ^ (k + 1)) with h | h
            · exact h
            · have := Nat.div_pos h (Nat.pow_pos (by omega))
              omega
          · rw [Nat.add_sub_cancel]
            rcases Nat.lt_or_ge X (b ^ k) with h' | h'
            · exact absurd (Nat.div_eq_of_lt h') (HNZ.out (by omega))
            · exact h'
        clear hQ
        go_wp2_with fail
        go_ret
        exact ⟨⟨k + 1, HN.out, HND.out, by rw [HSTR.out, ← HSN.out]; rfl⟩, HI8.out.b⟩
      · rw [decide_eq_false hQ]
        have HQ := hideP hQ
        clear hQ
        go_wp2_with fail
        have hn78 := HN.out
        refine ⟨⟨k + 1, HN.out, by rw [HSTR.out, ← HSN.out], fun _ => HQ.out, HI8.out⟩, ?_⟩
        rw [HSTR.out]
        show 78 - sN.size < 78 - sK.size
        rw [HLEN.out, HLEN'.out]
        omega
    · have hk6 : k = 78 := by omega
      subst hk6
      exact absurd (word_digits HB10.out HXM.out) (HNZ.out (by omega))

set_option maxHeartbeats 1000000 in
set_option maxRecDepth 100000 in
theorem refHex_any (X : Nat) (hX : X < M256) (w : World) : Calls Try.prog 77 #[wv X] w fun e w' => (∃ n, ND 16 X n ∧ e = .returned (.string (hexT X n))) ∧ Below w.heap.size w w' := by
  have h := fun W => refText_any X 16 hX (Or.inr rfl) W
  obtain ⟨x0, x1, x2, x3, hx⟩ := wv_form X
  simp only [hx] at h ⊢
  have H := hideP h
  clear h hx
  go_enter Try.func77, Try.ntmps77
  go_wp2_with fail
  refine (H.out _).mono ?_
  rintro e w1 ⟨⟨n, h78, hn, rfl⟩, hb⟩
  have hsz : ¬ 9223372036854775807 < 2 + (strD 16 X n).size := by rw [strD_size]; omega
  have HB1 : Hid (Below w.heap.size w w1) := by
    first
      | exact ((Below.refl _ w).alloc (Nat.le_refl _) _).trans (hb.mono (by simp))
      | exact hb
  have HN := hideP hn
  clear hb hn h78
  go_wp2_with fail
  go_ret
  exact ⟨⟨n, HN.out, rfl⟩, HB1.out⟩

set_option maxHeartbeats 1000000 in
set_option maxRecDepth 100000 in
theorem refDec_any (X : Nat) (hX : X < M256) (w : World) : Calls Try.prog 79 #[wv X] w fun e w' => (∃ n, n ≤ 78 ∧ ND 10 X n ∧ e = .returned (.string (strD 10 X n))) ∧ Below w.heap.size w w' := by
  have h := fun W => refText_any X 10 hX (Or.inl rfl) W
  obtain ⟨x0, x1, x2, x3, hx⟩ := wv_form X
  simp only [hx] at h ⊢
  have H := hideP h
  clear h hx
  go_enter Try.func79, Try.ntmps79
  go_wp2_with fail
  refine (H.out _).mono ?_
  rintro e w1 ⟨⟨n, h78, hn, rfl⟩, hb⟩
  have HB1 : Hid (Below w.heap.size w w1) := by
    first
      | exact ((Below.refl _ w).alloc (Nat.le_refl _) _).trans (hb.mono (by simp))
      | exact hb
  have HN := hideP hn
  have H78 := hideP h78
  clear hb hn h78
  go_wp2_with fail
  go_ret
  exact ⟨⟨n, H78.out, HN.out, rfl⟩, HB1.out⟩

end Go.Proofs.Ytpnijncoldihfaa
