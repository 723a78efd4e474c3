/-
  Envelopes that are opened, by the program and by the document.
-/
import Derived.Test.YtigebmidfddbcaaEnvl
namespace Go.Proofs.Ytigebmidfddbcaa
open Go.RowKit Go.Shelf

set_option maxHeartbeats 4000000 in
set_option maxRecDepth 100000 in
theorem open_any {ao : Option Addr} {c : Nat} {b : List Nat} (hn : b.length ≤ 140737488355328) (w : World) (hB : BS w ao b.length c (lb b)) :
    Calls Try.prog 46 #[.slice ao b.length c] w fun e w' => (∃ ao' c', e = .returned (.tuple #[.int .u8 (opn b).1, .slice ao' (opn b).2.1.length c', .int .i64 (opn b).2.2]) ∧ BS w' ao' (opn b).2.1.length c' (lb (opn b).2.1)) ∧ Below w.heap.size w w' := by
  have hz : BS w none ([] : List Nat).length 0 (lb []) := BS.empty _ _ _ (fun j => by simp [lb])
  by_cases h0 : b.length = 0
  · have HO : Hid (opn b = (0, [], 41)) := hideP (by unfold opn; rw [if_pos h0])
    have HZ := hideP hz
    clear hB hn hz
    rw [h0]
    rw [HO.out]
    clear HO
    go_enter Try.func46, Try.ntmps46
    go_wp2_with fail
    refine bodyPost_ret (v := .tuple #[.int .u8 0, .slice none 0 0, .int .i64 41]) (by simp [results, Try.results46, go_sem]) rfl ?_
    exact ⟨⟨none, 0, rfl, HZ.out⟩, Below.refl _ _⟩
  · obtain ⟨ad, rfl, hc⟩ := hB.cell 0 (by omega)
    rw [show ad.add 0 = ad from rfl] at hc
    have had := World.block_lt_of_cell? _ _ hc
    have gz : ((b.length : Int) == 0) = false := beq_eq_false_iff_ne.2 (by omega)
    have gz' : ¬ (b.length : Int) = 0 := by omega
    have gp : (0 : Int) < (b.length : Int) := by omega
    have gp' : 0 < b.length := by omega
    have gp1 : (1 : Int) ≤ (b.length : Int) := by omega
    have gp1' : 1 ≤ b.length := by omega
    have gsub : ((b.length : Int) - 1).toNat = b.length - 1 := by omega
    have hop : opn b = if lb b 0 < 128 then (lb b 0, b.tail, 0) else if 192 ≤ lb b 0 then (0, b, 0) else (0, [], 45) := by unfold opn; rw [if_neg h0]
    have HZ := hideP hz
    clear hz h0
    by_cases h1 : lb b 0 < 128
    · rw [if_pos h1] at hop
      rw [hop]
      dsimp only
      have hB1 : BS w (if c = 1 then some ad else some ⟨ad.block, ad.off + 1, none⟩) (b.length - 1) (c - 1) (fun j => lb b (1 + j)) := hB.shift (l := 1) (by omega) (Nat.le_refl _)
      have htl : b.length - 1 = b.tail.length := by simp
      have hlb : ∀ j, j < b.tail.length → lb b (1 + j) = lb b.tail j := fun j hj => by
        cases b with
        | nil => simp at hj
        | cons x r => rw [Nat.add_comm]; rfl
      rw [htl] at hB1
      have hB1 : BS w (if c = 1 then some ad else some ⟨ad.block, ad.off + 1, none⟩) b.tail.length (c - 1) (lb b.tail) := hB1.congr (fun j => by
        cases b with
        | nil => simp [lb]
        | cons x r => exact hB.lt (j + 1)) (fun j hj => (hlb j hj).symm)
      have g1 : (lb b 0 : Int) < 128 := by omega
      generalize hx : lb b 0 = x at *
      have HB1 := hideP hB1
      have htn : b.tail.length ≤ 140737488355328 := by omega
      have HTN := hideP htn
      clear hB hn hlb hB1 h1 hop hx htn
      generalize b.tail = bt at *
      generalize hbt : bt.length = nt at *
      generalize b.length = n at *
      go_enter Try.func46, Try.ntmps46
      go_wp2_with fail
      rename_i Q1 K1 hK1
      have HK1 := hideP hK1
      clear hK1
      refine region_lateK [] (fun V => Below w.heap.size w V) (by kernel_rfl) (Below.refl _ w).drew (fun hS => ?_)
      refine anyZ_take (i := 0) (g := 5) (v := ?_) rfl (by kernel_rfl) (by kernel_rfl) (by kernel_rfl) (by kernel_rfl) (by kernel_rfl) (fun _ _ _ h => h) (Or.inl ⟨by kernel_rfl, ?_⟩) hS ?_
      rotate_left
      · intro V0 hV
        go_simp
        (try with_reducible rfl)
      simp only [put_list, List.set_cons_succ, List.set_cons_zero]
      refine anyZ_take (i := 1) (g := 5) (v := ?_) rfl (by kernel_rfl) (by kernel_rfl) (by kernel_rfl) (by kernel_rfl) (by kernel_rfl) (fun _ _ _ h => h) (Or.inl ⟨by kernel_rfl, ?_⟩) hS ?_
      rotate_left
      · intro V0 hV
        go_simp
        (try with_reducible rfl)
      simp only [put_list, List.set_cons_succ, List.set_cons_zero]
      refine anyZ_take (i := 2) (g := 5) (v := ?_) rfl (by kernel_rfl) (by kernel_rfl) (by kernel_rfl) (by kernel_rfl) (by kernel_rfl) (fun _ _ _ h => h) (Or.inl ⟨by kernel_rfl, ?_⟩) hS ?_
      rotate_left
      · intro V0 hV
        have k0 := (hV.cell (p := ad) had).trans hc
        go_simp
        (try with_reducible rfl)
      simp only [put_list, List.set_cons_succ, List.set_cons_zero]
      refine anyZ_take (i := 3) (g := 5) (v := ?_) rfl (by kernel_rfl) (by kernel_rfl) (by kernel_rfl) (by kernel_rfl) (by kernel_rfl) (fun _ _ _ h => h) (Or.inl ⟨by kernel_rfl, ?_⟩) hS ?_
      rotate_left
      · intro V0 hV
        go_simp
        (try with_reducible rfl)
      simp only [put_list, List.set_cons_succ, List.set_cons_zero]
      refine anyZ_take (i := 4) (g := 5) (v := ?_) rfl (by kernel_rfl) (by kernel_rfl) (by kernel_rfl) (by kernel_rfl) (by kernel_rfl) (fun _ _ _ h => h) (Or.inl ⟨by kernel_rfl, ?_⟩) hS ?_
      rotate_left
      · intro V0 hV
        go_simp
        (try with_reducible rfl)
      simp only [put_list, List.set_cons_succ, List.set_cons_zero]
      generalize (if c = 1 then some ad else some (⟨ad.block, ad.off + 1, none⟩ : Addr)) = sa at *
      refine anyZ_one (i := 5) (by kernel_rfl) rfl (fun Kc hKc => ?_)
      go_simp
      refine (copyBytes_any HTN.out _ (HB1.out.moved hS)).mono ?_
      rintro e W2 ⟨⟨v2, rfl, hO2⟩, hb2⟩
      obtain ⟨a2, c2, rfl, hB2, _⟩ := hO2.ex
      have hS := hS.trans (hb2.mono hS.size)
      refine hKc.out _ _ (fun _ => hS) ?_
      clear hKc Kc hO2 hb2
      refine anyZ_one (i := 6) (by kernel_rfl) rfl (fun Kc hKc => ?_)
      go_simp
      refine hKc.out _ _ (fun _ => hS) ?_
      clear hKc Kc
      refine anyZ_one (i := 7) (by kernel_rfl) rfl (fun Kc hKc => ?_)
      go_simp
      refine hKc.out _ _ (fun _ => hS) ?_
      clear hKc Kc
      refine anyZ_one (i := 8) (by kernel_rfl) rfl (fun Kc hKc => ?_)
      go_simp
      refine hKc.out _ _ (fun _ => hS) ?_
      clear hKc Kc
      refine anyZ_done (by kernel_rfl) ?_ _
      change K1 _ _
      refine HK1.out _ _ ?_
      have HE := hideP (show (∃ ao' c', Value.slice a2 nt c2 = .slice ao' nt c' ∧ BS W2 ao' nt c' (lb bt)) ∧ Below w.heap.size w W2 from ⟨⟨_, _, rfl, hB2⟩, hS⟩)
      clear hS hB2 HK1
      go_wp2_with fail
      refine bodyPost_ret (v := .tuple #[.int .u8 x, .slice a2 nt c2, .int .i64 0]) (by simp [results, Try.results46, go_sem]) rfl ?_
      obtain ⟨⟨a', c', e', hb'⟩, hS'⟩ := HE.out
      exact ⟨⟨a', c', by rw [← e']; rfl, hb'⟩, hS'⟩
    · rw [if_neg h1] at hop
      have g1 : ¬ (lb b 0 : Int) < 128 := by omega
      by_cases h2 : 192 ≤ lb b 0
      · rw [if_pos h2] at hop
        rw [hop]
        dsimp only
        have g2 : (lb b 0 : Int) ≥ 192 := by omega
        have g2' : (192 : Int) ≤ (lb b 0 : Int) := by omega
        have HB := hideP hB
        have HN := hideP hn
        generalize lb b 0 = x at *
        clear hB hn h1 h2 hop
        generalize hnn : b.length = n at *
        go_enter Try.func46, Try.ntmps46
        go_wp2_with fail
        refine (copyBytes_any HN.out _ HB.out).mono ?_
        rintro e W2 ⟨⟨v2, rfl, hO2⟩, hb2⟩
        obtain ⟨a2, c2, rfl, hB2, _⟩ := hO2.ex
        have HE := hideP (And.intro hB2 hb2)
        clear hO2 hB2 hb2
        go_wp2_with fail
        refine bodyPost_ret (v := .tuple #[.int .u8 0, .slice a2 n c2, .int .i64 0]) (by simp [results, Try.results46, go_sem]) rfl ?_
        exact ⟨⟨a2, c2, rfl, HE.out.1⟩, HE.out.2⟩
      · rw [if_neg h2] at hop
        rw [hop]
        dsimp only
        have g2 : ¬ (lb b 0 : Int) ≥ 192 := by omega
        have g2' : ¬ (192 : Int) ≤ (lb b 0 : Int) := by omega
        generalize lb b 0 = x at *
        clear hB hn h1 h2 hop
        generalize b.length = n at *
        go_enter Try.func46, Try.ntmps46
        go_wp2_with fail
        refine bodyPost_ret (v := .tuple #[.int .u8 0, .slice none 0 0, .int .i64 45]) (by simp [results, Try.results46, go_sem]) rfl ?_
        exact ⟨⟨none, 0, rfl, HZ.out⟩, Below.refl _ _⟩

set_option maxHeartbeats 4000000 in
set_option maxRecDepth 100000 in
theorem refOpen_any {ao : Option Addr} {c : Nat} {b : List Nat} (hn : b.length ≤ 140737488355328) (w : World) (hB : BS w ao b.length c (lb b)) :
    Calls Try.prog 47 #[.slice ao b.length c] w fun e w' => (∃ ao' c', e = .returned (.tuple #[.int .u8 (opn b).1, .slice ao' (opn b).2.1.length c', .int .i64 (opn b).2.2]) ∧ BS w' ao' (opn b).2.1.length c' (lb (opn b).2.1)) ∧ Below w.heap.size w w' := by
  have hz : BS w none ([] : List Nat).length 0 (lb []) := BS.empty _ _ _ (fun j => by simp [lb])
  by_cases h0 : b.length = 0
  · have HO : Hid (opn b = (0, [], 41)) := hideP (by unfold opn; rw [if_pos h0])
    have HZ := hideP hz
    clear hB hn hz
    rw [h0]
    rw [HO.out]
    clear HO
    go_enter Try.func47, Try.ntmps47
    go_wp2_with fail
    refine bodyPost_ret (v := .tuple #[.int .u8 0, .slice none 0 0, .int .i64 41]) (by simp [results, Try.results47, go_sem]) rfl ?_
    exact ⟨⟨none, 0, rfl, HZ.out⟩, Below.refl _ _⟩
  · obtain ⟨ad, rfl, hc⟩ := hB.cell 0 (by omega)
    rw [show ad.add 0 = ad from rfl] at hc
    have had := World.block_lt_of_cell? _ _ hc
    have gz : ((b.length : Int) == 0) = false := beq_eq_false_iff_ne.2 (by omega)
    have gz' : ¬ (b.length : Int) = 0 := by omega
    have gp : (0 : Int) < (b.length : Int) := by omega
    have gp' : 0 < b.length := by omega
    have gp1 : (1 : Int) ≤ (b.length : Int) := by omega
    have gp1' : 1 ≤ b.length := by omega
    have gsub : ((b.length : Int) - 1).toNat = b.length - 1 := by omega
    have hop : opn b = if lb b 0 < 128 then (lb b 0, b.tail, 0) else if 192 ≤ lb b 0 then (0, b, 0) else (0, [], 45) := by unfold opn; rw [if_neg h0]
    have HZ := hideP hz
    clear hz h0
    by_cases h1 : lb b 0 < 128
    · rw [if_pos h1] at hop
      rw [hop]
      dsimp only
      have hB1 : BS w (if c = 1 then some ad else some ⟨ad.block, ad.off + 1, none⟩) (b.length - 1) (c - 1) (fun j => lb b (1 + j)) := hB.shift (l := 1) (by omega) (Nat.le_refl _)
      have htl : b.length - 1 = b.tail.length := by simp
      have hlb : ∀ j, j < b.tail.length → lb b (1 + j) = lb b.tail j := fun j hj => by
        cases b with
        | nil => simp at hj
        | cons x r => rw [Nat.add_comm]; rfl
      rw [htl] at hB1
      have hB1 : BS w (if c = 1 then some ad else some ⟨ad.block, ad.off + 1, none⟩) b.tail.length (c - 1) (lb b.tail) := hB1.congr (fun j => by
        cases b with
        | nil => simp [lb]
        | cons x r => exact hB.lt (j + 1)) (fun j hj => (hlb j hj).symm)
      have g1 : (lb b 0 : Int) < 128 := by omega
      generalize hx : lb b 0 = x at *
      have HB1 := hideP hB1
      have htn : b.tail.length ≤ 140737488355328 := by omega
      have HTN := hideP htn
      clear hB hn hlb hB1 h1 hop hx htn
      generalize b.tail = bt at *
      generalize hbt : bt.length = nt at *
      generalize b.length = n at *
      go_enter Try.func47, Try.ntmps47
      go_wp2_with fail
      rename_i Q1 K1 hK1
      have HK1 := hideP hK1
      clear hK1
      refine region_lateK [] (fun V => Below w.heap.size w V) (by kernel_rfl) (Below.refl _ w).drew (fun hS => ?_)
      refine anyZ_take (i := 0) (g := 5) (v := ?_) rfl (by kernel_rfl) (by kernel_rfl) (by kernel_rfl) (by kernel_rfl) (by kernel_rfl) (fun _ _ _ h => h) (Or.inl ⟨by kernel_rfl, ?_⟩) hS ?_
      rotate_left
      · intro V0 hV
        go_simp
        (try with_reducible rfl)
      simp only [put_list, List.set_cons_succ, List.set_cons_zero]
      refine anyZ_take (i := 1) (g := 5) (v := ?_) rfl (by kernel_rfl) (by kernel_rfl) (by kernel_rfl) (by kernel_rfl) (by kernel_rfl) (fun _ _ _ h => h) (Or.inl ⟨by kernel_rfl, ?_⟩) hS ?_
      rotate_left
      · intro V0 hV
        go_simp
        (try with_reducible rfl)
      simp only [put_list, List.set_cons_succ, List.set_cons_zero]
      refine anyZ_take (i := 2) (g := 5) (v := ?_) rfl (by kernel_rfl) (by kernel_rfl) (by kernel_rfl) (by kernel_rfl) (by kernel_rfl) (fun _ _ _ h => h) (Or.inl ⟨by kernel_rfl, ?_⟩) hS ?_
      rotate_left
      · intro V0 hV
        have k0 := (hV.cell (p := ad) had).trans hc
        go_simp
        (try with_reducible rfl)
      simp only [put_list, List.set_cons_succ, List.set_cons_zero]
      refine anyZ_take (i := 3) (g := 5) (v := ?_) rfl (by kernel_rfl) (by kernel_rfl) (by kernel_rfl) (by kernel_rfl) (by kernel_rfl) (fun _ _ _ h => h) (Or.inl ⟨by kernel_rfl, ?_⟩) hS ?_
      rotate_left
      · intro V0 hV
        go_simp
        (try with_reducible rfl)
      simp only [put_list, List.set_cons_succ, List.set_cons_zero]
      refine anyZ_take (i := 4) (g := 5) (v := ?_) rfl (by kernel_rfl) (by kernel_rfl) (by kernel_rfl) (by kernel_rfl) (by kernel_rfl) (fun _ _ _ h => h) (Or.inl ⟨by kernel_rfl, ?_⟩) hS ?_
      rotate_left
      · intro V0 hV
        go_simp
        (try with_reducible rfl)
      simp only [put_list, List.set_cons_succ, List.set_cons_zero]
      generalize (if c = 1 then some ad else some (⟨ad.block, ad.off + 1, none⟩ : Addr)) = sa at *
      refine anyZ_one (i := 5) (by kernel_rfl) rfl (fun Kc hKc => ?_)
      go_simp
      refine hKc.out _ _ (fun _ => hS) ?_
      clear hKc Kc
      refine anyZ_one (i := 6) (by kernel_rfl) rfl (fun Kc hKc => ?_)
      go_simp
      refine hKc.out _ _ (fun _ => hS) ?_
      clear hKc Kc
      refine anyZ_one (i := 7) (by kernel_rfl) rfl (fun Kc hKc => ?_)
      go_simp
      refine hKc.out _ _ (fun _ => hS) ?_
      clear hKc Kc
      refine anyZ_done (by kernel_rfl) ?_ _
      change K1 _ _
      refine HK1.out _ _ ?_
      have HE := hideP (show (∃ ao' c', Value.slice sa nt (c - 1) = .slice ao' nt c' ∧ BS w.drew ao' nt c' (lb bt)) ∧ Below w.heap.size w w.drew from ⟨⟨_, _, rfl, HB1.out.moved hS⟩, hS⟩)
      clear hS HK1
      go_wp2_with fail
      refine bodyPost_ret (v := .tuple #[.int .u8 x, .slice sa nt (c - 1), .int .i64 0]) (by simp [results, Try.results47, go_sem]) rfl ?_
      obtain ⟨⟨a', c', e', hb'⟩, hS'⟩ := HE.out
      exact ⟨⟨a', c', by rw [← e']; rfl, hb'⟩, hS'⟩
    · rw [if_neg h1] at hop
      have g1 : ¬ (lb b 0 : Int) < 128 := by omega
      by_cases h2 : 192 ≤ lb b 0
      · rw [if_pos h2] at hop
        rw [hop]
        dsimp only
        have g2 : (lb b 0 : Int) ≥ 192 := by omega
        have g2' : (192 : Int) ≤ (lb b 0 : Int) := by omega
        have HB := hideP hB
        have HN := hideP hn
        generalize lb b 0 = x at *
        clear hB hn h1 h2 hop
        generalize hnn : b.length = n at *
        go_enter Try.func47, Try.ntmps47
        go_wp2_with fail
        refine bodyPost_ret (v := .tuple #[.int .u8 0, .slice (some ad) n c, .int .i64 0]) (by simp [results, Try.results47, go_sem]) rfl ?_
        exact ⟨⟨_, _, rfl, HB.out⟩, Below.refl _ _⟩
      · rw [if_neg h2] at hop
        rw [hop]
        dsimp only
        have g2 : ¬ (lb b 0 : Int) ≥ 192 := by omega
        have g2' : ¬ (192 : Int) ≤ (lb b 0 : Int) := by omega
        generalize lb b 0 = x at *
        clear hB hn h1 h2 hop
        generalize b.length = n at *
        go_enter Try.func47, Try.ntmps47
        go_wp2_with fail
        refine bodyPost_ret (v := .tuple #[.int .u8 0, .slice none 0 0, .int .i64 45]) (by simp [results, Try.results47, go_sem]) rfl ?_
        exact ⟨⟨none, 0, rfl, HZ.out⟩, Below.refl _ _⟩

end Go.Proofs.Ytigebmidfddbcaa
