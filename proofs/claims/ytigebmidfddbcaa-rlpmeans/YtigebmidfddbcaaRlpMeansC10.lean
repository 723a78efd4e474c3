/-
  Kids from the last to the first, each told which it is.
-/
import Derived.Test.YtigebmidfddbcaaRlpMeansC09
namespace Go.Proofs.Ytigebmidfddbcaa
open Go.RowKit Go.Shelf

attribute [local go_sem] Oper.semAt_some

set_option maxHeartbeats 2000000 in
set_option maxRecDepth 100000 in
theorem back1_seq (m : Nat) (hm : 1 ≤ m) (l Bn g n c : Nat) (K : KW) (hn : n ≤ 9223372036854775807) (J : Nat → World → Prop) (Jx : World → Prop)
    (hY : ∀ (k : Nat) (W : World), k < n → J k W → YieldAt Fence.wide (m - 1) Try.prog l #[.int .i64 ((n - 1 - k : Nat) : Int), K.val (n - 1 - k)] W fun e W' =>
      (e = .returned (.bool true) ∧ J (k + 1) W' ∧ KpB Bn g n c K W W') ∨ (e = .returned (.bool false) ∧ Jx W'))
    (W : World) (hr : RowB Bn g n c K W) (h0 : J 0 W) :
    CallsIn Fence.wide m Try.prog 80 #[.func (.yield l) #[] #[], .pointer (some ⟨Bn, 0, none⟩)] W fun e W' => (∃ v, e = .returned v) ∧ (J n W' ∨ Jx W') := by
  have HR := hideP hr
  have HY := hideP hY
  have hBn := hr.1
  have e0 : IntKind.i64.wrap ((n : Int) - 1) = (n : Int) - 1 := by rw [IntKind.wrap_i64]; omega
  have HNN := hideP hn
  clear hY hr hn
  refine callsIn_of_wp Try.func80 rfl trivial ?_ rfl
  simp only [Try.ntmps80, List.size_toArray, List.length_cons, List.length_nil, Nat.reduceAdd, Nat.reduceSub, Array.replicate_succ, Array.replicate_zero, List.push_toArray, List.append_toArray, List.nil_append, List.cons_append]
  gi_wp2
  clear hBn
  gi_loopw [3] (fun i wr => ∃ k : Nat, k ≤ n ∧ i = .int .i64 ((n : Int) - 1 - (k : Int)) ∧ J k wr ∧ Hid (RowB Bn g n c K wr)) (fun i _ => (intOf i + 1).toNat)
  case atStart => exact ⟨0, Nat.zero_le _, by simp, h0, HR⟩
  case round =>
    obtain ⟨k, hk, rfl, hJ, hR⟩ := hrel
    by_cases hlt : k < n
    · have hBn := hR.out.1
      obtain ⟨c0, c1, c2⟩ := hR.out.2 (n - 1 - k) (by omega)
      have hj : (n : Int) - 1 - (k : Int) = ((n - 1 - k : Nat) : Int) := by omega
      obtain ⟨fn, tmps, assign, body, hy, hRd⟩ := HY.out k wr hlt hJ
      unfold KW.val at hy
      have g1 : ((n - 1 - k : Nat) : Int) ≥ 0 := by omega
      have g1' : (0 : Int) ≤ ((n - 1 - k : Nat) : Int) := by omega
      have g2 : ((n - 1 - k : Nat) : Int) < (n : Int) := by omega
      have e1 : IntKind.i64.wrap (((n - 1 - k : Nat) : Int) - 1) = ((n - 1 - k : Nat) : Int) - 1 := by have := HNN.out; rw [IntKind.wrap_i64]; omega
      have HK := hideP hlt
      have HE : Hid (((n - 1 - k : Nat) : Int) - 1 = (n : Int) - 1 - ((k + 1 : Nat) : Int)) := (by omega : ((n - 1 - k : Nat) : Int) - 1 = (n : Int) - 1 - ((k + 1 : Nat) : Int))
      rw [hj]
      clear hJ hk hlt hj
      generalize n - 1 - k = j at *
      gi_wp2
      refine hRd.mono ?_
      rintro e W3 (⟨rfl, hJ3, hk3⟩ | ⟨rfl, hJx3⟩)
      · have HR3 := hideP (hk3 hR.out)
        have HJ3 := hideP hJ3
        clear hJ3 hk3 hRd c0 c1 c2 hBn
        gi_wp2
        exact ⟨⟨k + 1, HK.out, by rw [HE.out], HJ3.out, HR3⟩, by simp [intOf] <;> omega⟩
      · gi_wp2
        refine bodyPost_ret (results_none rfl _ _ _) rfl ?_
        exact ⟨⟨_, rfl⟩, .inr hJx3⟩
    · have hkl : k = n := by omega
      subst hkl
      have HJ := hideP hJ
      have hj : (k : Int) - 1 - (k : Int) = -1 := by omega
      rw [hj]
      clear hJ
      gi_wp2
      go_end0
      exact ⟨⟨_, rfl⟩, .inl HJ.out⟩

theorem back_gives (m : Nat) (hm : 1 ≤ m) (Bn g n c : Nat) (K : KW) (hn : n ≤ 9223372036854775807) (w : World) (hr : RowB Bn g n c K w) (hg : g < w.heap.size) :
    Gives m Try.prog 80 #[.pointer (some ⟨Bn, 0, none⟩)] (fun k => #[.int .i64 ((n - 1 - k : Nat) : Int), K.val (n - 1 - k)]) n (KpB Bn g n c K) w := by
  intro l J Jx W hW _ _ hY h0
  have hB : Bn < w.heap.size := World.block_lt_of_cell? w _ hr.1
  exact back1_seq m hm l Bn g n c K hn J Jx hY W (KpB.of_same (hW.block _ hB) (hW.block _ hg) hr) h0

theorem back_gives_nil (m : Nat) (Bn c : Nat) (ao : Option Addr) (Kp : World → World → Prop) (vals : Nat → Array Value) (w : World) (hBn : w.cell? ⟨Bn, 0, none⟩ = some (.slice ao 0 c)) :
    Gives m Try.prog 80 #[.pointer (some ⟨Bn, 0, none⟩)] vals 0 Kp w := by
  intro l J Jx W hW _ _ hY h0
  have hBn' := (hW.cell (p := ⟨Bn, 0, none⟩) (World.block_lt_of_cell? w _ hBn)).trans hBn
  refine (back1_nil m l Bn c ao W hBn').mono ?_
  rintro e W' ⟨hv, rfl⟩
  exact ⟨hv, .inl h0⟩

end Go.Proofs.Ytigebmidfddbcaa
