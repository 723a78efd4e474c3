/-
  For every input RlpOpens returns true: envelopes are told from untyped payloads by their first byte, and items are alike exactly if they are built alike. No condition.
-/
import Derived.Test.YtigebmidfddbcaaOpens
import Derived.Test.YtigebmidfddbcaaArgR
import Derived.Deep.CondSized
namespace Go.Proofs.Ytigebmidfddbcaa
open Go.ChangeShapes Go.WideShapes Go.ChangeAt Go.RowKit Go.Shelf

set_option maxHeartbeats 1000000 in
set_option maxRecDepth 100000 in
theorem rlpOpens_lifted (os : Os) (started : os.Started) (H : Type) (enc : TypeId × Value → H) :
    ReturnsInHanded {} Try.checked os 7 .any (Rows.rlpOpensSpec.pre6 enc Try.prog Try.f7 Rows.rlpOpensRow.domain false) (Rows.rlpOpensSpec.post enc Try.prog Try.f7 false true false false) := by
  refine returnsInHanded_of_change_sized (C := Try.checked) Try.own started (by kernel_rfl) Try.func7
    (ChangeSpec.witness6 (enc := enc) (C := Try.checked) false ⟨#[], #[.int .u8 0, .slice none 0 0, .slice none 0 0, .slice none 0 0], []⟩ 8 (by kernel_rfl) (by kernel_rfl) (by kernel_rfl) (by kernel_rfl)) ?_
  intro W base args ds gs before hval0 hW hcnd hsz0 _
  have hval : ∀ (j : Nat) t v, Try.f7.params[j]? = some t → args[j]? = some v → Value.okWide Try.prog W .any base t v := hval0
  have hW' := hW
  obtain ⟨p, q, hA0, hV, rfl, hfz, hnd⟩ := hW
  have hA : DataW.TrodAll enc Try.prog W 0 (fun _ => true) true Try.f7.params.toList args.toList ds p := hA0
  rw [Try.params7] at hA hval
  obtain ⟨v0, vs0, d0, ds0, p0, q0, hargs0, rfl, rfl, h0, r0⟩ := trodAll_cons hA
  obtain ⟨v1, vs1, d1, ds1, p1, q1, hargs1, rfl, rfl, h1, r1⟩ := trodAll_cons r0
  obtain ⟨v2, vs2, d2, ds2, p2, q2, hargs2, rfl, rfl, h2, r2⟩ := trodAll_cons r1
  obtain ⟨v3, vs3, d3, ds3, p3, q3, hargs3, rfl, rfl, h3, r3⟩ := trodAll_cons r2
  obtain ⟨rfl, rfl, rfl⟩ := trodAll_nil r3
  obtain ⟨rfl, rfl⟩ := trodVars_none hV
  subst hargs3
  subst hargs2
  subst hargs1
  obtain rfl : args = #[v0, v1, v2, v3] := by cases args; simp_all
  obtain ⟨X0, rfl, hX0⟩ := u8_open (hval 0 5 v0 rfl rfl) h0
  obtain ⟨b1, ao1, c1, rfl, hN1, hL1, hK1⟩ := bytes_open (hval 1 23 v1 rfl rfl) h1 (by rw [List.all_eq_true]; intro y hy; exact List.all_eq_true.1 hsz0 y (DataW.weights_mem_each (j := 1) (t := 23) (by rw [Try.params7]; rfl) rfl y hy))
  obtain ⟨ns2, ao2, c2, rfl, hN2, hO2, hL2, hK2⟩ := nodes_open (hval 2 22 v2 rfl rfl) h2 (by rw [List.all_eq_true]; intro y hy; exact List.all_eq_true.1 hsz0 y (DataW.weights_mem_each (j := 2) (t := 22) (by rw [Try.params7]; rfl) rfl y hy))
  obtain ⟨ns3, ao3, c3, rfl, hN3, hO3, hL3, hK3⟩ := nodes_open (hval 3 22 v3 rfl rfl) h3 (by rw [List.all_eq_true]; intro y hy; exact List.all_eq_true.1 hsz0 y (DataW.weights_mem_each (j := 3) (t := 22) (by rw [Try.params7]; rfl) rfl y hy))
  have hlt : ∀ x ∈ p0 ++ (p1 ++ (p2 ++ (p3 ++ ([])))), x.block < W.heap.size := fun x hx => by simpa using hW'.lt x (by simpa using hx)
  have hcall := rlpOpens_walk X0 hX0 W hN1 hL1 hN2 hO2 hL2 hN3 hO3 hL3
  simp only [List.append_nil] at hW'
  refine hcall.mono fun e W' ⟨he, hb⟩ => ?_
  subst he
  refine ⟨_, rfl, [d0, d1, d2, d3], [], _, [], p0 ++ (p1 ++ (p2 ++ (p3 ++ ([])))), [], hW', trodAll_mk1 (shut_bool Try.underlying4 true), (trodAll_cons_mk (Below.trod Try.laidOut (by kernel_rfl) (of_decide_eq_true (by kernel_rfl)) h0 hb (fun x hx => hlt x (by simp [hx]))) (trodAll_cons_mk (Below.trod Try.laidOut (by kernel_rfl) (of_decide_eq_true (by kernel_rfl)) h1 hb (fun x hx => hlt x (by simp [hx]))) (trodAll_cons_mk (Below.trod Try.laidOut (by kernel_rfl) (of_decide_eq_true (by kernel_rfl)) h2 hb (fun x hx => hlt x (by simp [hx]))) (trodAll_cons_mk (Below.trod Try.laidOut (by kernel_rfl) (of_decide_eq_true (by kernel_rfl)) h3 hb (fun x hx => hlt x (by simp [hx]))) trodAll_mk0)))), rfl, hb.frame _, fun h => by cases h⟩

theorem rlpOpens_holds : Rows.RlpOpensSaid :=
  OpenClaim.holds_of_wide 7 Try.f7 rfl rfl rfl rfl rfl rfl rfl ⟨rfl, rfl, rfl, rfl, rfl⟩ rfl rfl rfl rfl rfl (by kernel_rfl) Try.func7 (by kernel_rfl)
    (of_decide_eq_true (by kernel_rfl)) (by unfold Func.isWrapper; first | (rw [if_pos (by decide +kernel)]; kernel_rfl) | (rw [if_neg (by decide +kernel)]; exact ⟨rfl, rfl⟩))
    (fun os started H enc _ => rlpOpens_lifted os started H enc)

end Go.Proofs.Ytigebmidfddbcaa
