/-
  Nodes, bytes, words and numbers that came in as arguments.
-/
import Derived.Test.YtigebmidfddbcaaRows
import Derived.ProofKit
import Derived.SizedLaws
import Derived.OpenShut
import Derived.ChangeSlices
import Derived.Deep.Strs
import Derived.Test.YtigebmidfddbcaaRlpMeansC25
import Derived.Test.YtigebmidfddbcaaRlpMeansC30
namespace Go.Proofs.Ytigebmidfddbcaa
open Go.ChangeShapes Go.WideShapes Go.ChangeAt Go.RowKit Go.Shelf

theorem Try.own : ownKnob Try.prog.godebug = none := by kernel_rfl

theorem Try.laidOut : laidOutB Try.prog = true := by kernel_rfl

theorem Try.cellsW : Try.prog.cellsOf 59 = 4 := by kernel_rfl

theorem Try.cellsU : Try.prog.cellsOf 57 = 1 := by kernel_rfl

theorem Try.cells5 : Try.prog.cellsOf 5 = 1 := by kernel_rfl

theorem Try.byte5 : Try.prog.bytesOf 5 = 1 := by kernel_rfl

theorem Try.cellsN : Try.prog.cellsOf 116 = 3 := by kernel_rfl

theorem Try.bytesN : Try.prog.bytesOf 116 = 40 := by kernel_rfl

theorem Try.cells3 : Try.prog.cellsOf 3 = 1 := by kernel_rfl

theorem Try.cellsB : Try.prog.cellsOf 23 = 1 := by kernel_rfl

theorem Try.undW : Try.prog.underlying 59 = some (.array 4 57) := by kernel_rfl

theorem Try.undU : Try.prog.underlying 57 = some (.int .u64) := by kernel_rfl

theorem Try.und3 : Try.prog.underlying 3 = some (.int .i64) := by kernel_rfl

theorem Try.und5 : Try.prog.underlying 5 = some (.int .u8) := by kernel_rfl

theorem Try.undB : Try.prog.underlying 23 = some (.slice 5) := by kernel_rfl

theorem Try.undNs : Try.prog.underlying 22 = some (.slice 116) := by kernel_rfl

theorem four_cells {α : Type} {cs : Array α} (h : cs.size = 4) : ∃ c0 c1 c2 c3, cs = #[c0, c1, c2, c3] := by
  match cs, h with
  | ⟨[c0, c1, c2, c3]⟩, _ => exact ⟨c0, c1, c2, c3, rfl⟩

theorem u64_nat {n : Int} (h : (Lit.int .u64 n).wf = true) : ∃ k : Nat, n = k ∧ k < 18446744073709551616 := by
  have := bounds_u64 h
  exact ⟨n.toNat, by omega, by omega⟩

theorem u8_nat {n : Int} (h : (Lit.int .u8 n).wf = true) : ∃ k : Nat, n = k ∧ k < 256 := by
  have := bounds_u8 h
  exact ⟨n.toNat, by omega, by omega⟩

theorem okWide_array {P : Program} {w : World} {r : Reach} {base n : Nat} {t e : TypeId} {v : Value} (ht : P.underlying t = some (.array n e)) (h : Value.okWide P w r base t v) : ∃ cs, v = .agg cs ∧ cs.size = P.cellsOf t := by
  unfold Value.okWide at h
  rw [ht] at h
  obtain ⟨cs, h1, h2, _⟩ := h
  exact ⟨cs, h1, h2⟩

section
variable {H : Type} {enc : TypeId × Value → H} {W : World}

theorem bulk_pos (d : DataW H) : 1 ≤ Rows.uptoBulk d := by
  cases d with
  | lit l => cases l <;> simp [Rows.uptoBulk]
  | _ => simp [Rows.uptoBulk]

theorem bulk_len : ∀ (ds : List (DataW H)), ds.length ≤ Rows.uptoBulkAll ds
  | [] => by simp [Rows.uptoBulkAll]
  | d :: r => by
    have := bulk_len r
    have := bulk_pos d
    simp only [Rows.uptoBulkAll, List.length_cons]
    omega

theorem one_cell {x : Addr} {cs : List Value} (h : W.cells? 0 x 1 = some cs) : ∃ c, cs = [c] ∧ W.cell? x = some c := by
  obtain ⟨_, hl, hc⟩ := World.cells?_some h
  match cs, hl with
  | [c], _ => exact ⟨c, rfl, by simpa [Addr.add] using hc 0 (by omega)⟩

theorem three_cells {x : Addr} {cs : List Value} (h : W.cells? 0 x 3 = some cs) : ∃ c0 c1 c2, cs = [c0, c1, c2] ∧ W.cell? x = some c0 ∧ W.cell? (x.add 1) = some c1 ∧ W.cell? (x.add 2) = some c2 := by
  obtain ⟨_, hl, hc⟩ := World.cells?_some h
  match cs, hl with
  | [c0, c1, c2], _ => exact ⟨c0, c1, c2, rfl, by simpa [Addr.add] using hc 0 (by omega), by simpa using hc 1 (by omega), by simpa using hc 2 (by omega)⟩

set_option maxRecDepth 100000 in
/-- A slice of bytes that came in. -/
theorem bytes_trod {fuel : Nat} {v : Value} {x : DataW H × List MemPlace} (h : DataW.trod enc Try.prog W 0 (fun _ => true) true fuel 23 [v] = some x) (hw : (x.1.weights Try.prog 23).all (· ≤ reachBytes) = true) :
    ∃ (b : List Nat) (ao : Option Addr) (c : Nat), v = .slice ao b.length c ∧ BS W ao b.length c (lb b) ∧ b.length ≤ 140737488355328 ∧ b.length + 1 ≤ Rows.uptoBulk x.1 := by
  rcases DataW.trod_slice Try.undB h with ⟨h1, hx⟩ | ⟨a, len, cp, elems, rest, m, rfl, h1, hx, _, hle, hcm, hel, hi, _, _⟩
  · simp only [List.cons.injEq, and_true] at h1
    subst h1
    exact ⟨[], none, 0, rfl, BS.empty _ _ _ (fun j => by simp [lb]), by simp, by rw [hx]; simp [Rows.uptoBulk]⟩
  · simp only [List.cons.injEq, and_true] at h1
    subst h1
    have hd : x.1 = .slice (elems.map (·.1)) (rest.map (·.1)) := congrArg Prod.fst hx
    rw [hd] at hw ⊢
    have hs : (elems.length + rest.length) * 1 ≤ reachBytes := by
      have := List.all_eq_true.1 hw ((elems.length + rest.length) * 1) (by simp [DataW.weights, Try.byte5])
      simpa using this
    unfold reachBytes at hs
    have hb : ∀ j, ∃ b : Nat, b < 256 ∧ (j < len → W.cell? (a.add j) = some (.int .u8 b)) := fun j => by
      by_cases hj : j < len
      · have h2 := hi j hj
        rw [Try.cells5, Nat.mul_one, List.getElem?_eq_getElem (by omega)] at h2
        obtain ⟨cs, hc, ht⟩ := Option.bind_eq_some_iff.1 h2
        obtain ⟨c, rfl, hcell⟩ := one_cell hc
        obtain ⟨k, hk, _, hw⟩ := DataW.trod_int Try.und5 ht
        obtain ⟨b, rfl, hb⟩ := u8_nat hw
        simp only [List.cons.injEq, and_true] at hk
        exact ⟨b, hb, fun _ => by rw [hcell, hk]⟩
      · exact ⟨0, by omega, fun h => absurd h hj⟩
    refine ⟨pay (fun j => (hb j).choose) len, some a, cp, by rw [pay_length], ?_, by rw [pay_length]; omega, ?_⟩
    · rw [pay_length]
      refine ⟨lb_pay_lt (fun j => (hb j).choose_spec.1) len, hle, hcm, fun j hj => ⟨a, rfl, ?_⟩, fun h => by cases h⟩
      rw [lb_pay hj]
      exact (hb j).choose_spec.2 hj
    · have := bulk_len (elems.map (·.1))
      simp only [Rows.uptoBulk, pay_length]
      rw [List.length_map] at this
      omega

/-- How much nodes hold. -/
def ndBulk : List Nd → Nat
  | [] => 0
  | x :: r => x.2.1.length + 4 + ndBulk r

theorem nodes_all (F : Nd → Addr → Prop) (size : Addr → Nat → Addr) (a : Addr) : ∀ (es : List (DataW H)) (o : Nat), (∀ i (h : i < es.length), ∃ x : Nd, F x (size a (o + i)) ∧ x.2.1.length ≤ 140737488355328 ∧ x.2.1.length + 4 ≤ Rows.uptoBulk es[i]) →
    ∃ ns : List Nd, ns.length = es.length ∧ (∀ j x, ns[j]? = some x → F x (size a (o + j))) ∧ NdOk ns ∧ ndBulk ns ≤ Rows.uptoBulkAll es
  | [], _, _ => ⟨[], rfl, fun j x h => (by cases h), fun x h => (by cases h), by simp [ndBulk]⟩
  | e :: es, o, h => by
    obtain ⟨x, hx, hx2, hx3⟩ := h 0 (by simp)
    obtain ⟨ns, h1, h2, h3, h4⟩ := nodes_all F size a es (o + 1) (fun i hi => by
      have := h (i + 1) (by simp; omega)
      rw [show o + 1 + i = o + (i + 1) by omega]
      simpa using this)
    refine ⟨x :: ns, by simp [h1], fun j y hy => ?_, fun y hy => ?_, ?_⟩
    · cases j with
      | zero => cases hy; exact hx
      | succ j =>
        rw [show o + (j + 1) = o + 1 + j by omega]
        exact h2 j y (by simpa using hy)
    · rcases List.mem_cons.1 hy with rfl | hy
      · exact hx2
      · exact h3 y hy
    · simp only [ndBulk, Rows.uptoBulkAll]
      simp only [List.getElem_cons_zero] at hx3
      omega

set_option maxRecDepth 100000 in
/-- A slice of nodes that came in. -/
theorem nodes_open {v : Value} {d : DataW H} {p : List MemPlace} {base : Nat} (hok : Value.okWide Try.prog W .any base 22 v) (h : DataW.Trod enc Try.prog W 0 (fun _ => true) true 22 v d p) (hw : (d.weights Try.prog 22).all (· ≤ reachBytes) = true) :
    ∃ (ns : List Nd) (ao : Option Addr) (c : Nat), v = .slice ao ns.length c ∧ NS W ns ao c ∧ NdOk ns ∧ ns.length ≤ 3518437208884 ∧ ndBulk ns + 1 ≤ Rows.uptoBulk d := by
  obtain ⟨fuel, hf⟩ := h
  obtain ⟨ao, n, cap, rfl⟩ := okWide_slice Try.undNs hok
  have hcells : (Value.slice ao n cap).cells.toList = [.slice ao n cap] := rfl
  rw [hcells] at hf
  rcases DataW.trod_slice Try.undNs hf with ⟨h1, hx⟩ | ⟨a, len, cp, elems, rest, m, rfl, h1, hx, _, hle, hcm, hel, hi, _, _⟩
  · simp only [List.cons.injEq, Value.slice.injEq, and_true] at h1
    obtain ⟨rfl, rfl, rfl⟩ := h1
    have hd : d = .nil := congrArg Prod.fst hx
    subst hd
    exact ⟨[], none, 0, rfl, ⟨Nat.le_refl _, Nat.zero_le _, fun _ => rfl, fun j x h => (by cases h)⟩, fun x h => (by cases h), by simp, by simp [Rows.uptoBulk, ndBulk]⟩
  · simp only [List.cons.injEq, Value.slice.injEq, and_true] at h1
    obtain ⟨rfl, rfl, rfl⟩ := h1
    have hd : d = .slice (elems.map (·.1)) (rest.map (·.1)) := congrArg Prod.fst hx
    subst hd
    have hs : (elems.length + rest.length) * 40 ≤ reachBytes := by
      have := List.all_eq_true.1 hw ((elems.length + rest.length) * 40) (by simp [DataW.weights, Try.bytesN])
      simpa using this
    have hwe : ∀ e ∈ elems, (e.1.weights Try.prog 116).all (· ≤ reachBytes) = true := fun e he => by
      rw [List.all_eq_true]
      intro y hy
      have hmem : ∀ (l : List (DataW H)), e.1 ∈ l → y ∈ DataW.weightsAll Try.prog 116 l := fun l => by
        induction l with
        | nil => intro h; cases h
        | cons z l ih =>
          intro h
          simp only [DataW.weightsAll, List.mem_append]
          rcases List.mem_cons.1 h with e1 | h
          · left; rw [← e1]; exact hy
          · exact Or.inr (ih h)
      have := List.all_eq_true.1 hw y (by
        simp only [DataW.weights, Try.undNs]
        exact List.mem_cons_of_mem _ (List.mem_append_left _ (hmem _ (List.mem_map_of_mem he))))
      exact this
    unfold reachBytes at hs
    obtain ⟨ns, h1, h2, h3, h4⟩ := nodes_all (fun x ad => ∃ a' c', W.cell? ad = some (.int .i64 x.1) ∧ W.cell? (ad.add 1) = some (.slice a' x.2.1.length c') ∧ W.cell? (ad.add 2) = some (.int .i64 x.2.2) ∧ BS W a' x.2.1.length c' (lb x.2.1)) (fun a i => a.add (i * 3)) a (elems.map (·.1)) 0 (fun i hil => by
      rw [List.length_map] at hil
      have h2 := hi i (by omega)
      rw [Try.cellsN, List.getElem?_eq_getElem hil] at h2
      obtain ⟨cs, hc, ht⟩ := Option.bind_eq_some_iff.1 h2
      obtain ⟨c0, c1, c2, rfl, e0, e1, e2⟩ := three_cells hc
      have hwe' := hwe _ (List.getElem_mem hil)
      rw [List.getElem_map]
      generalize elems[i] = el at *
      obtain ⟨y0, y1, y2, m', rfl, _, t0, t1, t2⟩ := Go.Deep.trod_struct3 (P := Try.prog) Proofs.Try.underlying116 ht
      simp only [Try.cells3, Try.cellsB, List.drop_zero, List.drop_succ_cons, List.take_succ_cons, List.take_zero] at t0 t1 t2
      obtain ⟨n0, hn0, hx0, _⟩ := DataW.trod_int Try.und3 t0
      obtain ⟨n2, hn2, hx2, _⟩ := DataW.trod_int Try.und3 t2
      simp only [List.cons.injEq, and_true] at hn0 hn2
      subst hn0
      subst hn2
      obtain ⟨b, ao, c, rfl, hB, hbl, hbb⟩ := bytes_trod t1 (by
        rw [List.all_eq_true]
        intro y hy
        exact List.all_eq_true.1 hwe' y (by
          simp only [DataW.weights, Proofs.Try.underlying116, DataW.weightsEach, List.map_cons, List.map_nil, List.mem_append]
          exact Or.inr (Or.inl hy)))
      refine ⟨(n0, b, n2), ⟨ao, c, by rw [Nat.zero_add]; exact e0, by rw [Nat.zero_add]; exact e1, by rw [Nat.zero_add]; exact e2, hB⟩, hbl, ?_⟩
      have p0 := bulk_pos y0.1
      have p2 := bulk_pos y2.1
      simp only [Rows.uptoBulk, Rows.uptoBulkAll]
      omega)
    rw [List.length_map] at h1
    have hn : ns.length = n := by omega
    refine ⟨ns, some a, cap, by rw [hn], ⟨by omega, hcm, fun h => (by cases h), fun j x hx => ?_⟩, h3, by omega, ?_⟩
    · obtain ⟨a', c', e0, e1, e2, hB⟩ := h2 j x hx
      rw [Nat.zero_add] at e0 e1 e2
      rw [add_add] at e1 e2
      exact ⟨a, a', c', rfl, e0, e1, e2, hB⟩
    · simp only [Rows.uptoBulk]
      omega

set_option maxRecDepth 100000 in
/-- A word that came in. -/
theorem word_open {base : Nat} {v : Value} {d : DataW H} {p : List MemPlace} (hok : Value.okWide Try.prog W .any base 59 v) (h : DataW.Trod enc Try.prog W 0 (fun _ => true) true 59 v d p) : ∃ X : Nat, v = wv X ∧ X < M256 := by
  obtain ⟨cs, rfl, hsz⟩ := okWide_array Try.undW hok
  obtain ⟨c0, c1, c2, c3, rfl⟩ := four_cells (hsz.trans Try.cellsW)
  obtain ⟨fuel, hf⟩ := h
  obtain ⟨xs, m, _, hx, _, hl, hi⟩ := DataW.trod_array Try.undW hf
  have g : ∀ i, i < 4 → ∃ n : Nat, n < 18446744073709551616 ∧ ((#[c0, c1, c2, c3] : Array Value).toList.drop i).take 1 = [.int .u64 n] := by
    intro i hi4
    have := hi i hi4
    rw [Try.cellsU, Nat.mul_one, List.getElem?_eq_getElem (by omega)] at this
    obtain ⟨n, hn, _, hw⟩ := DataW.trod_int Try.undU this
    obtain ⟨k, rfl, hk⟩ := u64_nat hw
    exact ⟨k, hk, hn⟩
  obtain ⟨n0, b0, e0⟩ := g 0 (by omega)
  obtain ⟨n1, b1, e1⟩ := g 1 (by omega)
  obtain ⟨n2, b2, e2⟩ := g 2 (by omega)
  obtain ⟨n3, b3, e3⟩ := g 3 (by omega)
  simp only [List.drop_zero, List.drop_succ_cons, List.take_succ_cons, List.take_zero, List.cons.injEq, and_true] at e0 e1 e2 e3
  subst e0 e1 e2 e3
  have h := wv_mk (k := 0) b0 b1 b2 b3
  exact ⟨_ % M256, ((wv_mod _).trans h).symm, Nat.mod_lt _ (by decide)⟩

set_option maxRecDepth 100000 in
/-- A number of 64 bits that came in. -/
theorem u64_open {base : Nat} {v : Value} {d : DataW H} {p : List MemPlace} (hok : Value.okWide Try.prog W .any base 57 v) (h : DataW.Trod enc Try.prog W 0 (fun _ => true) true 57 v d p) : ∃ X : Nat, v = .int .u64 X ∧ X < 18446744073709551616 := by
  obtain ⟨fuel, hf⟩ := h
  obtain ⟨n, hn, _, hw⟩ := DataW.trod_int Try.undU hf
  obtain ⟨k, rfl, hk⟩ := u64_nat hw
  obtain ⟨m, rfl⟩ := okWide_int Try.undU hok
  refine ⟨k, ?_, hk⟩
  simpa [Value.cells] using hn

set_option maxRecDepth 100000 in
/-- An int that came in. -/
theorem i64_open {base : Nat} {v : Value} {d : DataW H} {p : List MemPlace} (hok : Value.okWide Try.prog W .any base 3 v) (h : DataW.Trod enc Try.prog W 0 (fun _ => true) true 3 v d p) : ∃ X : Int, v = .int .i64 X ∧ (-9223372036854775808 ≤ X ∧ X ≤ 9223372036854775807) := by
  obtain ⟨fuel, hf⟩ := h
  obtain ⟨n, hn, _, hw⟩ := DataW.trod_int Try.und3 hf
  obtain ⟨m, rfl⟩ := okWide_int Try.und3 hok
  refine ⟨n, by simpa [Value.cells] using hn, ?_⟩
  have := bounds_i64 hw
  omega

end

end Go.Proofs.Ytigebmidfddbcaa
