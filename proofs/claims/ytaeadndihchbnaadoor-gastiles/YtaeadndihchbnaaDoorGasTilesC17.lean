/-
  What Op answers.
-/
import Derived.MapKept
import Derived.Test.YtaeadndihchbnaaDoorGasTilesC16
namespace Go.Proofs.YtaeadndihchbnaaDoor
open Go.RowKit Go.Shelf

/-- What shape says of an opcode. -/
def shP (o : Nat) : Nat × Int × Int := if famN o = -1 then (shapeL.lookup (famK o)).getD (0, 0, 0) else if famK o = 96 then (3, 0, 1) else if famK o = 144 then (3, famN o + 1, famN o + 1) else if famK o = 128 then (3, famN o, famN o + 1) else (10, famN o + 2, 0)

theorem fam_bounds {o : Nat} (h : o < 256) : famK o < 256 ∧ -1 ≤ famN o ∧ famN o ≤ 32 := by
  unfold famK famN
  (repeat' split) <;> omega

theorem fam_one {o : Nat} (h : famN o ≠ -1) : famK o = 96 ∨ famK o = 144 ∨ famK o = 128 ∨ famK o = 160 := by
  unfold famN at h
  unfold famK
  (repeat' split) <;> first | omega | (exfalso; simp_all; done) | (exfalso; revert h; (repeat' split) <;> omega)

theorem tab_has : ∀ o < 256, nameN (famK o) ≠ noS → famN o = -1 → (shapeL.lookup (famK o)).isSome = true := by decide +kernel

theorem lookup_mem {α : Type} {k : Nat} {v : α} : ∀ {l : List (Nat × α)}, l.lookup k = some v → (k, v) ∈ l
  | x :: l, h => by
    rw [List.lookup_cons] at h
    cases e : k == x.1 with
    | true =>
      rw [e] at h
      cases h
      have := eq_of_beq e
      rw [this]
      exact List.mem_cons_self
    | false =>
      rw [e] at h
      exact List.mem_cons_of_mem _ (lookup_mem h)

theorem shape_any (o : Nat) (h : o < 256) (hn : nameN (famK o) ≠ noS) (w : World) : Calls Tryd.prog 57 #[.int .u8 (famK o), .int .i64 (famN o)] w fun e w' => e = .returned (.tuple #[.int .i64 (shP o).1, .int .i64 (shP o).2.1, .int .i64 (shP o).2.2]) ∧ w' = w := by
  obtain ⟨_, b1, b2⟩ := fam_bounds h
  unfold shP
  by_cases h1 : famN o = -1
  · rw [if_pos h1]
    obtain ⟨v, hv⟩ := Option.isSome_iff_exists.1 (tab_has o h hn h1)
    rw [hv]
    exact shape_ev ((shapes_ok (famN o)).get _ (lookup_mem hv)) w
  · rw [if_neg h1]
    have e1 : wrap64 (famN o + 1) = famN o + 1 := IntWalk.wrap64_in _ ⟨by omega, by omega⟩
    have e2 : wrap64 (famN o + 2) = famN o + 2 := IntWalk.wrap64_in _ ⟨by omega, by omega⟩
    have e3 : wrap64 (famN o) = famN o := IntWalk.wrap64_in _ ⟨by omega, by omega⟩
    rcases fam_one h1 with hk | hk | hk | hk <;> rw [hk]
    · exact shape_ev (shape_96 (famN o)) w
    · have := shape_ev (shape_144 (famN o)) w
      rw [e1] at this
      exact this
    · have := shape_ev (shape_128 (famN o)) w
      rw [e1, e3] at this
      exact this
    · have := shape_ev (shape_160 (famN o)) w
      rw [e2] at this
      exact this

theorem shP_lt : ∀ o < 256, (shP o).1 < 13 := by decide +kernel

theorem not_empty {s : ByteArray} (h : s ≠ noS) : s.toList.isEmpty = false := by
  rw [Bool.eq_false_iff]
  intro e
  rw [Lib.toList_data, List.isEmpty_iff] at e
  obtain ⟨d⟩ := s
  obtain ⟨l⟩ := d
  have e' : l = [] := e
  subst e'
  exact h rfl

theorem name_size : ∀ k < 256, (nameN k).size ≤ 20 := by decide +kernel

theorem itoa_size (n : Nat) : (itoaB n).size ≤ 2 := by
  unfold itoaB
  split <;> simp [ByteArray.size]

/-- The answer, part by part. -/
structure OpR where
  name : ByteArray
  gas : Nat
  pops : Int
  pushes : Int
  data : Nat
  is : Bool

def OpR.val (r : OpR) : Value := .tuple #[.agg #[.string r.name, .int .u64 r.gas, .int .i64 r.pops, .int .i64 r.pushes, .int .i64 r.data], .bool r.is]

def opN (o : Nat) : OpR := if nameN (famK o) = noS then ⟨noS, 0, 0, 0, 0, false⟩ else ⟨if famN o = -1 then nameN (famK o) else nameN (famK o) ++ itoaB (famN o).toNat, costL.getD (shP o).1 0, (shP o).2.1, (shP o).2.2, skipN o, true⟩

theorem at_bodyPost {P : Program} {fn : Func} {R : Ending → World → Prop} {e : Exit} {a : Act} {w : World} (h : ∀ W0, W0 = w → bodyPost P fn R e a W0) : bodyPost P fn R e a w := h w rfl

set_option maxHeartbeats 4000000 in
set_option maxRecDepth 100000 in
theorem op_any (o : Nat) (h : o < 256) (w : World) : Calls Tryd.prog 13 #[.int .u8 o] w fun e w' => e = .returned (opN o).val ∧ Below w.heap.size w w' := by
  obtain ⟨hk, b1, b2⟩ := fam_bounds h
  by_cases hn : nameN (famK o) = noS
  · have h1 := hideP (fun W => family_any o h W)
    have h2 := hideP (fun W => nameOf_any (famK o) hk W)
    have HV : Hid (opN o = ⟨noS, 0, 0, 0, 0, false⟩) := if_pos hn
    rw [hn] at h2
    have h2 : Hid (∀ W, Calls Tryd.prog 55 #[.int .u8 (famK o)] W fun e w' => e = .returned (.string { data := #[] }) ∧ Below W.heap.size W w') := h2
    generalize famK o = k at *
    generalize famN o = n at *
    clear hn hk b1 b2 h
    go_enter Tryd.func13, Tryd.ntmps13
    go_wp2_with fail
    refine at_world_q (fun W0 hW0 => ?_)
    obtain ⟨HB, HBW⟩ := box1 hW0
    clear hW0
    refine (h1.out _).mono ?_
    rintro e w1 ⟨rfl, rfl⟩
    go_wp2_with fail
    refine (h2.out _).mono ?_
    rintro e w2 ⟨rfl, hb⟩
    replace HB := (hb.block _ (lt_of_block HB)).trans HB
    replace HBW := HBW.trans (hb.mono HBW.size)
    clear hb
    have y0 : ∀ i v, (#[Value.string { data := #[] }, .int .u64 0, .int .i64 0, .int .i64 0, .int .i64 0] : Array Value)[i]? = some v → w2.cell? ⟨w.heap.size, i, none⟩ = some v := fun i v hv => blk_cell HB hv
    have c0 := y0 0 _ rfl
    have c1 := y0 1 _ rfl
    have c2 := y0 2 _ rfl
    have c3 := y0 3 _ rfl
    have c4 := y0 4 _ rfl
    have cf : ∀ i, w2.frozen? ⟨w.heap.size, i, none⟩ = false := fun i => blk_free HB
    replace HB := hideP HB
    replace HBW := hideP HBW
    clear y0
    go_wp2_with fail
    have HF : ∀ V, V = ((((w2.setCell ⟨w.heap.size, 0, none⟩ (.string { data := #[] })).setCell ⟨w.heap.size, 1, none⟩ (.int .u64 0)).setCell ⟨w.heap.size, 2, none⟩ (.int .i64 0)).setCell ⟨w.heap.size, 3, none⟩ (.int .i64 0)).setCell ⟨w.heap.size, 4, none⟩ (.int .i64 0) →
        V.heap[w.heap.size]? = some (.cells #[(.string { data := #[] }), (.int .u64 0), (.int .i64 0), (.int .i64 0), (.int .i64 0)] 24 (0, 0)) ∧ Below w.heap.size w V := by
      rintro V rfl
      refine ⟨?_, ?_⟩
      · exact blk_set (blk_set (blk_set (blk_set (blk_set HB.out _) _) _) _) _
      · repeat first | exact HBW.out | (refine Below.setCell ?_ (by dsimp only <;> omega) _)
    refine at_bodyPost (fun V hV => ?_)
    obtain ⟨k1, k2⟩ := HF V hV
    clear HF hV c0 c1 c2 c3 c4 cf
    have c0 := blk_cell (o := 0) k1 rfl
    have c1 := blk_cell (o := 1) k1 rfl
    have c2 := blk_cell (o := 2) k1 rfl
    have c3 := blk_cell (o := 3) k1 rfl
    have c4 := blk_cell (o := 4) k1 rfl
    refine bodyPost_ret (v := .tuple #[.agg #[(.string { data := #[] }), (.int .u64 0), (.int .i64 0), (.int .i64 0), (.int .i64 0)], .bool false]) (by simp [results, Tryd.results13, go_sem, c0, c1, c2, c3, c4]) rfl ⟨by rw [HV.out]; rfl, k2⟩
  by_cases hm : famN o = -1
  · have h1 := hideP (fun W => family_any o h W)
    have h2 := hideP (fun W => nameOf_any (famK o) hk W)
    have h3 := hideP (fun W => shape_any o h hn W)
    have h4 := hideP (fun W => gas_any (shP o).1 (shP_lt o h) W)
    have h5 := hideP (fun W => dataOf_any o h W)
    have HV : Hid (opN o = ⟨nameN (famK o), costL.getD (shP o).1 0, (shP o).2.1, (shP o).2.2, skipN o, true⟩) := by show _ = _; unfold opN; rw [if_neg hn, if_pos hm]
    rw [hm] at h1 h3
    generalize famK o = k at *
    generalize skipN o = sk at *
    generalize costL.getD (shP o).1 0 = gs at *
    generalize shP o = sh at *
    obtain ⟨c, p, q⟩ := sh
    generalize nameN k = s at *
    have gs2 := not_empty hn
    clear hn hk b1 b2 hm
    go_enter Tryd.func13, Tryd.ntmps13
    go_wp2_with fail
    refine at_world_q (fun W0 hW0 => ?_)
    obtain ⟨HB, HBW⟩ := box1 hW0
    clear hW0
    refine (h1.out _).mono ?_
    rintro e w1 ⟨rfl, rfl⟩
    go_wp2_with fail
    refine (h2.out _).mono ?_
    rintro e w2 ⟨rfl, hb⟩
    replace HB := (hb.block _ (lt_of_block HB)).trans HB
    replace HBW := HBW.trans (hb.mono HBW.size)
    clear hb
    go_wp2_with fail
    refine (h3.out _).mono ?_
    rintro e w4 ⟨rfl, rfl⟩
    go_wp2_with fail
    refine (h4.out _).mono ?_
    rintro e w5 ⟨rfl, rfl⟩
    go_wp2_with fail
    refine (h5.out _).mono ?_
    rintro e w6 ⟨rfl, rfl⟩
    have y0 : ∀ i v, (#[Value.string { data := #[] }, .int .u64 0, .int .i64 0, .int .i64 0, .int .i64 0] : Array Value)[i]? = some v → w6.cell? ⟨w.heap.size, i, none⟩ = some v := fun i v hv => blk_cell HB hv
    have c0 := y0 0 _ rfl
    have c1 := y0 1 _ rfl
    have c2 := y0 2 _ rfl
    have c3 := y0 3 _ rfl
    have c4 := y0 4 _ rfl
    have cf : ∀ i, w6.frozen? ⟨w.heap.size, i, none⟩ = false := fun i => blk_free HB
    replace HB := hideP HB
    replace HBW := hideP HBW
    clear y0
    go_wp2_with fail
    have HF : ∀ V, V = ((((w6.setCell ⟨w.heap.size, 0, none⟩ (.string s)).setCell ⟨w.heap.size, 1, none⟩ (.int .u64 gs)).setCell ⟨w.heap.size, 2, none⟩ (.int .i64 p)).setCell ⟨w.heap.size, 3, none⟩ (.int .i64 q)).setCell ⟨w.heap.size, 4, none⟩ (.int .i64 sk) →
        V.heap[w.heap.size]? = some (.cells #[(.string s), (.int .u64 gs), (.int .i64 p), (.int .i64 q), (.int .i64 sk)] 24 (0, 0)) ∧ Below w.heap.size w V := by
      rintro V rfl
      refine ⟨?_, ?_⟩
      · exact blk_set (blk_set (blk_set (blk_set (blk_set HB.out _) _) _) _) _
      · repeat first | exact HBW.out | (refine Below.setCell ?_ (by dsimp only <;> omega) _)
    refine at_bodyPost (fun V hV => ?_)
    obtain ⟨k1, k2⟩ := HF V hV
    clear HF hV c0 c1 c2 c3 c4 cf
    have c0 := blk_cell (o := 0) k1 rfl
    have c1 := blk_cell (o := 1) k1 rfl
    have c2 := blk_cell (o := 2) k1 rfl
    have c3 := blk_cell (o := 3) k1 rfl
    have c4 := blk_cell (o := 4) k1 rfl
    refine bodyPost_ret (v := .tuple #[.agg #[(.string s), (.int .u64 gs), (.int .i64 p), (.int .i64 q), (.int .i64 sk)], .bool true]) (by simp [results, Tryd.results13, go_sem, c0, c1, c2, c3, c4]) rfl ⟨by rw [HV.out]; rfl, k2⟩
  · have h1 := hideP (fun W => family_any o h W)
    have h2 := hideP (fun W => nameOf_any (famK o) hk W)
    have h3 := hideP (fun W => shape_any o h hn W)
    have h4 := hideP (fun W => gas_any (shP o).1 (shP_lt o h) W)
    have h5 := hideP (fun W => dataOf_any o h W)
    have HV : Hid (opN o = ⟨nameN (famK o) ++ itoaB (famN o).toNat, costL.getD (shP o).1 0, (shP o).2.1, (shP o).2.2, skipN o, true⟩) := by show _ = _; unfold opN; rw [if_neg hn, if_neg hm]
    obtain ⟨m, hmm⟩ : ∃ m : Nat, famN o = m := ⟨(famN o).toNat, by omega⟩
    rw [hmm] at h1 h3 HV
    rw [Int.toNat_natCast] at HV
    have h6 := hideP (fun W => itoa_any m (by omega) W)
    have gm : ¬ (m : Int) = -1 := by omega
    have gz : ¬ 9223372036854775807 < (nameN (famK o)).size + (itoaB m).size := by have := name_size (famK o) hk; have := itoa_size m; omega
    generalize itoaB m = t at *
    generalize famK o = k at *
    generalize skipN o = sk at *
    generalize costL.getD (shP o).1 0 = gs at *
    generalize shP o = sh at *
    obtain ⟨c, p, q⟩ := sh
    generalize nameN k = s at *
    have gs2 := not_empty hn
    clear hn hk b1 b2 hm hmm
    go_enter Tryd.func13, Tryd.ntmps13
    go_wp2_with fail
    refine at_world_q (fun W0 hW0 => ?_)
    obtain ⟨HB, HBW⟩ := box1 hW0
    clear hW0
    refine (h1.out _).mono ?_
    rintro e w1 ⟨rfl, rfl⟩
    go_wp2_with fail
    refine (h2.out _).mono ?_
    rintro e w2 ⟨rfl, hb⟩
    replace HB := (hb.block _ (lt_of_block HB)).trans HB
    replace HBW := HBW.trans (hb.mono HBW.size)
    clear hb
    go_wp2_with fail
    refine (h6.out _).mono ?_
    rintro e w3 ⟨rfl, rfl⟩
    go_wp2_with fail
    refine (h3.out _).mono ?_
    rintro e w4 ⟨rfl, rfl⟩
    go_wp2_with fail
    refine (h4.out _).mono ?_
    rintro e w5 ⟨rfl, rfl⟩
    go_wp2_with fail
    refine (h5.out _).mono ?_
    rintro e w6 ⟨rfl, rfl⟩
    have y0 : ∀ i v, (#[Value.string { data := #[] }, .int .u64 0, .int .i64 0, .int .i64 0, .int .i64 0] : Array Value)[i]? = some v → w6.cell? ⟨w.heap.size, i, none⟩ = some v := fun i v hv => blk_cell HB hv
    have c0 := y0 0 _ rfl
    have c1 := y0 1 _ rfl
    have c2 := y0 2 _ rfl
    have c3 := y0 3 _ rfl
    have c4 := y0 4 _ rfl
    have cf : ∀ i, w6.frozen? ⟨w.heap.size, i, none⟩ = false := fun i => blk_free HB
    replace HB := hideP HB
    replace HBW := hideP HBW
    clear y0
    go_wp2_with fail
    have HF : ∀ V, V = ((((w6.setCell ⟨w.heap.size, 0, none⟩ (.string (s ++ t))).setCell ⟨w.heap.size, 1, none⟩ (.int .u64 gs)).setCell ⟨w.heap.size, 2, none⟩ (.int .i64 p)).setCell ⟨w.heap.size, 3, none⟩ (.int .i64 q)).setCell ⟨w.heap.size, 4, none⟩ (.int .i64 sk) →
        V.heap[w.heap.size]? = some (.cells #[(.string (s ++ t)), (.int .u64 gs), (.int .i64 p), (.int .i64 q), (.int .i64 sk)] 24 (0, 0)) ∧ Below w.heap.size w V := by
      rintro V rfl
      refine ⟨?_, ?_⟩
      · exact blk_set (blk_set (blk_set (blk_set (blk_set HB.out _) _) _) _) _
      · repeat first | exact HBW.out | (refine Below.setCell ?_ (by dsimp only <;> omega) _)
    refine at_bodyPost (fun V hV => ?_)
    obtain ⟨k1, k2⟩ := HF V hV
    clear HF hV c0 c1 c2 c3 c4 cf
    have c0 := blk_cell (o := 0) k1 rfl
    have c1 := blk_cell (o := 1) k1 rfl
    have c2 := blk_cell (o := 2) k1 rfl
    have c3 := blk_cell (o := 3) k1 rfl
    have c4 := blk_cell (o := 4) k1 rfl
    refine bodyPost_ret (v := .tuple #[.agg #[(.string (s ++ t)), (.int .u64 gs), (.int .i64 p), (.int .i64 q), (.int .i64 sk)], .bool true]) (by simp [results, Tryd.results13, go_sem, c0, c1, c2, c3, c4]) rfl ⟨by rw [HV.out]; rfl, k2⟩

end Go.Proofs.YtaeadndihchbnaaDoor
