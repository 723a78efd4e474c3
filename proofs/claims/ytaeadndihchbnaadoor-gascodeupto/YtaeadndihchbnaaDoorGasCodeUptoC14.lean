/-
  The document's instructions and places to jump to, in rows.
-/
import Derived.Deep.DeepAppendWide
import Derived.Test.YtaeadndihchbnaaDoorGasCodeUptoC13
namespace Go.Proofs.YtaeadndihchbnaaDoor
open Go.RowKit Go.Shelf

attribute [local go_sem] Oper.semAt_some

/-- The words of instructions, one behind the other. -/
def cdF (L : List (Nat × Nat)) : List Value := L.flatMap fun x => [.int .i64 (x.1 : Nat), .int .u8 (x.2 : Nat)]

theorem cdF_append (L M : List (Nat × Nat)) : cdF (L ++ M) = cdF L ++ cdF M := List.flatMap_append

theorem cdF_get : ∀ {L : List (Nat × Nat)} {k : Nat} {x : Nat × Nat}, L[k]? = some x → (cdF L)[k * 2]? = some (.int .i64 (x.1 : Nat)) ∧ (cdF L)[k * 2 + 1]? = some (.int .u8 (x.2 : Nat))
  | [], _, _, h => by cases h
  | y :: r, 0, x, h => by
    cases h
    exact ⟨rfl, rfl⟩
  | y :: r, k + 1, x, h => by
    obtain ⟨h0, h1⟩ := cdF_get (L := r) (k := k) (x := x) (by simpa using h)
    have e : cdF (y :: r) = .int .i64 (y.1 : Nat) :: .int .u8 (y.2 : Nat) :: cdF r := rfl
    rw [e, show (k + 1) * 2 = k * 2 + 1 + 1 by omega]
    refine ⟨?_, ?_⟩
    · rw [List.getElem?_cons_succ, List.getElem?_cons_succ]; exact h0
    · rw [show k * 2 + 1 + 1 + 1 = (k * 2 + 1) + 1 + 1 by omega, List.getElem?_cons_succ, List.getElem?_cons_succ]; exact h1

/-- What lies in a row that nobody else has can be read. -/
theorem row_cells {N e z : Nat} {w V : World} {v : Value} {M : Nat} {xs : List Value} (h : w.ownsRow N e z v M xs) (h0 : 0 < M) (hb : Below w.heap.size w V) : ∃ g cap, v = .slice (some ⟨g, 0, none⟩) M cap ∧ N ≤ g ∧ g < w.heap.size ∧ ∀ j u, xs[j]? = some u → V.cell? ⟨g, j, none⟩ = some u := by
  rcases h.2 with ⟨_, h1⟩ | ⟨g, cap, cur, rfl, h1, h2, h3, h4, h5, h6⟩
  · omega
  · refine ⟨g, cap, rfl, h1, lt_of_block h2, fun j u hu => ?_⟩
    have hbl : V.heap[g]? = some (.cells cur e (0, 0)) := (hb.block g (lt_of_block h2)).trans h2
    refine blk_cell hbl ?_
    rw [← h6] at hu
    have hlt : j < M * z := by
      have := (List.getElem?_eq_some_iff.1 hu).1
      rw [List.length_take] at this
      omega
    rw [List.getElem?_take_of_lt hlt] at hu
    rw [← Array.getElem?_toList]
    exact hu

theorem row_moved {N e z : Nat} {w V : World} {v : Value} {M : Nat} {xs : List Value} (h : w.ownsRow N e z v M xs) (hb : Below w.heap.size w V) : V.ownsRow N e z v M xs := ⟨h.1, by
  rcases h.2 with h1 | ⟨g, cap, cur, e1, h1, h2, rest⟩
  · exact Or.inl h1
  · exact Or.inr ⟨g, cap, cur, e1, h1, (hb.block g (lt_of_block h2)).trans h2, rest⟩⟩

theorem row_slice {N e z : Nat} {w : World} {v : Value} {M : Nat} {xs : List Value} (h : w.ownsRow N e z v M xs) : ∃ a c, v = .slice a M c := by
  rcases h.2 with ⟨rfl, rfl⟩ | ⟨g, cap, cur, rfl, _⟩
  · exact ⟨_, _, rfl⟩
  · exact ⟨_, _, rfl⟩

theorem Tryd.infoCode : (Tryd.prog.info? 62).map (fun i => (i.zero, i.size, i.bytes)) = some (some (.agg #[.int .i64 0, .int .u8 0]), 2, 16) := by kernel_rfl

theorem Tryd.infoInt : (Tryd.prog.info? 3).map (fun i => (i.zero, i.size, i.bytes)) = some (some (.int .i64 0), 1, 8) := by kernel_rfl

/-- One more instruction. -/
theorem code_append {N : Nat} {w : World} {v : Value} {k : Nat} {vs : List Value} (h : w.ownsRow N 62 2 v k vs) (hN : N ≤ w.heap.size) (hk : k ≤ 140737488355) {p o : Int} (ad : Addr) (c ty : Nat)
    (h0 : w.cell? ad = some (.int .i64 p)) (h1 : w.cell? (ad.add 1) = some (.int .u8 o)) :
    ∃ v' w', (Builtin.append_ #[56, 56] ty #[v, .slice (some ad) 1 c]).run Tryd.prog w = .ok v' w' ∧ w'.ownsRow N 62 2 v' (k + 1) (vs ++ [.int .i64 p, .int .u8 o]) ∧ Below N w w' := by
  obtain ⟨i0, hif, hz0, hz1, hz2⟩ := info_parts Tryd.infoCode
  have hT : Tryd.prog.underlying 56 = some (.slice 62) := by kernel_rfl
  have hnews : ∀ j u, [Value.int .i64 p, .int .u8 o][j]? = some u → w.cell? (ad.add j) = some u := by
    intro j u hu
    match j, hu with
    | 0, hu => cases hu; simpa [Addr.add] using h0
    | 1, hu => cases hu; exact h1
    | (j + 2), hu => simp at hu
  obtain ⟨v', w', hr, hO', hG, _⟩ := run_append_own_wide (P := Tryd.prog) w N 56 ty 62 i0 (.agg #[.int .i64 0, .int .u8 0]) 2 16 hT hif hz0 hz1 hz2 rfl (by omega) v k vs h ad 1 c _ rfl hnews (fun u hu => by
    simp only [List.mem_cons, List.not_mem_nil, or_false] at hu
    rcases hu with rfl | rfl <;> rfl) (by unfold maxLen; omega) (by omega) hN
  exact ⟨v', w', hr, hO', (Below.refl _ w).grown hG hN (fun x hx => (h.lt x hx).1)⟩

/-- One more number. -/
theorem int_append {N : Nat} {w : World} {v : Value} {k : Nat} {vs : List Value} (h : w.ownsRow N 3 1 v k vs) (hN : N ≤ w.heap.size) (hk : k ≤ 140737488355) {p : Int} (ad : Addr) (c ty : Nat)
    (h0 : w.cell? ad = some (.int .i64 p)) :
    ∃ v' w', (Builtin.append_ #[63, 63] ty #[v, .slice (some ad) 1 c]).run Tryd.prog w = .ok v' w' ∧ w'.ownsRow N 3 1 v' (k + 1) (vs ++ [.int .i64 p]) ∧ Below N w w' := by
  obtain ⟨i0, hif, hz0, hz1, hz2⟩ := info_parts Tryd.infoInt
  have hT : Tryd.prog.underlying 63 = some (.slice 3) := by kernel_rfl
  have hnews : ∀ j u, [Value.int .i64 p][j]? = some u → w.cell? (ad.add j) = some u := by
    intro j u hu
    match j, hu with
    | 0, hu => cases hu; simpa [Addr.add] using h0
    | (j + 1), hu => simp at hu
  obtain ⟨v', w', hr, hO', hG, _⟩ := run_append_own_wide (P := Tryd.prog) w N 63 ty 3 i0 (.int .i64 0) 1 8 hT hif hz0 hz1 hz2 rfl (by omega) v k vs h ad 1 c _ rfl hnews (fun u hu => by
    simp only [List.mem_cons, List.not_mem_nil, or_false] at hu
    rcases hu with rfl
    rfl) (by unfold maxLen; omega) (by omega) hN
  exact ⟨v', w', hr, hO', (Below.refl _ w).grown hG hN (fun x hx => (h.lt x hx).1)⟩

theorem wpList_append_run {ops : Array Oper} {rest : List Oper} {o : Oper} {a : Act} {w : World} {Q : Exit → Act → World → Prop} (hgd : o.guard = none) (s x : Operand) (t : TypeId)
    (ho : o.op = .call { callee := .builtin .append, args := #[s, x], argTypes := #[t, t] }) {ty : TypeId} (hty : o.type = ty) {vs vx v' : Value} {w' : World} (hs : a.eval s = vs) (hx : a.eval x = vx)
    (hrun : (Builtin.append_ #[t, t] ty #[vs, vx]).run Tryd.prog w = .ok v' w') (h : wpList Tryd.prog ops Q rest (a.put o.dst v') w') :
    wpList Tryd.prog ops Q (o :: rest) a w := by
  refine wpList_plain hgd fun K hK => ?_
  unfold Oper.wp
  subst hty
  simp [execOp, ho, resolve, invoke, builtin, hs, hx, hrun]
  exact hK _ _ h

theorem cells2 {w : World} {b : Nat} {x y : Value} {t : Nat} (h : w.heap[b]? = some (.cells #[x, y] t (0, 0))) : w.cell? ⟨b, 0, none⟩ = some x ∧ w.cell? ((⟨b, 0, none⟩ : Addr).add 1) = some y := ⟨blk_cell h rfl, blk_cell (o := 1) h rfl⟩

/-- How the document's Codes stands, so many instructions done. -/
structure RCI (w : World) (bs : Nat → Nat) (n : Nat) (v : Value) (k : Nat) (V : World) : Prop where
  row : V.ownsRow w.heap.size 62 2 v k (cdF ((insL bs n).take k))
  below : Below w.heap.size w V

theorem ins_len (bs : Nat → Nat) (n : Nat) : ∀ k, k ≤ (insL bs n).length → k ≤ posN bs n k
  | 0, _ => Nat.zero_le _
  | k + 1, h => by
    have := (ins_at (bs := bs) (n := n) (k := k) (by omega)).2.2
    have := ins_len bs n k (by omega)
    omega

set_option maxHeartbeats 4000000 in
set_option maxRecDepth 100000 in
theorem refCodes_any {ao : Option Addr} {n c : Nat} {bs : Nat → Nat} (hn : n ≤ 1048576) (w : World) (h : BS w ao n c bs) :
    Calls Tryd.prog 50 #[.slice ao n c] w fun e w' => (∃ v, e = .returned v ∧ w'.ownsRow w.heap.size 62 2 v (insL bs n).length (cdF (insL bs n))) ∧ Below w.heap.size w w' := by
  have H := hideP h
  have HN := hideP hn
  clear h hn
  go_enter Tryd.func50, Tryd.ntmps50
  go_wp2_with fail
  go_loopw [3, 4] (fun v i wr => ∃ k : Nat, k ≤ (insL bs n).length ∧ i = .int .i64 (posN bs n k : Nat) ∧ (∃ a m cc, v = .slice a m cc) ∧ Hid (RCI w bs n v k wr)) (fun _ i _ => n - (intOf i).toNat)
  case atStart => exact ⟨0, Nat.zero_le _, by rw [ins_zero]; rfl, ⟨_, _, _, rfl⟩, ⟨World.ownsRow_nil w _ _ 2, Below.refl _ _⟩⟩
  case round =>
    obtain ⟨k, hk, rfl, ⟨a0, m0, c0, rfl⟩, hI⟩ := hrel
    have hn := HN.out
    by_cases hlt : k < (insL bs n).length
    · obtain ⟨hat, hp, hnx⟩ := ins_at hlt
      obtain ⟨ad, rfl, hcell⟩ := (H.out.moved hI.out.below).cell _ hp
      have h256 := H.out.lt (posN bs n k)
      have htake : (insL bs n).take (k + 1) = (insL bs n).take k ++ [(posN bs n k, bs (posN bs n k))] := by rw [List.take_add_one, hat]; rfl
      have hkp := ins_len bs n k hk
      have hb3 : Below wr.heap.size wr (wr.alloc (.cells #[.int .i64 (posN bs n k : Nat), .int .u8 (bs (posN bs n k) : Nat)] 62)) := (Below.refl _ _).alloc (Nat.le_refl _) _
      obtain ⟨n0, n1⟩ := cells2 (heap_new wr (.cells #[.int .i64 (posN bs n k : Nat), .int .u8 (bs (posN bs n k) : Nat)] 62))
      have hbw3 := hI.out.below.trans (hb3.mono hI.out.below.size)
      obtain ⟨v', W4, hrun, hrow4, hb4⟩ := code_append (row_moved hI.out.row hb3) hbw3.size (by omega) ⟨wr.heap.size, 0, none⟩ 1 56 n0 n1
      obtain ⟨a4, c4, rfl⟩ := row_slice hrow4
      have hbw4 := hbw3.trans hb4
      obtain ⟨ad', e', hcell4⟩ := (H.out.moved hbw4).cell _ hp
      cases e'
      have hrow5 : W4.ownsRow w.heap.size 62 2 (.slice a4 (k + 1) c4) (k + 1) (cdF ((insL bs n).take (k + 1))) := by
        rw [htake, cdF_append]
        exact hrow4
      have HRUN := hideP hrun
      have HR : Hid (RCI w bs n (.slice a4 (k + 1) c4) (k + 1) W4) := ⟨hrow5, hbw4⟩
      have HF := hideP (And.intro hlt (And.intro hnx (And.intro hp hn)))
      have g1 : (posN bs n k : Int) < (n : Int) := by omega
      have hsk : skipN (bs (posN bs n k)) = if 96 ≤ bs (posN bs n k) ∧ bs (posN bs n k) ≤ 127 then bs (posN bs n k) - 95 else 0 := by unfold skipN; (repeat' split) <;> omega
      have HSK := hideP hsk
      clear hk hI hn hlt hat hnx htake hkp hb3 n0 n1 hbw3 hrun hrow4 hb4 hbw4 hrow5 hsk
      generalize hpq : posN bs n k = p at *
      generalize hoq : bs p = o at *
      by_cases g96 : 96 ≤ o
      · have f96 : (96 : Int) ≤ (o : Int) := by omega
        by_cases g127 : o ≤ 127
        · have f127 : (o : Int) ≤ 127 := by omega
          have t1 : IntKind.i64.wrap (o : Int) = (o : Int) := by rw [IntKind.wrap_i64]; omega
          have t2 : IntKind.i64.wrap ((p : Int) + (o : Int)) = (p : Int) + (o : Int) := by have := HF.out; rw [IntKind.wrap_i64]; omega
          have t3 : IntKind.i64.wrap ((p : Int) + (o : Int) - 95) = (p : Int) + (o : Int) - 95 := by have := HF.out; rw [IntKind.wrap_i64]; omega
          have t4 : IntKind.i64.wrap ((p : Int) + (o : Int) - 95 + 1) = (p : Int) + (o : Int) - 95 + 1 := by have := HF.out; rw [IntKind.wrap_i64]; omega
          have hj : ((posN bs n (k + 1) : Nat) : Int) = (p : Int) + (o : Int) - 95 + 1 := by
            rw [HF.out.2.1, HSK.out, if_pos ⟨g96, g127⟩]
            omega
          have HJ := hideP hj
          clear hj g96 g127 hp h256
          go_wp2_with (at_builtin; refine wpList_append_run rfl _ _ 56 rfl rfl rfl rfl HRUN.out ?_)
          have hp := HF.out
          exact ⟨⟨k + 1, hp.1, by rw [HJ.out], ⟨_, _, _, rfl⟩, HR⟩, by simp only [intOf]; omega⟩
        · have f127 : ¬ (o : Int) ≤ 127 := by omega
          have t4 : IntKind.i64.wrap ((p : Int) + 1) = (p : Int) + 1 := by have := HF.out; rw [IntKind.wrap_i64]; omega
          have hj : ((posN bs n (k + 1) : Nat) : Int) = (p : Int) + 1 := by
            rw [HF.out.2.1, HSK.out, if_neg (by omega)]
            omega
          have HJ := hideP hj
          clear hj g96 g127 hp h256
          go_wp2_with (at_builtin; refine wpList_append_run rfl _ _ 56 rfl rfl rfl rfl HRUN.out ?_)
          have hp := HF.out
          exact ⟨⟨k + 1, hp.1, by rw [HJ.out], ⟨_, _, _, rfl⟩, HR⟩, by simp only [intOf]; omega⟩
      · have f96 : ¬ (96 : Int) ≤ (o : Int) := by omega
        have t4 : IntKind.i64.wrap ((p : Int) + 1) = (p : Int) + 1 := by have := HF.out; rw [IntKind.wrap_i64]; omega
        have hj : ((posN bs n (k + 1) : Nat) : Int) = (p : Int) + 1 := by
          rw [HF.out.2.1, HSK.out, if_neg (by omega)]
          omega
        have HJ := hideP hj
        clear hj g96 hp h256
        go_wp2_with (at_builtin; refine wpList_append_run rfl _ _ 56 rfl rfl rfl rfl HRUN.out ?_)
        have hp := HF.out
        exact ⟨⟨k + 1, hp.1, by rw [HJ.out], ⟨_, _, _, rfl⟩, HR⟩, by simp only [intOf]; omega⟩
    · have hkl : k = (insL bs n).length := by omega
      subst hkl
      have he := ins_end bs n
      have g1 : ¬ (posN bs n (insL bs n).length : Int) < (n : Int) := by omega
      have HQ := hideP hI.out
      clear hI hk hn hlt he
      go_wp2_with fail
      go_ret
      refine ⟨⟨_, rfl, ?_⟩, HQ.out.below⟩
      have := HQ.out.row
      rwa [List.take_length] at this

/-- Numbers, one behind the other. -/
def nmF (L : List Nat) : List Value := L.map fun x => .int .i64 (x : Nat)

theorem row_base {N N' e z : Nat} {w : World} {v : Value} {M : Nat} {xs : List Value} (h : w.ownsRow N e z v M xs) (hN : N' ≤ N) : w.ownsRow N' e z v M xs := ⟨h.1, by
  rcases h.2 with h1 | ⟨g, cap, cur, e1, h1, rest⟩
  · exact Or.inl h1
  · exact Or.inr ⟨g, cap, cur, e1, by omega, rest⟩⟩

/-- How the document's Dests stands, so many instructions seen. -/
structure RDI (w : World) (bs : Nat → Nat) (n : Nat) (v : Value) (q : Nat) (V : World) : Prop where
  row : V.ownsRow w.heap.size 3 1 v (dstN bs n q) (nmF ((dstL bs n).take (dstN bs n q)))
  below : Below w.heap.size w V

set_option maxHeartbeats 4000000 in
set_option maxRecDepth 100000 in
theorem refDests_any {ao : Option Addr} {n c : Nat} {bs : Nat → Nat} (hn : n ≤ 1048576) (w : World) (h : BS w ao n c bs) :
    Calls Tryd.prog 52 #[.slice ao n c] w fun e w' => (∃ v, e = .returned v ∧ w'.ownsRow w.heap.size 3 1 v (dstL bs n).length (nmF (dstL bs n))) ∧ Below w.heap.size w w' := by
  have HC := hideP (refCodes_any hn w h)
  have HN := hideP (And.intro hn h.lt)
  clear h hn
  go_enter Tryd.func52, Tryd.ntmps52
  go_wp2_with fail
  refine HC.out.mono ?_
  rintro e w1 ⟨⟨v1, rfl, hrow⟩, hb⟩
  obtain ⟨a1, c1, rfl⟩ := row_slice hrow
  have HL := hideP (And.intro hrow hb)
  clear hrow hb HC
  go_wp2_with fail
  go_loopw [3, 5] (fun v i wr => ∃ q : Nat, q ≤ (insL bs n).length ∧ i = .int .i64 (q : Nat) ∧ (∃ a m cc, v = .slice a m cc) ∧ Hid (RDI w1 bs n v q wr)) (fun _ i _ => (insL bs n).length - (intOf i).toNat)
  case atStart => exact ⟨0, Nat.zero_le _, rfl, ⟨_, _, _, rfl⟩, ⟨by rw [dstN_zero]; exact World.ownsRow_nil w1 _ _ 1, Below.refl _ _⟩⟩
  case round =>
    obtain ⟨q, hq, rfl, ⟨a0, m0, c0, rfl⟩, hI⟩ := hrel
    obtain ⟨hn, h256⟩ := HN.out
    by_cases hlt : q < (insL bs n).length
    · obtain ⟨hat, hp, hnx⟩ := ins_at hlt
      have hqp := ins_len bs n q hq
      have hnq := dstN_next hlt
      obtain ⟨g, cap, ev, hg1, hg2, hrc⟩ := row_cells HL.out.1 (by omega) hI.out.below
      cases ev
      obtain ⟨y0, y1⟩ := cdF_get hat
      have z0 := hrc _ _ y0
      have z1 := hrc _ _ y1
      dsimp only at z0 z1
      have h256 := h256 (posN bs n q)
      have g1 : (q : Int) < ((insL bs n).length : Int) := by omega
      have t1 : IntKind.i64.wrap ((q : Int) + 1) = (q : Int) + 1 := by rw [IntKind.wrap_i64]; omega
      by_cases ho : bs (posN bs n q) = 91
      · have hd := dst_at hlt ho
        have hdl := dst_lt hlt ho
        have hle : dstN bs n q ≤ q := by
          unfold dstN
          have := List.countP_le_length (p := fun x : Nat × Nat => x.2 == 91) (l := (insL bs n).take q)
          rw [List.length_take] at this
          omega
        have htake : (dstL bs n).take (dstN bs n q + 1) = (dstL bs n).take (dstN bs n q) ++ [posN bs n q] := by rw [List.take_add_one, hd]; rfl
        have hb3 : Below wr.heap.size wr (wr.alloc (.cells #[.int .i64 (posN bs n q : Nat)] 3)) := (Below.refl _ _).alloc (Nat.le_refl _) _
        have n0 := blk_cell (o := 0) (heap_new wr (.cells #[.int .i64 (posN bs n q : Nat)] 3)) rfl
        have hbw3 := hI.out.below.trans (hb3.mono hI.out.below.size)
        obtain ⟨v', W4, hrun, hrow4, hb4⟩ := int_append (row_moved hI.out.row hb3) hbw3.size (by omega) ⟨wr.heap.size, 0, none⟩ 1 63 n0
        obtain ⟨a4, c4, rfl⟩ := row_slice hrow4
        rw [ho] at hnq
        have hI4 : RDI w1 bs n (.slice a4 (dstN bs n q + 1) c4) (q + 1) W4 := by
          refine ⟨?_, hbw3.trans hb4⟩
          rw [show dstN bs n (q + 1) = dstN bs n q + 1 from hnq, htake]
          unfold nmF
          rw [List.map_append]
          exact hrow4
        have HRUN := hideP hrun
        have HI4 := hideP hI4
        have HF := hideP hlt
        rw [ho] at z1
        clear hq hI hn hlt hat hp hnx hqp hnq hg1 hg2 hrc y0 y1 h256 ho hd hdl hle htake hb3 n0 hbw3 hrun hrow4 hb4 hI4
        generalize posN bs n q = p at *
        go_wp2_with (at_builtin; refine wpList_append_run rfl _ _ 63 rfl rfl rfl rfl HRUN.out ?_)
        have hlt := HF.out
        exact ⟨⟨q + 1, hlt, by rw [Int.natCast_add]; rfl, ⟨_, _, _, rfl⟩, HI4⟩, by simp only [intOf]; omega⟩
      · have hI4 : RDI w1 bs n (.slice a0 m0 c0) (q + 1) wr := by
          rw [if_neg (by simpa using ho)] at hnq
          exact ⟨by rw [show dstN bs n (q + 1) = dstN bs n q from hnq]; exact hI.out.row, hI.out.below⟩
        have e5 : ((bs (posN bs n q) : Nat) : Int) ≠ 91 := by omega
        have HI4 := hideP hI4
        have HF := hideP hlt
        clear hq hI hn hlt hat hp hnx hqp hnq hg1 hg2 hrc y0 y1 h256 ho hI4
        generalize bs (posN bs n q) = o at *
        have e6 : ((o : Int) == 91) = false := by simpa using e5
        go_wp2_with fail
        have hlt := HF.out
        exact ⟨⟨q + 1, hlt, by rw [Int.natCast_add]; rfl, ⟨_, _, _, rfl⟩, HI4⟩, by simp only [intOf]; omega⟩
    · have hkl : q = (insL bs n).length := by omega
      subst hkl
      have g1 : ¬ ((insL bs n).length : Int) < ((insL bs n).length : Int) := by omega
      have HQ := hideP hI.out
      clear hI hq hn hlt h256
      go_wp2_with fail
      go_ret
      have hb1 := HL.out.2.size
      refine ⟨⟨_, rfl, ?_⟩, HL.out.2.trans (HQ.out.below.mono hb1)⟩
      have := row_base HQ.out.row hb1
      rwa [dst_end, List.take_length] at this

theorem destB_iff {bs : Nat → Nat} {n : Nat} {at_ : Int} : destB bs n at_ = true ↔ ∃ k ∈ dstL bs n, (k : Int) = at_ := by
  unfold destB dstL destsL insL
  simp only [List.any_eq_true, Bool.and_eq_true, decide_eq_true_eq, beq_iff_eq, List.mem_map, List.mem_filter]
  constructor
  · rintro ⟨x, h1, h2, h3⟩
    exact ⟨x.1, ⟨x, ⟨h1, h3⟩, rfl⟩, h2⟩
  · rintro ⟨k, ⟨x, ⟨h1, h3⟩, rfl⟩, h2⟩
    exact ⟨x, h1, h2, h3⟩

set_option maxHeartbeats 4000000 in
set_option maxRecDepth 100000 in
theorem refDest_any {ao : Option Addr} {n c : Nat} {bs : Nat → Nat} (hn : n ≤ 1048576) (at_ : Int) (w : World) (h : BS w ao n c bs) :
    Calls Tryd.prog 49 #[.slice ao n c, .int .i64 at_] w fun e w' => e = .returned (.bool (destB bs n at_)) ∧ Below w.heap.size w w' := by
  have HC := hideP (refDests_any hn w h)
  have hl : (dstL bs n).length ≤ n := by
    rw [← dst_end]
    have h1 := ins_len bs n
    unfold dstN
    have h2 := List.countP_le_length (p := fun x : Nat × Nat => x.2 == 91) (l := (insL bs n).take (insL bs n).length)
    rw [List.take_length] at h2 ⊢
    by_cases h0 : (insL bs n).length = 0
    · omega
    · have := h1 ((insL bs n).length - 1) (by omega)
      have := (ins_at (bs := bs) (n := n) (k := (insL bs n).length - 1) (by omega)).2.1
      omega
  have HN := hideP (And.intro hn hl)
  clear h hn hl
  go_enter Tryd.func49, Tryd.ntmps49
  go_wp2_with fail
  refine HC.out.mono ?_
  rintro e w1 ⟨⟨v1, rfl, hrow⟩, hb⟩
  obtain ⟨a1, c1, rfl⟩ := row_slice hrow
  have HL := hideP (And.intro hrow hb)
  clear hrow hb HC
  go_wp2_with fail
  go_loopw [6] (fun i wr => ∃ q : Nat, q ≤ (dstL bs n).length ∧ i = .int .i64 (q : Nat) ∧ wr = w1 ∧ Hid (∀ j k, j < q → (dstL bs n)[j]? = some k → (k : Int) ≠ at_)) (fun i _ => (dstL bs n).length - (intOf i).toNat)
  case atStart => exact ⟨0, Nat.zero_le _, rfl, rfl, hideP fun j k hj => absurd hj (by omega)⟩
  case round =>
    obtain ⟨q, hq, rfl, rfl, hI⟩ := hrel
    obtain ⟨hn, hl⟩ := HN.out
    by_cases hlt : q < (dstL bs n).length
    · obtain ⟨k, hk⟩ : ∃ k, (dstL bs n)[q]? = some k := ⟨_, List.getElem?_eq_getElem hlt⟩
      obtain ⟨g, cap, ev, hg1, hg2, hrc⟩ := row_cells HL.out.1 (by omega) (Below.refl _ _)
      cases ev
      have z0 := hrc q (.int .i64 (k : Nat)) (by unfold nmF; rw [List.getElem?_map, hk]; rfl)
      have g1 : (q : Int) < ((dstL bs n).length : Int) := by omega
      have t1 : IntKind.i64.wrap ((q : Int) + 1) = (q : Int) + 1 := by rw [IntKind.wrap_i64]; omega
      by_cases ho : (k : Int) = at_
      · have hd : destB bs n at_ = true := destB_iff.2 ⟨k, List.mem_of_getElem? hk, ho⟩
        have HD := hideP hd
        have HB := hideP HL.out.2
        have e6 : ((k : Int) == at_) = true := by simpa using ho
        clear hq hI hn hlt hk hg1 hg2 hrc ho hd hl
        go_wp2_with fail
        go_ret
        exact ⟨by rw [HD.out]; rfl, HB.out⟩
      · have hI4 : ∀ j k, j < q + 1 → (dstL bs n)[j]? = some k → (k : Int) ≠ at_ := fun j k' hj h' => by
          by_cases e : j = q
          · subst e
            rw [hk] at h'
            cases h'
            exact ho
          · exact hI.out j k' (by omega) h'
        have HI4 := hideP hI4
        have HF := hideP hlt
        have e6 : ((k : Int) == at_) = false := by simpa using ho
        clear hq hI hn hlt hk hg1 hg2 hrc ho hI4 hl
        go_wp2_with fail
        have hlt := HF.out
        exact ⟨⟨q + 1, hlt, by rw [Int.natCast_add]; rfl, trivial, HI4⟩, by simp only [intOf]; omega⟩
    · have hkl : q = (dstL bs n).length := by omega
      subst hkl
      have g1 : ¬ ((dstL bs n).length : Int) < ((dstL bs n).length : Int) := by omega
      have hd : destB bs n at_ = false := by
        rw [Bool.eq_false_iff]
        intro h
        obtain ⟨k, hk, e⟩ := destB_iff.1 h
        obtain ⟨j, hj, rfl⟩ := List.getElem_of_mem hk
        exact hI.out j _ hj (List.getElem?_eq_getElem hj) e
      have HD := hideP hd
      clear hI hq hn hlt hd hl
      go_wp2_with fail
      go_ret
      exact ⟨by rw [HD.out]; rfl, HL.out.2⟩

end Go.Proofs.YtaeadndihchbnaaDoor
