/-
  Copies of items: the program's copyItems and List.
-/
import Derived.Test.YtigebmidfddbcaaRlpMeansC21
namespace Go.Proofs.Ytigebmidfddbcaa
open Go.RowKit Go.Shelf

theorem wpList_append_run {ops : Array Oper} {rest : List Oper} {o : Oper} {a : Act} {w : World} {Q : Exit → Act → World → Prop} (hgd : o.guard = none) (s x : Operand) (t : TypeId)
    (ho : o.op = .call { callee := .builtin .append, args := #[s, x], argTypes := #[t, t] }) {ty : TypeId} (hty : o.type = ty) {vs vx v' : Value} {w' : World} (hs : a.eval s = vs) (hx : a.eval x = vx)
    (hrun : (Builtin.append_ #[t, t] ty #[vs, vx]).run Try.prog w = .ok v' w') (h : wpList Try.prog ops Q rest (a.put o.dst v') w') :
    wpList Try.prog ops Q (o :: rest) a w := by
  refine wpList_plain hgd fun K hK => ?_
  unfold Oper.wp
  subst hty
  simp [execOp, ho, resolve, invoke, builtin, hs, hx, hrun]
  exact hK _ _ h

theorem append_none {w : World} {ty : Nat} {ao : Option Addr} {c : Nat} (hks : KS w ao 0 c) :
    (Builtin.append_ #[24, 24] ty #[.slice none 0 0, .slice ao 0 c]).run Try.prog w = .ok (.slice none 0 0) w := by
  obtain ⟨i0, hif, hz0, hz1, hz2⟩ := info_parts Try.infoItem
  have hT : Try.prog.underlying 24 = some (.slice 26) := by kernel_rfl
  cases ao with
  | none => exact run_append_nothing (P := Try.prog) w 24 24 ty 26 i0 hT hif _ 0 0 (Nat.le_refl _) _ (Src.ofNil w hT c)
  | some a => exact run_append_nothing (P := Try.prog) w 24 24 ty 26 i0 hT hif _ 0 0 (Nat.le_refl _) _ (Src.ofSlice w hT a 0 c [] (by simp) (fun j u h => by simp at h) (fun u h => by cases h))

/-- How copying stands, so many items done. -/
structure CI (w : World) (cap : Nat) (ts : List Tree) (i : Nat) (V : World) : Prop where
  row : ∃ cur, V.heap[w.heap.size]? = some (.cells cur 26 (0, 0)) ∧ cur.size = cap * 3 ∧ ∀ j t, ts[j]? = some t → ∃ v0 v1 v2, cur[j * 3]? = some v0 ∧ cur[j * 3 + 1]? = some v1 ∧ cur[j * 3 + 2]? = some v2 ∧
    (j < i → IsItem (cutR w.heap.size (some w.heap.size) V) t (.agg #[v0, v1, v2])) ∧ (i ≤ j → IsItem w t (.agg #[v0, v1, v2]))
  below : Below w.heap.size w V

theorem CI.done {w : World} {cap : Nat} {ts : List Tree} {V : World} (h : CI w cap ts ts.length V) (hle : ts.length ≤ cap) (hm : cap ≤ maxLen) : KR w.heap.size V (.slice (some ⟨w.heap.size, 0, none⟩) ts.length cap) ts := by
  obtain ⟨cur, h1, h2, h3⟩ := h.row
  refine ⟨cur.toList.take (ts.length * 3), ⟨?_, Or.inr ⟨w.heap.size, cap, cur, rfl, Nat.le_refl _, h1, hle, hm, h2, rfl⟩⟩, fun j t ht => ?_⟩
  · have : cur.toList.length = cap * 3 := by rw [Array.length_toList, h2]
    rw [List.length_take, this]
    omega
  · obtain ⟨v0, v1, v2, e0, e1, e2, hi, _⟩ := h3 j t ht
    have hj := (List.getElem?_eq_some_iff.1 ht).1
    refine ⟨v0, v1, v2, ?_, ?_, ?_, hi hj⟩
    all_goals rw [List.getElem?_take_of_lt (by omega), Array.getElem?_toList]
    all_goals assumption

/-- An item out of its parts. -/
theorem item_of_parts {V : World} {l : Int} {b : List Nat} {k : List Tree} {so ka : Option Addr} {c c' : Nat} (h1 : BS V so b.length c (lb b)) (h2 : KS V ka k.length c') (h3 : IsKids V k ka 0) :
    IsItem V (.node l b k) (.agg #[.int .i64 l, .slice so b.length c, .slice ka k.length c']) := by
  unfold IsItem
  exact ⟨so, c, ka, c', rfl, h1, h2, h3⟩

/-- Bytes of one's own, in another world. -/
theorem Own.into {N : Nat} {w V : World} {so : Option Addr} {n c : Nat} {bs : Nat → Nat} (h : Own N w (.slice so n c) n bs) (hc : ∀ a u, N ≤ a.block → w.cell? a = some u → V.cell? a = some u) : BS V so n c bs := by
  obtain ⟨ao, cap, e, hB, hg⟩ := h.ex
  cases e
  refine ⟨hB.lt, hB.le, hB.room, fun j hj => ?_, hB.nil⟩
  obtain ⟨ad, rfl, hv⟩ := hB.cell j hj
  rcases hg with h | ⟨g, e, h1, h2⟩
  · cases h
  · cases e
    exact ⟨_, rfl, hc _ _ (by rw [add_block]; exact h1) hv⟩

set_option maxHeartbeats 8000000 in
set_option maxRecDepth 100000 in
theorem copyItems_all : ∀ (N : Nat) (ts : List Tree) (ao : Option Addr) (c : Nat) (w : World), Tree.nums ts < N → KS w ao ts.length c → IsKids w ts ao 0 → ts.length ≤ 3518437208884 → Tree.fitsK ts →
    Calls Try.prog 62 #[.slice ao ts.length c] w fun e w' => (∃ kv, e = .returned kv ∧ KR w.heap.size w' kv ts) ∧ Below w.heap.size w w'
  | 0, _, _, _, _, h, _, _, _, _ => absurd h (by omega)
  | N + 1, ts, ao, c, w, hN, hKS, hK, hlen, hfit => by
    by_cases h0 : ts.length = 0
    · have hr := append_none (ty := 24) (w := w) (ao := ao) (c := c) (by rw [h0] at hKS; exact hKS)
      have hts := List.eq_nil_of_length_eq_zero h0
      subst hts
      have HR := hideP hr
      clear hr hK hKS hN hlen hfit h0
      simp only [List.length_nil]
      go_enter Try.func62, Try.ntmps62
      go_wp2_with (at_builtin; refine wpList_append_run rfl _ _ 24 rfl rfl rfl rfl HR.out ?_)
      go_loopw [10] (fun i wr => i = .int .i64 0 ∧ wr = w) (fun _ _ => 0)
      case atStart => exact ⟨rfl, rfl⟩
      case round =>
        obtain ⟨rfl, rfl⟩ := hrel
        go_wp2_with fail
        go_ret
        exact ⟨⟨_, rfl, KR.nil _ _⟩, Below.refl _ _⟩
    · obtain ⟨g0, rfl⟩ : ∃ g0, ao = some ⟨g0, 0, none⟩ := by
        rcases hKS.at_ with ⟨_, h⟩ | ⟨g0, h⟩
        · have := hKS.le
          omega
        · exact ⟨g0, h⟩
      obtain ⟨cap, cur, w1, hrun, hb1, hrow, hle, hmax, hcs, hsz1, hits⟩ := append_row (ty := 24) (c := c) hK (by omega) hlen
      have hCI0 : CI w cap ts 0 w1 := ⟨⟨cur, hrow, hcs, fun j t ht => by
        obtain ⟨v0, v1, v2, e0, e1, e2, hi⟩ := hits j t ht
        exact ⟨v0, v1, v2, e0, e1, e2, fun h => absurd h (by omega), fun _ => hi⟩⟩, hb1⟩
      have HR := hideP hrun
      have HCI0 := hideP hCI0
      have hIH := copyItems_all N
      have HIH := hideP hIH
      have HALL := hideP (And.intro hle (And.intro hmax (And.intro hN (And.intro hlen (And.intro hfit h0)))))
      have hn63 : ts.length ≤ 9223372036854775807 := by omega
      generalize hn : ts.length = n at *
      have HNN := hideP hn
      clear hrun hb1 hrow hcs hsz1 hits hK hKS hIH hCI0 hle hmax hN hlen hfit hn h0
      go_enter Try.func62, Try.ntmps62
      go_wp2_with (at_builtin; refine wpList_append_run rfl _ _ 24 rfl rfl rfl rfl HR.out ?_)
      go_loopw [10] (fun i wr => ∃ k : Nat, i = .int .i64 (k : Int) ∧ k ≤ n ∧ Hid (CI w cap ts k wr)) (fun i _ => n - (intOf i).toNat)
      case atStart => exact ⟨0, rfl, Nat.zero_le _, HCI0⟩
      case round =>
        obtain ⟨i, rfl, hin, hCI⟩ := hrel
        by_cases hlt : i < n
        · obtain ⟨cur', hrow, hcs, hits⟩ := hCI.out.row
          have hil : i < ts.length := by rw [HNN.out]; exact hlt
          obtain ⟨v0, v1, v2, e0, e1, e2, _, hit⟩ := hits i ts[i] (List.getElem?_eq_getElem hil)
          have hit := hit (Nat.le_refl _)
          obtain ⟨hle, hmax, hN, hlen, hfit, h0⟩ := HALL.out
          have hfi := Tree.fitsK_get hfit (List.getElem?_eq_getElem hil)
          have hnum := Tree.nums_mem (List.getElem_mem hil)
          have hget := List.getElem?_eq_getElem hil
          generalize ts[i] = ti at *
          cases ti with
          | node l b k =>
          unfold Tree.fits at hfi
          unfold Tree.num at hnum
          obtain ⟨a1, d1, a2, d2, hv, hB, hK2, hKids⟩ := hit.form
          simp only [Value.agg.injEq, Array.mk.injEq, List.cons.injEq, and_true] at hv
          obtain ⟨rfl, rfl, rfl⟩ := hv
          have c0 := blk_cell hrow e0
          have c1 := blk_cell hrow e1
          have c2 := blk_cell hrow e2
          have g4 : (i : Int) < (n : Int) := by omega
          have g4' : 0 ≤ (i : Int) := by omega
          have e9 : IntKind.i64.wrap ((i : Int) + 1) = ((i + 1 : Nat) : Int) := by rw [IntKind.wrap_i64]; omega
          have hwr := lt_of_block hrow
          have hbl := hCI.out.below
          have hbA : Below w.heap.size w (wr.alloc (.cells #[.int .i64 l, .slice a1 b.length d1, .slice a2 k.length d2] 26)) := hbl.alloc hbl.size _
          have hcp := copyBytes_any hfi.1 _ (hB.moved hbA)
          have HCP := hideP hcp
          have HQ := hideP (And.intro hrow (And.intro hcs (And.intro hits (And.intro hB (And.intro hK2 (And.intro hKids (And.intro hfi (And.intro hnum (And.intro hN (And.intro hbl (And.intro hget (And.intro hwr (And.intro e0 (And.intro e1 (And.intro e2 (And.intro hle hlt))))))))))))))))
          clear hrow hcs hits hB hK2 hKids hfi hnum hN hit hbl hcp hbA hle hmax hlen hfit h0 hil hget e0 e1 e2 hlt hin
          generalize hnb : b.length = nb at *
          generalize hnk : k.length = nk at *
          have HNB := hideP hnb
          have HNK := hideP hnk
          clear hnb hnk
          go_wp2_with fail
          refine HCP.out.mono ?_
          rintro e W2 ⟨⟨sv, rfl, hO⟩, hb2⟩
          obtain ⟨so, sc, rfl, _, _⟩ := hO.ex
          obtain ⟨hrow, hcs, hits, hB, hK2, hKids, hfi, hnum, hN, hbl, hget, hwr, e0, e1, e2, hle, hlt⟩ := HQ.out
          have hsz2 := hb2.size
          rw [World.size_alloc] at hsz2
          have hrow2 : W2.heap[w.heap.size]? = some (.cells cur' 26 (0, 0)) := (hb2.block _ (by rw [World.size_alloc]; omega)).trans ((heap_old _ _ hwr).trans hrow)
          have hx2 := (hb2.block wr.heap.size (by rw [World.size_alloc]; omega)).trans (heap_new wr _)
          have m1 := blk_cell hrow2 e1
          have m2 := blk_cell hrow2 e2
          have mf : ∀ o, W2.frozen? ⟨w.heap.size, o, none⟩ = false := fun o => blk_free hrow2
          obtain ⟨x0, x1, x2⟩ := cells3 hx2
          have hne : ¬ wr.heap.size = w.heap.size := by omega
          have hne' : ¬ w.heap.size = wr.heap.size := by omega
          have hrow3 : (W2.setCell ⟨w.heap.size, i * 3 + 1, none⟩ (.slice so nb sc)).heap[w.heap.size]? = some (.cells (cur'.setIfInBounds (i * 3 + 1) (.slice so nb sc)) 26 (0, 0)) := blk_set hrow2 _
          have hbA : Below w.heap.size w (wr.alloc (.cells #[.int .i64 l, .slice a1 nb d1, .slice a2 nk d2] 26)) := hbl.alloc hbl.size _
          have hb3 : Below w.heap.size w (W2.setCell ⟨w.heap.size, i * 3 + 1, none⟩ (.slice so nb sc)) := (hbA.trans (hb2.mono hbA.size)).setCell (Nat.le_refl _) _
          have hcall := HIH.out k a2 d2 _ (by omega) ⟨by rw [HNK.out]; exact hK2.le, hK2.room, hK2.at_⟩ (hKids.moved hb3) (by rw [HNK.out]; exact hfi.2.1) hfi.2.2
          rw [HNK.out] at hcall
          have HC2 := hideP hcall
          have HQ2 := hideP (And.intro hb2 (And.intro hO (And.intro hrow3 (And.intro hb3 (And.intro hrow2 hsz2)))))
          have HWX : Hid (wr.heap.size < (W2.setCell ⟨w.heap.size, i * 3 + 1, none⟩ (.slice so nb sc)).heap.size) := hideP (by simp; omega)
          clear hrow hcs hits hB hK2 hKids hfi hnum hN hbl hget hwr e0 e1 e2 hle hlt hb2 hO hrow2 hx2 hrow3 hb3 hcall hsz2 c0 c1 c2 hbA HCP
          go_wp2_with fail
          refine HC2.out.mono ?_
          rintro e W4 ⟨⟨kv, rfl, hKR⟩, hb4⟩
          obtain ⟨ka, kc, rfl⟩ := hKR.len
          rw [HNK.out] at hKR ⊢
          obtain ⟨hb2, hO, hrow3, hb3, hrow2, hsz2⟩ := HQ2.out
          have hsz3 : (W2.setCell ⟨w.heap.size, i * 3 + 1, none⟩ (.slice so nb sc)).heap.size = W2.heap.size := by simp
          have hsz4 := hb4.size
          rw [hsz3] at hsz4
          have hw2 := lt_of_block hrow2
          have hrow4 : W4.heap[w.heap.size]? = some (.cells (cur'.setIfInBounds (i * 3 + 1) (.slice so nb sc)) 26 (0, 0)) := (hb4.block _ (lt_of_block hrow3)).trans hrow3
          obtain ⟨hrow, hcs, hits, hB, hK2, hKids, hfi, hnum, hN, hbl, hget, hwr, e0, e1, e2, hle, hlt⟩ := HQ.out
          have hc2 : (cur'.setIfInBounds (i * 3 + 1) (.slice so nb sc))[i * 3 + 2]? = some (.slice a2 nk d2) := by
            rw [Array.getElem?_setIfInBounds_ne (by omega)]; exact e2
          have p2 := blk_cell hrow4 hc2
          have pf : ∀ o, W4.frozen? ⟨w.heap.size, o, none⟩ = false := fun o => blk_free hrow4
          have hCI5 : CI w cap ts (i + 1) (W4.setCell ⟨w.heap.size, i * 3 + 2, none⟩ (.slice ka nk kc)) := by
            have hgo : ∀ b, b < wr.heap.size → b ≠ w.heap.size → (W4.setCell ⟨w.heap.size, i * 3 + 2, none⟩ (.slice ka nk kc)).heap[b]? = wr.heap[b]? := fun b h1 h2 =>
              (Below.heap_setCell _ _ _ _ h2).trans ((hb4.block _ (by omega)).trans ((Below.heap_setCell _ _ _ _ h2).trans ((hb2.block _ (by rw [World.size_alloc]; omega)).trans (heap_old _ _ h1))))
            refine ⟨⟨_, blk_set hrow4 _, by simpa using hcs, fun j t ht => ?_⟩, ?_⟩
            · obtain ⟨u0, u1, u2, f0, f1, f2, hd, hu⟩ := hits j t ht
              by_cases hj : j = i
              · subst hj
                rw [ht] at hget
                cases hget
                rw [e0] at f0
                cases f0
                have hs1 := (Array.getElem?_eq_some_iff.1 e1).1
                have hs2 := (Array.getElem?_eq_some_iff.1 e2).1
                refine ⟨.int .i64 l, .slice so nb sc, .slice ka nk kc, ?_, ?_, ?_, fun _ => ?_, fun h => absurd h (by omega)⟩
                · rw [Array.getElem?_setIfInBounds_ne (by omega), Array.getElem?_setIfInBounds_ne (by omega)]; exact e0
                · rw [Array.getElem?_setIfInBounds_ne (by omega), Array.getElem?_setIfInBounds_self_of_lt hs1]
                · rw [Array.getElem?_setIfInBounds_self_of_lt (by simpa using hs2)]
                · have hkk := hKR.kids
                  obtain ⟨ka', kc', ee, hk1, hk2⟩ := hkk
                  cases ee
                  have hO' := hO
                  rw [← HNB.out] at hO' ⊢
                  rw [← HNK.out]
                  refine item_of_parts (hO'.into fun a u h1 h2 => ?_) ⟨hk1.le, hk1.room, hk1.at_⟩ (hk2.mono fun a u hc => ?_)
                  · rw [World.size_alloc] at h1
                    have hne : a.block ≠ w.heap.size := by omega
                    have hal := World.block_lt_of_cell? _ _ h2
                    exact cutR_cell.2 ⟨by omega, fun e => hne (Option.some.inj e).symm, (cell_congr (Below.heap_setCell _ _ _ _ hne)).trans ((cell_congr (hb4.block _ (by rw [hsz3]; exact hal))).trans ((cell_congr (Below.heap_setCell _ _ _ _ hne)).trans h2))⟩
                  · obtain ⟨h1, h2⟩ := cut_cell.1 hc
                    rw [hsz3] at h1
                    have hne : a.block ≠ w.heap.size := by omega
                    exact cutR_cell.2 ⟨by omega, fun e => hne (Option.some.inj e).symm, (cell_congr (Below.heap_setCell _ _ _ _ hne)).trans h2⟩
              · refine ⟨u0, u1, u2, ?_, ?_, ?_, fun h => (hd (by omega)).mono fun a u hc => ?_, fun h => hu (by omega)⟩
                · rw [Array.getElem?_setIfInBounds_ne (by omega), Array.getElem?_setIfInBounds_ne (by omega)]; exact f0
                · rw [Array.getElem?_setIfInBounds_ne (by omega), Array.getElem?_setIfInBounds_ne (by omega)]; exact f1
                · rw [Array.getElem?_setIfInBounds_ne (by omega), Array.getElem?_setIfInBounds_ne (by omega)]; exact f2
                · obtain ⟨h1, h2, h3⟩ := cutR_cell.1 hc
                  have hne : a.block ≠ w.heap.size := fun e => h2 (by rw [e])
                  exact cutR_cell.2 ⟨h1, h2, (cell_congr (hgo _ (World.block_lt_of_cell? _ _ h3) hne)).trans h3⟩
            · exact (hb3.trans (hb4.mono hb3.size)).setCell (Nat.le_refl _) _
          have HCI5 := hideP hCI5
          have HLT := hideP hlt
          clear hrow hcs hits hB hK2 hKids hfi hnum hN hbl hget hwr e0 e1 e2 hle hlt hb2 hO hrow3 hb3 hrow2 hsz2 hKR hb4 hrow4 hc2 hCI5 hsz3 hsz4 hw2 m1 m2 mf x0 x1 x2 hne hne' HC2 HQ2 HQ
          go_wp2_with fail
          exact ⟨⟨i + 1, rfl, HLT.out, HCI5⟩, by have := HLT.out; simp [intOf]; omega⟩
        · have hin' : i = n := by omega
          subst hin'
          have HK : Hid (KR w.heap.size wr (.slice (some ⟨w.heap.size, 0, none⟩) i cap) ts) := hideP (by
            have h := hCI.out
            obtain ⟨hle, hmax, hN, hlen, hfit, h0⟩ := HALL.out
            have e := HNN.out
            rw [← e] at h hle h0 ⊢
            exact h.done hle hmax)
          have HB := hideP hCI.out.below
          clear hin
          go_wp2_with fail
          go_ret
          exact ⟨⟨_, rfl, HK.out⟩, HB.out⟩

set_option maxHeartbeats 1000000 in
set_option maxRecDepth 100000 in
theorem rlpList_any {ts : List Tree} {ao : Option Addr} {c : Nat} (w : World) (hKS : KS w ao ts.length c) (hK : IsKids w ts ao 0) (hlen : ts.length ≤ 3518437208884) (hfit : Tree.fitsK ts) :
    Calls Try.prog 42 #[.slice ao ts.length c] w fun e w' => (∃ v, e = .returned v ∧ IsItem (cut w.heap.size w') (.node 1 [] ts) v) ∧ Below w.heap.size w w' := by
  have hb1 : Below w.heap.size w (w.alloc (.cells #[.int .i64 0, .slice none 0 0, .slice none 0 0] 26)) := (Below.refl _ w).alloc (Nat.le_refl _) _
  have HC := hideP (copyItems_all (Tree.nums ts + 1) ts ao c _ (by omega) ⟨hKS.le, hKS.room, hKS.at_⟩ (hK.moved hb1) hlen hfit)
  have HB := hideP hb1
  have HBX := hideP (heap_new w (.cells #[.int .i64 0, .slice none 0 0, .slice none 0 0] 26))
  clear hKS hK hlen hfit hb1
  generalize hn : ts.length = n at *
  have HNN := hideP hn
  clear hn
  go_enter Try.func42, Try.ntmps42
  go_wp2_with fail
  refine HC.out.mono ?_
  rintro e w2 ⟨⟨kv, rfl, hKR⟩, hb2⟩
  obtain ⟨ka, kc, rfl⟩ := hKR.len
  have HL := hideP (list_any ka ts.length kc w2)
  rw [World.size_alloc] at hKR hb2
  have HK2 := hideP hKR
  have HB2 := hideP hb2
  clear hKR hb2
  go_wp2_with fail
  refine HL.out.mono ?_
  rintro e w3 ⟨rfl, hb3⟩
  have hs2 := HB2.out.size
  rw [World.size_alloc] at hs2
  have hbx := (hb3.block w.heap.size (by omega)).trans ((HB2.out.block w.heap.size (by omega)).trans HBX.out)
  obtain ⟨y0, y1, y2⟩ := cells3 hbx
  have yf : ∀ o, w3.frozen? ⟨w.heap.size, o, none⟩ = false := fun o => blk_free hbx
  have hK3 := (HK2.out.same (w' := w3) fun b o _ ho _ => (hb3.block b (lt_of_block ho)).trans ho).item
  have HK3 := hideP hK3
  have HB3 : Hid (Below w.heap.size w w3) := hideP ((HB.out.trans (HB2.out.mono (by omega))).trans (hb3.mono (by omega)))
  clear hb3 hbx hK3 hs2
  go_wp2_with fail
  refine bodyPost_ret (v := .agg #[.int .i64 1, .slice none 0 0, .slice ka ts.length kc]) (by simp [results, Try.results42, go_sem, y0, y1, y2, World.cell?_setCell_same]) rfl ⟨⟨_, rfl, HK3.out.mono fun a u hc => ?_⟩, ?_⟩
  · obtain ⟨h1, h2⟩ := cut_cell.1 hc
    have hne : a.block ≠ w.heap.size := by omega
    exact cut_cell.2 ⟨by omega, (cell_congr (Below.heap_setCell _ _ _ _ hne)).trans ((cell_congr (Below.heap_setCell _ _ _ _ hne)).trans ((cell_congr (Below.heap_setCell _ _ _ _ hne)).trans h2))⟩
  · exact ((HB3.out.setCell (Nat.le_refl _) _).setCell (Nat.le_refl _) _).setCell (Nat.le_refl _) _

end Go.Proofs.Ytigebmidfddbcaa
