/-
  Decoding, as the document says it: the walk of RlpDecodes.
-/
import Derived.Test.YtigebmidfddbcaaOpens
import Derived.Test.YtigebmidfddbcaaCut
import Derived.Test.YtigebmidfddbcaaRDec
namespace Go.Proofs.Ytigebmidfddbcaa
open Go.RowKit Go.Shelf

/-- How the bytes stand that are written over. -/
structure WI (w V : World) (g cap : Nat) (wr : World) : Prop where
  cur : ∃ cur : Array Value, wr.heap[g]? = some (.cells cur 5 (0, 0)) ∧ cur.size = cap
  keep : ∀ b, b ≠ g → wr.heap[b]? = V.heap[b]?
  below : Below w.heap.size w wr

set_option maxHeartbeats 8000000 in
set_option maxRecDepth 100000 in
theorem rlpDecodes_walk {b : List Nat} {ao : Option Addr} {c : Nat} (w : World) (h : BS w ao b.length c (lb b)) (hn : b.length ≤ 140737488355328) :
    Calls Try.prog 4 #[.slice ao b.length c] w fun e w' => e = .returned (.bool true) ∧ Below w.heap.size w w' := by
  have hby := fun (W : World) (hb : Below w.heap.size w W) => lawBytes_any hn W (h.moved hb)
  have hbr := fun (W : World) (hb : Below w.heap.size w W) => lawBytes_row hn W (h.moved hb)
  have hrh := fun (W : World) (hb : Below w.heap.size w W) => refHead_any W (h.moved hb) hn
  have hrd := fun (W : World) (hb : Below w.heap.size w W) => refDecode_any W (h.moved hb) hn
  have hdd := fun (W : World) (ao' : Option Addr) (c' : Nat) (hB : BS W ao' b.length c' (lb b)) => decode_any W hB hn
  have hhh := fun (W : World) (ao' : Option Addr) (c' : Nat) (hB : BS W ao' b.length c' (lb b)) => head_any W hB
  have hst := fun (W : World) (hb : Below w.heap.size w W) => conv_BS (h.moved hb)
  have hlt := h.lt
  generalize lb b = bs at *
  generalize b.length = n at *
  generalize hd bs n = hh at *
  obtain ⟨pl, pf, pt, pe⟩ := hh
  generalize dec bs n = dc at *
  obtain ⟨t, de⟩ := dc
  dsimp only at hrh hrd hdd hhh
  unfold pc at hrh hhh
  have HBY := hideP hby
  have HBR := hideP hbr
  have HRH := hideP hrh
  have HRD := hideP hrd
  have HDD := hideP hdd
  have HHH := hideP hhh
  have HST := hideP hst
  have HL := hideP hlt
  have HN := hideP hn
  have H0 := hideP (Below.refl w.heap.size w)
  clear hby hbr hrh hrd hdd hhh hst hlt hn h
  go_enter Try.func4, Try.ntmps4
  go_wp2_with fail
  refine (HBY.out _ H0.out).mono ?_
  rintro e W1 ⟨⟨v1, rfl, hO1⟩, hb1⟩
  obtain ⟨a1, c1, rfl, hB1, _⟩ := hO1.ex
  have HH1 := hideP (HHH.out W1 a1 c1 hB1)
  have H1 := hideP (H0.out.trans hb1)
  clear hO1 hb1 hB1 H0 HBY HHH
  go_wp2_with fail
  refine HH1.out.mono ?_
  rintro e W2 ⟨rfl, hb2⟩
  have hb02 := H1.out.trans (hb2.mono H1.out.size)
  have hP2 := heap_new W2 (.cells #[.int .i64 pl, .int .i64 pf, .int .i64 pt] 40)
  have hb02a := hb02.alloc hb02.size (.cells #[.int .i64 pl, .int .i64 pf, .int .i64 pt] 40)
  have HC2 := hideP (HRH.out _ hb02a)
  have HP2 := hideP hP2
  have H2 := hideP hb02a
  clear hb2 hb02 hP2 hb02a HH1 H1 HRH
  go_wp2_with fail
  refine HC2.out.mono ?_
  rintro e W3 ⟨rfl, hb3⟩
  have hP3 := (hb3.block _ (lt_of_block HP2.out)).trans HP2.out
  have hP3a := (heap_old W3 (.cells #[.int .i64 pl, .int .i64 pf, .int .i64 pt] 40) (lt_of_block hP3)).trans hP3
  have hQ3a := heap_new W3 (.cells #[.int .i64 pl, .int .i64 pf, .int .i64 pt] 40)
  have hb03 := H2.out.trans (hb3.mono H2.out.size)
  have H3 := hideP (hb03.alloc hb03.size (.cells #[.int .i64 pl, .int .i64 pf, .int .i64 pt] 40))
  obtain ⟨p0, p1, p2⟩ := cells3 hP3a
  obtain ⟨q0, q1, q2⟩ := cells3 hQ3a
  clear hP3 hP3a hQ3a hb03 hb3 HC2 HP2 H2
  go_wp2_with fail
  refine (awake_any _).mono ?_
  rintro e W4 ⟨rfl, hb4⟩
  have H4 := hideP (H3.out.trans (hb4.mono H3.out.size))
  clear hb4 H3 p0 p1 p2 q0 q1 q2
  go_wp2_with fail
  refine (HBR.out _ H4.out).mono ?_
  rintro e W5 ⟨⟨v5, rfl, hO5⟩, hb5⟩
  obtain ⟨a5, c5, rfl, hB5⟩ := row_BS HL.out hO5
  have HH5 := hideP (HDD.out W5 a5 c5 hB5)
  have H5 := hideP (H4.out.trans (hb5.mono H4.out.size))
  have HO5 := hideP hO5
  have HB5 := hideP hB5
  have HS4 := hideP (And.intro H4.out.size hb5.size)
  clear hO5 hb5 hB5 H4 HBR HDD
  go_wp2_with fail
  refine HH5.out.mono ?_
  rintro e W6 ⟨⟨v6, rfl, hi6⟩, hb6⟩
  cases t with
  | node l tb tk =>
  obtain ⟨xa, xc, ka, kc, rfl, _, _, _⟩ := hi6.form
  generalize hnb : tb.length = nb at *
  generalize hnk : tk.length = nk at *
  have hX6 := heap_new W6 (.cells #[.int .i64 l, .slice xa nb xc, .slice ka nk kc] 26)
  have hb06 := H5.out.trans (hb6.mono H5.out.size)
  have hb56 : Below W5.heap.size W5 (W6.alloc (.cells #[.int .i64 l, .slice xa nb xc, .slice ka nk kc] 26)) := hb6.alloc hb6.size _
  have hb06a := hb06.alloc hb06.size (.cells #[.int .i64 l, .slice xa nb xc, .slice ka nk kc] 26)
  have hb66 : Below W6.heap.size W6 (W6.alloc (.cells #[.int .i64 l, .slice xa nb xc, .slice ka nk kc] 26)) := (Below.refl _ _).alloc (Nat.le_refl _) _
  have HC6 := hideP (HRD.out _ hb06a)
  have H6 := hideP (And.intro hb06a (And.intro hX6 (And.intro hi6 (And.intro hb56 (And.intro hb66 hb6.size)))))
  clear hi6 hb6 hX6 hb06 hb56 hb06a hb66 H5 HH5 HRD
  go_wp2_with fail
  refine HC6.out.mono ?_
  rintro e W7 ⟨⟨v7, rfl, hi7⟩, hb7⟩
  obtain ⟨ya, yc, la, lc, rfl, _, _, _⟩ := hi7.form
  rw [hnb, hnk]
  rw [hnb, hnk] at hi7
  obtain ⟨hb06, hX6, hi6, hb56, hb66, hs6⟩ := H6.out
  have hs6a : (W6.alloc (.cells #[.int .i64 l, .slice xa nb xc, .slice ka nk kc] 26)).heap.size = W6.heap.size + 1 := World.size_alloc ..
  have hs7 := hb7.size
  have hX7 := (hb7.block _ (lt_of_block hX6)).trans hX6
  have hX7a := (heap_old W7 (.cells #[.int .i64 l, .slice ya nb yc, .slice la nk lc] 26) (lt_of_block hX7)).trans hX7
  have hY7a := heap_new W7 (.cells #[.int .i64 l, .slice ya nb yc, .slice la nk lc] 26)
  have hb77 : Below W7.heap.size W7 (W7.alloc (.cells #[.int .i64 l, .slice ya nb yc, .slice la nk lc] 26)) := (Below.refl _ _).alloc (Nat.le_refl _) _
  have hb07 := hb06.trans (hb7.mono hb06.size)
  have hb07a := hb07.alloc hb07.size (.cells #[.int .i64 l, .slice ya nb yc, .slice la nk lc] 26)
  have hb57 : Below W5.heap.size W5 (W7.alloc (.cells #[.int .i64 l, .slice ya nb yc, .slice la nk lc] 26)) := (hb56.trans (hb7.mono (by omega))).alloc (by omega) _
  have hs1 := conv_BS (HB5.out.moved hb57)
  have hs2 := HST.out _ hb07a
  have hit6 : IsItem (cut W5.heap.size (W7.alloc (.cells #[.int .i64 l, .slice ya nb yc, .slice la nk lc] 26))) (.node l tb tk) (.agg #[.int .i64 l, .slice xa nb xc, .slice ka nk kc]) := hi6.mono fun a u hc => by
    obtain ⟨e1, e2⟩ := cut_cell.1 hc
    have hl6 := World.block_lt_of_cell? _ _ e2
    exact cut_cell.2 ⟨e1, (cell_congr (hb77.block _ (by omega))).trans ((cell_congr (hb7.block _ (by omega))).trans ((cell_congr (hb66.block _ hl6)).trans e2))⟩
  have hit7 : IsItem (cut W5.heap.size (W7.alloc (.cells #[.int .i64 l, .slice ya nb yc, .slice la nk lc] 26))) (.node l tb tk) (.agg #[.int .i64 l, .slice ya nb yc, .slice la nk lc]) := hi7.mono fun a u hc => by
    obtain ⟨e1, e2⟩ := cut_cell.1 hc
    have hl7 := World.block_lt_of_cell? _ _ e2
    exact cut_cell.2 ⟨by omega, (cell_congr (hb77.block _ hl7)).trans e2⟩
  have HV := hideP (And.intro hb07a (And.intro hX7a (And.intro hY7a (And.intro hit6 (And.intro hit7 (And.intro hb57 (And.intro hs6 (show W6.heap.size ≤ W7.heap.size by omega))))))))
  clear hb06 hX6 hi6 hb56 hb66 hs6 hs6a hs7 hX7 hX7a hY7a hb77 hb07 hb07a hb57 hit6 hit7 hb7 hi7 HC6 H6 HST
  generalize strB bs n = so at *
  have HTAIL : Hid (∀ wr : World, Below w.heap.size w wr → (∀ b, W5.heap.size ≤ b → wr.heap[b]? = (W7.alloc (.cells #[.int .i64 l, .slice ya nb yc, .slice la nk lc] 26)).heap[b]?) →
      wr.heap[W6.heap.size]? = some (.cells #[.int .i64 l, .slice xa nb xc, .slice ka nk kc] 26 (0, 0)) ∧ wr.heap[W7.heap.size]? = some (.cells #[.int .i64 l, .slice ya nb yc, .slice la nk lc] 26 (0, 0)) ∧
      Calls Try.prog 18 #[.agg #[.int .i64 l, .slice xa nb xc, .slice ka nk kc], .agg #[.int .i64 l, .slice ya nb yc, .slice la nk lc]] wr fun e w' => e = .returned (.bool true) ∧ Below w.heap.size w w') := by
    intro wr hbw hk
    obtain ⟨hb07a, hX7a, hY7a, hit6, hit7, hb57, hs6, hs67⟩ := HV.out
    refine ⟨(hk _ hs6).trans hX7a, (hk _ (by omega)).trans hY7a, ?_⟩
    have hc : ∀ a u, (cut W5.heap.size (W7.alloc (.cells #[.int .i64 l, .slice ya nb yc, .slice la nk lc] 26))).cell? a = some u → wr.cell? a = some u := fun a u hc => by
      obtain ⟨e1, e2⟩ := cut_cell.1 hc
      exact (cell_congr (hk _ e1)).trans e2
    refine (refSame_all _ _ _ _ _ wr (Nat.le_refl _) (hit6.mono hc) (hit7.mono hc)).mono ?_
    rintro e W9 ⟨⟨r, rfl, hr⟩, hb9⟩
    exact ⟨by rw [hr.2 rfl], hbw.trans (hb9.mono hbw.size)⟩
  by_cases hn0 : n = 0
  · subst hn0
    have HVB := hideP HV.out.1
    clear HV HO5 HB5 HS4 HL HN
    go_wp2_with fail
    generalize hVV : W7.alloc (.cells #[.int .i64 l, .slice ya nb yc, .slice la nk lc] 26) = V at *
    obtain ⟨x7, y7, hsame⟩ := HTAIL.out V HVB.out (fun _ _ => rfl)
    obtain ⟨x0, x1, x2⟩ := cells3 x7
    obtain ⟨y0, y1, y2⟩ := cells3 y7
    have HSM := hideP hsame
    clear hsame x7 y7 HTAIL hVV HVB
    go_loopw [10] (fun i wr => i = .int .i64 0 ∧ wr = V) (fun _ _ => 0)
    case atStart => exact ⟨rfl, rfl⟩
    case round =>
      obtain ⟨rfl, rfl⟩ := hrel
      go_wp2_with fail
      refine HSM.out.mono ?_
      rintro e W9 ⟨rfl, hb9⟩
      have H9 := hideP hb9
      clear hb9 HSM x0 x1 x2 y0 y1 y2
      go_wp2_with fail
      go_ret
      exact ⟨rfl, H9.out⟩
  · rcases HO5.out.2 with ⟨_, h0⟩ | ⟨g, cap, cur, e, hg4, hcur, hle, hroom, hcs, htake⟩
    · exact absurd h0 hn0
    · cases e
      obtain ⟨hb07a, hX7a, hY7a, hit6, hit7, hb57, hs6, hs67⟩ := HV.out
      have hg5 : g < W5.heap.size := lt_of_block hcur
      have hI0 : WI w (W7.alloc (.cells #[.int .i64 l, .slice ya nb yc, .slice la nk lc] 26)) g cur.size (W7.alloc (.cells #[.int .i64 l, .slice ya nb yc, .slice la nk lc] 26)) := ⟨⟨cur, (hb57.block g hg5).trans hcur, rfl⟩, fun _ _ => rfl, hb07a⟩
      have HI0 := hideP hI0
      have hcsn : n ≤ cur.size := by omega
      have hwg : w.heap.size ≤ g := Nat.le_trans HS4.out.1 hg4
      have HG := hideP (And.intro hg5 (And.intro hcsn (And.intro hwg HN.out)))
      generalize cur.size = cz at *
      clear hb07a hX7a hY7a hit6 hit7 hb57 hs6 hs67 hg5 hI0 hcsn hwg hg4 hcur hle hroom hcs htake HV HO5 HB5 HS4 HL HN
      go_wp2_with fail
      generalize hVV : W7.alloc (.cells #[.int .i64 l, .slice ya nb yc, .slice la nk lc] 26) = V at *
      clear hVV hs1 hs2
      go_loopw [10] (fun i wr => ∃ k : Nat, i = .int .i64 (k : Int) ∧ k ≤ n ∧ Hid (WI w V g cz wr)) (fun i _ => n - (intOf i).toNat)
      case atStart => exact ⟨0, rfl, Nat.zero_le _, HI0⟩
      case round =>
        obtain ⟨k, rfl, hkn, hWI⟩ := hrel
        by_cases hlt : k < n
        · obtain ⟨cu, hcu, hcz⟩ := hWI.out.cur
          obtain ⟨hg5, hcsn, hwg, hN⟩ := HG.out
          have g1 : (k : Int) < (n : Int) := by omega
          have e1 : IntKind.i64.wrap ((k : Int) + 1) = ((k + 1 : Nat) : Int) := by rw [IntKind.wrap_i64]; omega
          obtain ⟨u, hu⟩ : ∃ u, cu[k]? = some u := ⟨_, Array.getElem?_eq_getElem (by omega)⟩
          have c0 := blk_cell hcu (o := k) hu
          have cf : ∀ o, wr.frozen? ⟨g, o, none⟩ = false := fun o => blk_free hcu
          have hW8 : WI w V g cz (wr.setCell ⟨g, k, none⟩ (.int .u8 77)) := ⟨⟨_, blk_set hcu _, by simpa using hcz⟩, fun b hb => (Below.heap_setCell _ _ _ _ hb).trans (hWI.out.keep b hb), hWI.out.below.setCell hwg _⟩
          have HW8 := hideP hW8
          clear hcu hcz hg5 hcsn hwg hN hW8 hWI hu
          go_wp2_with fail
          exact ⟨⟨k + 1, rfl, by omega, HW8⟩, by simp [intOf]; omega⟩
        · have g1 : ¬ (k : Int) < (n : Int) := by omega
          obtain ⟨x7, y7, hsame⟩ := HTAIL.out wr hWI.out.below (fun b hb => hWI.out.keep b (by have := HG.out.1; omega))
          obtain ⟨x0, x1, x2⟩ := cells3 x7
          obtain ⟨y0, y1, y2⟩ := cells3 y7
          have HSM := hideP hsame
          clear hsame x7 y7 HTAIL hWI
          go_wp2_with fail
          refine HSM.out.mono ?_
          rintro e W9 ⟨rfl, hb9⟩
          have H9 := hideP hb9
          clear hb9 HSM x0 x1 x2 y0 y1 y2
          go_wp2_with fail
          go_ret
          exact ⟨rfl, H9.out⟩

end Go.Proofs.Ytigebmidfddbcaa
