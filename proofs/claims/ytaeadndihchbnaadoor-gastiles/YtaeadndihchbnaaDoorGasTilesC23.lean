/-
  GasTiles: the instructions of any code lie one behind the other without a gap, and no place to jump to lies within data.
-/
import Derived.Test.YtaeadndihchbnaaDoorGasTilesC11
import Derived.Test.YtaeadndihchbnaaDoorGasTilesC22
namespace Go.Proofs.YtaeadndihchbnaaDoor
open Go.RowKit Go.Shelf

attribute [local go_sem] Oper.semAt_some

/-- No place to jump to within data; at an instruction: just if it is that opcode. -/
theorem dest_mem {bs : Nat → Nat} {n k : Nat} : destB bs n (k : Int) = true ↔ k ∈ destsL bs n n 0 := by
  unfold destB
  rw [dests_mem]
  simp only [List.any_eq_true, Bool.and_eq_true, decide_eq_true_eq, beq_iff_eq]
  constructor
  · rintro ⟨⟨p, o⟩, hx, e1, rfl⟩
    have e : p = k := by dsimp only at e1; omega
    subst e
    exact hx
  · exact fun h => ⟨_, h, rfl, rfl⟩

theorem dest_data {bs : Nat → Nat} {n q k : Nat} (hq : q < (insL bs n).length) (h1 : posN bs n q < k) (h2 : k ≤ posN bs n q + skipN (bs (posN bs n q))) : destB bs n (k : Int) = false := by
  rw [Bool.eq_false_iff]
  intro h
  exact dest_inside (c := bs) (n := n) (f := n) (i := 0) (List.mem_of_getElem? (ins_at hq).1) h1 h2 (dest_mem.1 h)

theorem dest_here {bs : Nat → Nat} {n q : Nat} (hq : q < (insL bs n).length) : destB bs n (posN bs n q : Int) = (bs (posN bs n q) == 91) := by
  rw [dest_first hq (fun j hj => by have := pos_up hj hq; omega) (Int.le_refl _)]
  simp

theorem dest_neg {bs : Nat → Nat} {n : Nat} : destB bs n (-1) = false := by
  rw [Bool.eq_false_iff]
  intro h
  unfold destB at h
  simp only [List.any_eq_true, Bool.and_eq_true, decide_eq_true_eq] at h
  obtain ⟨x, _, e, _⟩ := h
  omega

theorem dest_len {bs : Nat → Nat} {n : Nat} : destB bs n (n : Int) = false := by
  rw [Bool.eq_false_iff]
  intro h
  have := dest_lt (c := bs) (n := n) (f := n) (i := 0) (dest_mem.1 h)
  omega

/-- How the law stands, so many instructions seen. -/
structure TlI (w : World) (B : Nat) (ao : Option Addr) (n c : Nat) (bs : Nat → Nat) (k : Nat) (V : World) : Prop where
  b0 : V.heap[w.heap.size]? = some (.cells #[.slice ao n c] 38 (0, 0))
  b1 : V.heap[w.heap.size + 1]? = some (.cells #[.bool false] 4 (0, 0))
  b2 : V.heap[B]? = some (.cells #[.int .i64 (posN bs n k : Nat)] 3 (0, 0))
  below : Below w.heap.size w V

theorem TlI.moved {w : World} {B : Nat} {ao : Option Addr} {n c : Nat} {bs : Nat → Nat} {k : Nat} {V V' : World} (h : TlI w B ao n c bs k V) (hb : Below V.heap.size V V') : TlI w B ao n c bs k V' :=
  ⟨(hb.block _ (lt_of_block h.b0)).trans h.b0, (hb.block _ (lt_of_block h.b1)).trans h.b1, (hb.block _ (lt_of_block h.b2)).trans h.b2, h.below.trans (hb.mono h.below.size)⟩

theorem TlI.putObj {w : World} {B : Nat} {ao : Option Addr} {n c : Nat} {bs : Nat → Nat} {k : Nat} {V : World} (h : TlI w B ao n c bs k V) {l : Nat} {o o' : Obj} (hlw : w.heap.size ≤ l) (hl : V.heap[l]? = some o) (ho : o.isCells = false) : TlI w B ao n c bs k (V.putObj l o') :=
  ⟨putObj_cells hl ho h.b0 rfl, putObj_cells hl ho h.b1 rfl, putObj_cells hl ho h.b2 rfl, h.below.trans (below_putObj _ hlw)⟩

theorem InsM.keep {bc n c' B : Nat} {ao' : Option Addr} {bs : Nat → Nat} {V V' : World} (h : InsM bc ao' n c' bs V) (h1 : bc ≠ B) (h2 : 0 < n → ∃ g, g ≠ B ∧ ao' = some ⟨g, 0, none⟩) (hk : ∀ b, b ≠ B → b < V.heap.size → V'.heap[b]? = V.heap[b]?) : InsM bc ao' n c' bs V' := by
  have hc : ∀ p u, p.block ≠ B → V.cell? p = some u → V'.cell? p = some u := fun p u hp hu => by
    rw [World.cell?_of_block (hk _ hp (World.block_lt_of_cell? V _ hu))]
    exact hu
  refine ⟨hc _ _ h1 h.1, h.2.lt, h.2.le, h.2.room, fun j hj => ?_, h.2.nil⟩
  obtain ⟨ad, e, hcell⟩ := h.2.cell j hj
  obtain ⟨g, hg, e2⟩ := h2 (by omega)
  refine ⟨ad, e, hc _ _ ?_ hcell⟩
  rw [e] at e2
  cases e2
  unfold Addr.add
  split <;> exact hg

theorem op_data : ∀ o < 256, (opN o).data = skipN o := by decide +kernel

set_option maxHeartbeats 8000000 in
set_option maxRecDepth 100000 in
theorem gasTiles_walk (w : World) {ao : Option Addr} {n c : Nat} {bs : Nat → Nat} (hB : BS w ao n c bs) (hn : n ≤ 140737488355328) : Calls Tryd.prog 12 #[.slice ao n c] w fun e w' => e = .returned (.bool true) ∧ Below w.heap.size w w' := by
  have HB := hideP hB
  have HN := hideP hn
  have HAW := hideP (fun W => awake_any W)
  clear hB hn
  refine (callsIn_wide (n := 9)).1 ?_
  refine callsIn_of_wp_marks Tryd.func12 rfl trivial ?_ rfl
  simp only [Tryd.ntmps12, List.size_toArray, List.length_cons, List.length_nil, Nat.reduceAdd, Nat.reduceSub, Array.replicate_succ, Array.replicate_zero, List.push_toArray, List.append_toArray, List.nil_append, List.cons_append]
  gi_wp2
  refine ⟨trivial, (callsIn_wide.2 (HAW.out _)).mono ?_⟩
  generalize hW0 : (w.alloc (.cells #[.slice ao n c] 38)).alloc (.cells #[.bool false] 4) = W0
  obtain ⟨b0, b1, hbW⟩ := box2 hW0.symm
  clear hW0
  rintro e W1 ⟨rfl, hb⟩
  replace b0 := (hb.block _ (lt_of_block b0)).trans b0
  replace b1 := (hb.block _ (lt_of_block b1)).trans b1
  replace hbW := hideP (hbW.trans (hb.mono hbW.size))
  clear hb
  have c0 := blk_cell (o := 0) b0 rfl
  have hl0 := lt_of_block b0
  have hl1 := lt_of_block b1
  gi_wp2
  refine ⟨trivial, ?_⟩
  generalize hW2 : W1.alloc (.cells #[.int .i64 0] 3) = W2
  obtain ⟨b2, hb2⟩ := box1 hW2.symm
  clear hW2 c0
  replace b0 := (hb2.block _ hl0).trans b0
  replace b1 := (hb2.block _ hl1).trans b1
  replace hbW := hideP (hbW.out.trans (hb2.mono hbW.out.size))
  clear hb2
  generalize W1.heap.size = B at *
  have hBl := lt_of_block b2
  refine (callsIn_wide.2 (codes_any HN.out W2 (HB.out.moved hbW.out))).mono ?_
  rintro e W3 ⟨⟨bc, ao', c', rfl, hIM, hbc, hg⟩, hb3⟩
  have hI0 : TlI w B ao n c bs 0 W3 := TlI.moved (V := W2) ⟨b0, b1, b2, hbW.out⟩ hb3
  have hBW3 := hb3.size
  have HIM := hideP (And.intro hIM (And.intro hbc hg))
  clear hbW b0 b1 b2 hb3 hIM hbc hg
  gi_wp2
  obtain ⟨hIM, hbc, hg⟩ := HIM.out
  have hgive := ins_gives (9 - 1) (by omega) W3 HN.out hIM
  have hw3 := hI0.below.size
  refine range_seq (n := 9) (by omega) rfl (enters_of Tryd.func91 (by kernel_rfl) rfl) (insV (insL bs n)) (insL bs n).length (fun _ => rfl) _ hgive
    (TlI w B ao n c bs) (fun _ _ => False)
    (fun q V V' h hb => h.moved hb) (fun cd V V' h hb => h)
    (fun q V l' o o' h hl h1 h2 => h.putObj (by omega) h1 h2) (fun cd V l' o o' h hl h1 h2 => h)
    (fun V V' l' o o' h hl h1 h2 hi => (h hi).putObj h1 h2) hI0 ?round ?done ?stop
  case stop =>
    rintro D cd W hD hx
    exact hx.elim
  case done =>
    rintro D W hD hI hdef
    have hpos := ins_end bs n
    have x0 := blk_cell (o := 0) hI.b0 rfl
    have x2 := blk_cell (o := 0) hI.b2 rfl
    have hge : (n : Int) ≤ (posN bs n (insL bs n).length : Int) := by omega
    have HI := hideP hI
    have HDF := hideP hdef
    clear hI0 hgive hI hdef hpos hIM hbc hg
    gi_wp2
    refine ⟨trivial, (callsIn_wide.2 (dest_any (-1) W (HB.out.moved HI.out.below) HN.out)).mono ?_⟩
    rintro e V1 ⟨rfl, hb⟩
    rw [dest_neg]
    replace HI := hideP (HI.out.moved hb)
    replace HDF := hideP ((hb.block _ (lt_of_block HDF.out)).trans HDF.out)
    clear x0 x2 hb
    have x0 := blk_cell (o := 0) HI.out.b0 rfl
    gi_wp2
    refine ⟨trivial, (callsIn_wide.2 (dest_any (n : Int) V1 (HB.out.moved HI.out.below) HN.out)).mono ?_⟩
    rintro e V2 ⟨rfl, hb⟩
    rw [dest_len]
    replace HI := hideP (HI.out.moved hb)
    replace HDF := hideP ((hb.block _ (lt_of_block HDF.out)).trans HDF.out)
    clear x0 hb
    have y0 := blk_cell (o := 0) HI.out.b1 rfl
    have yf : V2.frozen? ⟨w.heap.size + 1, 0, none⟩ = false := blk_free HI.out.b1
    have hx' : Below w.heap.size w (V2.setCell ⟨w.heap.size + 1, 0, none⟩ (.bool true)) := HI.out.below.setCell (by dsimp only; omega) _
    have hdef' : (V2.setCell ⟨w.heap.size + 1, 0, none⟩ (.bool true)).heap[D]? = some (.deferred (some [])) := (Below.heap_setCell _ _ _ _ (by dsimp only; omega)).trans HDF.out
    have hb1 : ((V2.setCell ⟨w.heap.size + 1, 0, none⟩ (.bool true)).putObj D (.deferred none)).heap[w.heap.size + 1]? = some (.cells #[.bool true] 4 (0, 0)) := putObj_cells hdef' rfl (blk_set HI.out.b1 _) rfl
    have y := blk_cell hb1 (o := 0) rfl
    have HX := hideP (hx'.trans (below_putObj (V := (V2.setCell ⟨w.heap.size + 1, 0, none⟩ (.bool true))) (.deferred none) (by omega : w.heap.size ≤ D)))
    have HDG := hideP hdef'
    clear hx' hdef' hb1
    gi_wp2
    refine ⟨by simp, .inl ⟨_, _, rfl, run_takeDeferred HDG.out, ?_⟩⟩
    exact ⟨.bool true, by simp [results, Tryd.results12, go_sem, y], rfl, HX.out⟩
  case round =>
    rintro l' q W hq hI hl' ⟨rr, hlr⟩
    rw [insV_at hq]
    have HALL := hideP (And.intro hI (And.intro hlr (And.intro hl' (And.intro hq (And.intro hw3 (And.intro hBW3 (And.intro hBl (And.intro hl0 hl1))))))))
    clear hI0 hgive hI hlr hl' hq hw3 hBW3 hBl hl0 hl1 hIM hbc hg
    gi_wp2
    refine ⟨KeepsFrom.refl _ _, fun r => ?_⟩
    obtain ⟨hI, hlr, hl', hq, hw3, hBW3, hBl, hl0, hl1⟩ := HALL.out
    obtain ⟨_, hp, hnx⟩ := ins_at hq
    have hI1 := hI.putObj (o' := .loop r) (by omega) hlr rfl
    have hKp : ∀ V', (∀ b, b ≠ B → b < (W.putObj l' (.loop r)).heap.size → V'.heap[b]? = (W.putObj l' (.loop r)).heap[b]?) → KpI bc ao' n c' bs W V' := fun V' hk hi => by
      obtain ⟨_, hbc, hg⟩ := HIM.out
      exact (InsM.putObj hi hlr rfl).keep (B := B) (by omega) (fun h => by obtain ⟨g, h1, h2⟩ := hg h; exact ⟨g, by omega, h2⟩) hk
    generalize W.putObj l' (.loop r) = W1 at *
    obtain ⟨ad, hao, hcell⟩ := (HB.out.moved hI1.below).cell _ hp
    subst hao
    have x0 := blk_cell (o := 0) hI1.b0 rfl
    have x2 := blk_cell (o := 0) hI1.b2 rfl
    have h256 := HB.out.lt (posN bs n q)
    have hdat := op_data _ h256
    have hop := fun W => op_any _ h256 W
    have hhere := dest_here hq
    have hdd := fun k h1 h2 => dest_data (k := k) hq h1 h2
    have hskip : skipN (bs (posN bs n q)) ≤ 32 := by unfold skipN; split <;> omega
    have hn := HN.out
    have hB1 := lt_of_block hI1.b0
    have hB2 := lt_of_block hI1.b2
    generalize hpq : posN bs n q = p at *
    generalize bs p = o at *
    generalize skipN o = sk at *
    generalize opN o = rr0 at *
    obtain ⟨nm, gs, pp, qq, dd, iss⟩ := rr0
    dsimp only at hdat
    subst hdat
    unfold OpR.val at hop
    dsimp only at hop
    have HOP := hideP hop
    have HDD := hideP hdd
    have HHE := hideP hhere
    have HF := hideP (And.intro hI1 (And.intro hKp (And.intro hnx (And.intro hskip (And.intro hBW3 (And.intro hBl hw3))))))
    have HPN := hideP (And.intro hp hn)
    have gp : (p : Int) < (n : Int) := by omega
    have gp2 : ¬ (n : Int) ≤ (p : Int) := by omega
    clear hop hdd hhere hI1 hKp hnx hskip hI hlr hl' hq hw3 hBW3 hBl hl0 hl1 hB1 hB2 hn hp h256
    gi_wp2
    refine ⟨trivial, (CallsIn.inRound l' (callsIn_wide.2 (HOP.out _))).mono ?_⟩
    rintro e V1 ⟨rfl, hb⟩
    have hI2 := HF.out.1.moved hb
    have HB1 := hideP hb
    clear x0 x2 hcell hb
    have x0 := blk_cell (o := 0) hI2.b0 rfl
    have hb0 := lt_of_block hI2.b0
    have HI2 := hideP hI2
    clear hI2
    gi_wp2
    generalize hV2 : V1.alloc (.cells #[.string nm, .int .u64 gs, .int .i64 pp, .int .i64 qq, .int .i64 dd] 24) = V2
    obtain ⟨t0, ht⟩ := box1 hV2.symm
    clear hV2
    have hI3 := HI2.out.moved ht
    have htl := lt_of_block t0
    have HT := hideP ht
    refine ⟨trivial, (CallsIn.inRound l' (callsIn_wide.2 (dest_any (p : Int) V2 (HB.out.moved hI3.below) HPN.out.2))).mono ?_⟩
    rintro e V3 ⟨rfl, hb⟩
    rw [HHE.out]
    have hI4 := hI3.moved hb
    have t1 := (hb.block _ htl).trans t0
    have HB2 := hideP hb
    clear x0 hb0 ht t0 htl hb hI3
    have e5 : ((o : Int) == 91) = (o == 91) := by rw [Bool.eq_iff_iff]; simp; omega
    have x0 := blk_cell (o := 0) hI4.b0 rfl
    have td := blk_cell (o := 4) t1 rfl
    have HI4 := hideP hI4
    have HT1 := hideP t1
    clear hI4 t1
    have HEND : Hid (∀ wr, TlI w B (some ad) n c bs q wr → Below V3.heap.size V3 wr → KeepsFrom W3.heap.size W1 (wr.setCell ⟨B, 0, none⟩ (.int .i64 ((p : Int) + 1 + dd))) ∧ KpI bc ao' n c' bs W (wr.setCell ⟨B, 0, none⟩ (.int .i64 ((p : Int) + 1 + dd))) ∧ TlI w B (some ad) n c bs (q + 1) (wr.setCell ⟨B, 0, none⟩ (.int .i64 ((p : Int) + 1 + dd)))) := by
      refine hideP fun wr h hw => ?_
      obtain ⟨_, hKp, hnx, _, _, _, _⟩ := HF.out
      obtain ⟨_, _, _, _, _, _, _, hl0, hl1⟩ := HALL.out
      have h1 := HB1.out
      have h2 := h1.trans (HT.out.mono h1.size)
      have h3 := h2.trans (HB2.out.mono h2.size)
      have h4 := h3.trans (hw.mono h3.size)
      refine ⟨KeepsFrom.trans ⟨h4.size, fun k o _ hk _ => (h4.block k (lt_of_block hk)).trans hk⟩ ((KeepsOthers.setCell _ _ _).from _), hKp _ (fun b hb hl => (Below.heap_setCell _ _ _ _ hb).trans (h4.block b hl)), ?_⟩
      refine ⟨(Below.heap_setCell _ _ _ _ (by dsimp only; omega)).trans h.b0, (Below.heap_setCell _ _ _ _ (by dsimp only; omega)).trans h.b1, ?_, h.below.setCell (by dsimp only; omega) _⟩
      rw [hnx, Int.natCast_add, Int.natCast_add]
      exact blk_set h.b2 _
    have t6 : IntKind.i64.wrap ((p : Int) + 1 + dd) = (p : Int) + 1 + dd := by rw [IntKind.wrap_i64]; have := HPN.out; have := HF.out.2.2.2.1; omega
    have t0 : IntKind.i64.wrap ((p : Int) + 1) = (p : Int) + 1 := by rw [IntKind.wrap_i64]; have := HPN.out; omega
    gi_wp2
    clear x0 td
    gi_loopw [8] (fun i wr => ∃ m : Nat, p + 1 ≤ m ∧ i = .int .i64 (m : Nat) ∧ Hid (TlI w B (some ad) n c bs q wr) ∧ Hid (wr.heap[V1.heap.size]? = some (.cells #[.string nm, .int .u64 gs, .int .i64 pp, .int .i64 qq, .int .i64 dd] 24 (0, 0))) ∧ Hid (Below V3.heap.size V3 wr)) (fun i _ => n - (intOf i).toNat)
    case atStart => exact ⟨p + 1, Nat.le_refl _, by rw [Int.natCast_add]; rfl, HI4, HT1, hideP (Below.refl _ _)⟩
    case round =>
      obtain ⟨m, hm, rfl, HIm, HTm, HBm⟩ := hrel
      have x0 := blk_cell (o := 0) HIm.out.b0 rfl
      have td := blk_cell (o := 4) HTm.out rfl
      have tt : IntKind.i64.wrap ((p : Int) + dd) = (p : Int) + dd := by rw [IntKind.wrap_i64]; have := HPN.out; have := HF.out.2.2.2.1; omega
      have hn' := HPN.out
      have hsk := HF.out.2.2.2.1
      by_cases g1 : m ≤ p + dd
      · have f1 : (m : Int) ≤ (p : Int) + dd := by omega
        by_cases g2 : m < n
        · have f2 : (m : Int) < n := by omega
          have HDM := hideP (HDD.out m hm g1)
          have HG := hideP (And.intro hm (And.intro g1 g2))
          clear hm g1 g2 hn' hsk
          gi_wp2
          refine ⟨trivial, (CallsIn.inRound l' (callsIn_wide.2 (dest_any (m : Int) wr (HB.out.moved HIm.out.below) HPN.out.2))).mono ?_⟩
          rintro e V4 ⟨rfl, hb⟩
          rw [HDM.out]
          have HI5 := hideP (HIm.out.moved hb)
          have HT5 := hideP ((hb.block _ (lt_of_block HTm.out)).trans HTm.out)
          have HB5 := hideP (HBm.out.trans (hb.mono HBm.out.size))
          have t5 : IntKind.i64.wrap ((m : Int) + 1) = (m : Int) + 1 := by rw [IntKind.wrap_i64]; have := HPN.out; have := HG.out; omega
          clear x0 td hb HIm HTm HBm
          gi_wp2
          have hg := HG.out
          exact ⟨⟨m + 1, by omega, by rw [Int.natCast_add]; rfl, HI5, HT5, HB5⟩, by simp only [intOf]; omega⟩
        · have f2 : ¬ (m : Int) < n := by omega
          clear hm g1 g2 hn' hsk
          have y0 := blk_cell (o := 0) HIm.out.b2 rfl
          have yf : wr.frozen? ⟨B, 0, none⟩ = false := blk_free HIm.out.b2
          gi_wp2
          exact HEND.out _ HIm.out HBm.out
      · have f1 : ¬ (m : Int) ≤ (p : Int) + dd := by omega
        clear hm g1 hn' hsk
        have y0 := blk_cell (o := 0) HIm.out.b2 rfl
        have yf : wr.frozen? ⟨B, 0, none⟩ = false := blk_free HIm.out.b2
        gi_wp2
        exact HEND.out _ HIm.out HBm.out

end Go.Proofs.YtaeadndihchbnaaDoor
