/-
  GasCode: code is cut into instructions as the document says.
-/
import Derived.Test.YtaeadndihchbnaaDoorGasCodeUptoC14
import Derived.Test.YtaeadndihchbnaaDoorGasCodeUptoC25
namespace Go.Proofs.YtaeadndihchbnaaDoor
open Go.RowKit Go.Shelf

attribute [local go_sem] Oper.semAt_some

theorem wpListIn_appendB {F : Fence} {m : Nat} {ops : Array Oper} {rest : List Oper} {o : Oper} {a : Act} {w : World} {Q : Exit → Act → World → Prop} (hgd : o.guard = none) (s x : Operand)
    (ho : o.op = .call { callee := .builtin .append, args := #[s, x], argTypes := #[38, 38] }) (bo ao : Option Addr) (n c : Nat) (hs : a.eval s = .slice bo 0 0) (hx : a.eval x = .slice ao n c)
    (hn : n ≤ 140737488355328) (bs : Nat → Nat) (hb : BS w ao n c bs)
    (h : ∀ ao' cap w', ((n = 0 ∧ ao' = bo ∧ cap = 0 ∧ w' = w) ∨ (0 < n ∧ ao' = some ⟨w.heap.size, 0, none⟩)) → (0 < n → BS w' ao' n cap bs) → Below w.heap.size w w' → wpListIn F m Tryd.prog ops Q rest (a.put o.dst (.slice ao' n cap)) w') :
    wpListIn F m Tryd.prog ops Q (o :: rest) a w := by
  refine wpListIn_plain hgd fun K hK => ?_
  obtain ⟨ao', cap, w', hrun, h1, h2, h3⟩ := appendB w o.type bo ao n c hn bs hb.lt hb.cell hb.nil
  unfold Oper.wpIn
  refine ⟨?_, ?_⟩
  · simp [Oper.about, ho, resolve, Target.leads, Sem.run_pure]
  · rw [Oper.semAt_plain F _ _ (by rw [ho]; intro c hc'; cases hc')]
    simp [execOp, ho, resolve, invoke, builtin, hs, hx, hrun, Result.andThen]
    exact hK _ _ (h ao' cap w' h1 h2 h3)

/-- An activation of the law's: what it keeps through its rounds. -/
def PA (ao : Option Addr) (n c MB RB WB KB : Nat) (u : Nat → Value) (ds : List Deferred) : Act := { tmps := #[.slice ao n c, u 1, u 2, u 3, u 4, .pointer (some ⟨MB, 0, none⟩), .pointer (some ⟨RB, 0, none⟩), .pointer (some ⟨WB, 0, none⟩), .pointer (some ⟨KB, 0, none⟩), u 9, u 10, u 11, u 12, u 13, u 14, u 15, u 16, u 17, u 18, u 19, u 20, u 21, u 22, u 23, u 24, u 25, u 26, u 27, u 28, u 29, u 30, u 31, u 32, u 33, u 34, u 35, u 36, u 37, u 38, u 39, u 40, u 41, u 42, u 43, u 44, u 45, u 46, u 47, u 48, u 49, u 50, u 51, u 52, u 53, u 54, u 55, u 56, u 57, u 58, u 59, u 60, u 61, u 62, u 63, u 64, u 65, u 66, u 67, u 68, u 69, u 70, u 71, u 72, u 73, u 74, u 75, u 76, u 77, u 78, u 79, u 80, u 81, u 82, u 83, u 84, u 85, u 86, u 87, u 88, u 89, u 90, u 91, u 92, u 93, u 94, u 95, u 96, u 97, u 98, u 99, u 100], defers := ds }

/-- Blocks for deferred calls, the newest ahead: nothing is in them. -/
def DOK (lo : Nat) : List Deferred → World → Nat → Prop
  | [], _, _ => True
  | d :: ds, V, B => ∃ D, d = { target := .collected D, args := #[] } ∧ lo ≤ D ∧ D < B ∧ V.heap[D]? = some (.deferred (some [])) ∧ DOK lo ds V D

theorem DOK.moved {lo : Nat} : ∀ {ds : List Deferred} {V V' : World} {B : Nat}, DOK lo ds V B → (∀ b, b < B → V.heap[b]? = some (.deferred (some [])) → V'.heap[b]? = some (.deferred (some []))) → DOK lo ds V' B
  | [], _, _, _, _, _ => trivial
  | d :: ds, V, V', B, h, hk => by
    obtain ⟨D, h1, h0, h2, h3, h4⟩ := h
    exact ⟨D, h1, h0, h2, hk _ h2 h3, h4.moved fun b hb ho => hk b (by omega) ho⟩

theorem DOK.mono {lo : Nat} {ds : List Deferred} {V : World} {B B' : Nat} (h : DOK lo ds V B) (hb : B ≤ B') : DOK lo ds V B' := by
  cases ds with
  | nil => trivial
  | cons d ds =>
    obtain ⟨D, h1, h0, h2, h3, h4⟩ := h
    exact ⟨D, h1, h0, by omega, h3, h4⟩

/-- A function is left: its blocks for deferred calls are closed, cells stay as they are. -/
theorem leaves_dok {lo n : Nat} {P : Program} {fn : Func} {tmps : Array Value} {R : Ending → World → Prop} {v : Value} {S : World → Prop} (hres : ∀ V, S V → (results fn tmps).run P V = .ok v V ∧ R (.returned v) V)
    (hS : ∀ V D, lo ≤ D → S V → V.heap[D]? = some (.deferred (some [])) → S (V.putObj D (.deferred none))) : ∀ (ds : List Deferred) (V : World) (B : Nat), DOK lo ds V B → S V → LeavesInM Fence.wide n P fn tmps R ds .returning V
  | [], V, _, _, h => ⟨v, hres V h⟩
  | d :: ds, V, B, hd, h => by
    obtain ⟨D, rfl, h0, h2, h3, h4⟩ := hd
    refine ⟨by simp, .inl ⟨_, _, rfl, run_takeDeferred h3, leaves_dok hres hS ds _ D ?_ (hS V D h0 h h3)⟩⟩
    exact h4.moved fun b hb ho => (World.putObj_heap_other (by omega)).trans ho

/-- What the law's rounds keep. -/
structure LP (w : World) (most : Int) (MB RB WB KB : Nat) (wv : Value) (M : Nat) (fl : List Value) (k : Nat) (ds : List Deferred) (V : World) : Prop where
  mb : V.heap[MB]? = some (.cells #[.int .i64 most] 3 (0, 0))
  rb : V.heap[RB]? = some (.cells #[.bool false] 4 (0, 0))
  wb : V.heap[WB]? = some (.cells #[wv] 56 (0, 0))
  kb : V.heap[KB]? = some (.cells #[.int .i64 (k : Int)] 3 (0, 0))
  row : V.ownsRow w.heap.size 62 2 wv M fl
  dok : DOK w.heap.size ds V V.heap.size
  below : Below w.heap.size w V
  rw_ : w.heap.size ≤ RB
  k2 : k ≤ 2

theorem PA_eq {ao : Option Addr} {n c MB RB WB KB : Nat} {u : Nat → Value} {ds : List Deferred} : PA ao n c MB RB WB KB u ds = { tmps := #[.slice ao n c, u 1, u 2, u 3, u 4, .pointer (some ⟨MB, 0, none⟩), .pointer (some ⟨RB, 0, none⟩), .pointer (some ⟨WB, 0, none⟩), .pointer (some ⟨KB, 0, none⟩), u 9, u 10, u 11, u 12, u 13, u 14, u 15, u 16, u 17, u 18, u 19, u 20, u 21, u 22, u 23, u 24, u 25, u 26, u 27, u 28, u 29, u 30, u 31, u 32, u 33, u 34, u 35, u 36, u 37, u 38, u 39, u 40, u 41, u 42, u 43, u 44, u 45, u 46, u 47, u 48, u 49, u 50, u 51, u 52, u 53, u 54, u 55, u 56, u 57, u 58, u 59, u 60, u 61, u 62, u 63, u 64, u 65, u 66, u 67, u 68, u 69, u 70, u 71, u 72, u 73, u 74, u 75, u 76, u 77, u 78, u 79, u 80, u 81, u 82, u 83, u 84, u 85, u 86, u 87, u 88, u 89, u 90, u 91, u 92, u 93, u 94, u 95, u 96, u 97, u 98, u 99, u 100], defers := ds } := rfl

theorem PA_of {ao : Option Addr} {n c MB RB WB KB : Nat} (tm : Array Value) (ds : List Deferred) (h : tm.size = 101) (h0 : tm[0]? = some (.slice ao n c)) (h5 : tm[5]? = some (.pointer (some ⟨MB, 0, none⟩))) (h6 : tm[6]? = some (.pointer (some ⟨RB, 0, none⟩))) (h7 : tm[7]? = some (.pointer (some ⟨WB, 0, none⟩))) (h8 : tm[8]? = some (.pointer (some ⟨KB, 0, none⟩))) :
    ({ tmps := tm, defers := ds } : Act) = PA ao n c MB RB WB KB (fun i => tm.getD i undef) ds := by
  unfold PA
  congr 1
  refine Array.ext_getElem? fun i => ?_
  by_cases hi : i < 101
  · have hz : tm[i]? = some (tm.getD i undef) := by
      rw [Array.getD_eq_getD_getElem?, Array.getElem?_eq_getElem (by omega)]
      rfl
    iterate 101 (rcases i with _ | i; · first | exact h0 | exact h5 | exact h6 | exact h7 | exact h8 | exact hz)
    omega
  · rw [Array.getElem?_eq_none (by omega), Array.getElem?_eq_none (by simp; omega)]

/-- How many rounds are still to come. -/
def PM (a : Act) (V : World) : Nat := match (a.tmps[8]? : Option Value) with
  | some (.pointer (some ad)) => (match V.cell? ad with
    | some (.int _ i) => (2 - i).toNat
    | _ => 0)
  | _ => 0

theorem PM_eq {ao : Option Addr} {n c MB RB WB KB k : Nat} {u : Nat → Value} {ds : List Deferred} {V : World} (h : V.heap[KB]? = some (.cells #[.int .i64 (k : Int)] 3 (0, 0))) : PM (PA ao n c MB RB WB KB u ds) V = (2 - (k : Int)).toNat := by
  unfold PM PA
  simp only [List.getElem?_toArray, List.getElem?_cons_succ, List.getElem?_cons_zero]
  rw [blk_cell h (o := 0) rfl]
  rfl

/-- The rounds' world goes on. -/
theorem LP.next {w : World} {most : Int} {MB RB WB KB KB' : Nat} {wv : Value} {M : Nat} {fl : List Value} {k : Nat} {ds : List Deferred} {V Y : World} (h : LP w most MB RB WB KB wv M fl k ds V) (hk : k < 2) (hb : Below V.heap.size V Y) {D : Nat} (hD : V.heap.size ≤ D) (hd : Y.heap[D]? = some (.deferred (some [])))
    (hkb : Y.heap[KB']? = some (.cells #[.int .i64 ((k + 1 : Nat) : Int)] 3 (0, 0))) : LP w most MB RB WB KB' wv M fl (k + 1) ({ target := .collected D, args := #[] } :: ds) Y := by
  refine ⟨(hb.block _ (lt_of_block h.mb)).trans h.mb, (hb.block _ (lt_of_block h.rb)).trans h.rb, (hb.block _ (lt_of_block h.wb)).trans h.wb, hkb, row_moved h.row hb, ?_, h.below.trans (hb.mono h.below.size), h.rw_, by omega⟩
  exact ⟨D, rfl, Nat.le_trans h.below.size hD, lt_of_block hd, hd, (h.dok.moved fun b hb' ho => (hb.block b hb').trans ho).mono hD⟩

/-- How a telling stands, so much told. -/
structure QI (V U : World) (q : Nat) (X : World) : Prop where
  i : X.heap[V.heap.size]? = some (.cells #[.int .i64 (q : Int)] 3 (0, 0))
  b : Below V.heap.size V X
  sz : U.heap.size ≤ X.heap.size

theorem QI.moved {V U : World} {q : Nat} {X X' : World} (h : QI V U q X) (h1 : V.heap.size < U.heap.size) (hb : Below U.heap.size X X') : QI V U q X' :=
  ⟨(hb.block _ h1).trans h.i, h.b.trans (hb.mono (by omega)), Nat.le_trans h.sz hb.size⟩

theorem InsM.keep {bc n c' B : Nat} {ao' : Option Addr} {bs : Nat → Nat} {V V' : World} (h : InsM bc ao' n c' bs V) (h1 : bc ≠ B) (h2 : 0 < n → ∃ g, g ≠ B ∧ ao' = some ⟨g, 0, none⟩) (hk : ∀ b, b ≠ B → b < V.heap.size → V'.heap[b]? = V.heap[b]?) : InsM bc ao' n c' bs V' := by
  have hc : ∀ p u, p.block ≠ B → V.cell? p = some u → V'.cell? p = some u := fun p u hp hu => by
    rw [World.cell?_of_block (hk _ hp (World.block_lt_of_cell? V _ hu))]
    exact hu
  refine ⟨hc _ _ h1 h.1, h.2.lt, h.2.le, h.2.room, fun j hj => ?_, h.2.nil⟩
  obtain ⟨ad, e, hcell⟩ := h.2.cell j hj
  obtain ⟨g, hg, e2⟩ := h2 (by omega)
  refine ⟨ad, e, hc _ _ ?_ hcell⟩
  rw [e] at e2
  cases e2
  unfold Addr.add
  split <;> exact hg

/-- How the telling of places stands, so many told. -/
structure DI (V2 V4 : World) (dv : Value) (q : Nat) (X : World) : Prop where
  d : X.heap[V2.heap.size]? = some (.cells #[dv] 63 (0, 0))
  i : X.heap[V2.heap.size + 1]? = some (.cells #[.int .i64 (q : Int)] 3 (0, 0))
  b : Below V2.heap.size V2 X
  sz : V4.heap.size ≤ X.heap.size

theorem DI.moved {V2 V4 : World} {dv : Value} {q : Nat} {X X' : World} (h : DI V2 V4 dv q X) (h1 : V2.heap.size + 1 < V4.heap.size) (hb : Below V4.heap.size X X') : DI V2 V4 dv q X' :=
  ⟨(hb.block _ (by omega)).trans h.d, (hb.block _ h1).trans h.i, h.b.trans (hb.mono (by omega)), Nat.le_trans h.sz hb.size⟩

set_option maxHeartbeats 16000000 in
set_option maxRecDepth 100000 in
theorem gasCode_walk (at_ : Int) (_hat : -9223372036854775808 ≤ at_ ∧ at_ ≤ 9223372036854775807) (most : Int) (hmost : -9223372036854775808 ≤ most ∧ most ≤ 9223372036854775807) (w : World) {ao : Option Addr} {n c : Nat} {bs : Nat → Nat} (hB : BS w ao n c bs) (hn : n ≤ 140737488355328) (hnk : n ≤ 1048576) :
    Calls Tryd.prog 8 #[.slice ao n c, .int .i64 at_, .int .i64 most] w fun e w' => e = .returned (.bool true) ∧ Below w.heap.size w w' := by
  have HB := hideP hB
  have HN := hideP (And.intro hn (And.intro hnk hmost))
  clear hB hn hnk hmost
  refine (callsIn_wide (n := 9)).1 ?_
  refine callsIn_of_wp_marks Tryd.func8 rfl trivial ?_ rfl
  simp only [Tryd.ntmps8, List.size_toArray, List.length_cons, List.length_nil, Nat.reduceAdd, Nat.reduceSub, Array.replicate_succ, Array.replicate_zero, List.push_toArray, List.append_toArray, List.nil_append, List.cons_append]
  have H3 : Hid (BS (((w.alloc (.cells #[.int .i64 most] 3)).alloc (.cells #[.bool false] 4)).alloc (.cells #[] 5)) ao n c bs) := HB.out.moved ((((Below.refl _ w).alloc (Nat.le_refl _) _).alloc (by simp) _).alloc (by simp <;> omega) _)
  gi_wp2_with (gi_at_builtin; refine wpListIn_appendB rfl _ _ rfl (some ⟨w.heap.size + 1 + 1, 0, none⟩) ao n c rfl rfl HN.out.1 bs H3.out ?_)
  generalize hW0 : ((w.alloc (.cells #[.int .i64 most] 3)).alloc (.cells #[.bool false] 4)).alloc (.cells #[] 5) = W0
  obtain ⟨m0, r0, _, hbW⟩ := box3 hW0.symm
  have hsz : W0.heap.size = w.heap.size + 1 + 1 + 1 := by rw [← hW0]; simp
  clear hW0 H3
  intro ao' cap w1 h1 h2 h3
  rw [← hsz] at h3
  have HO : Hid (BS w1 ao' n cap bs) := by
    rcases h1 with ⟨h0, rfl, rfl, rfl⟩ | ⟨h0, _⟩
    · exact ⟨HB.out.lt, by omega, Nat.zero_le _, fun j hj => absurd hj (by omega), fun _ => rfl⟩
    · exact h2 h0
  have HM := hideP (And.intro (hbW.trans (h3.mono hbW.size)) (And.intro ((h3.block _ (lt_of_block m0)).trans m0) ((h3.block _ (lt_of_block r0)).trans r0)))
  clear h1 h2 h3 m0 r0 hbW hsz
  gi_wp2
  refine ⟨trivial, (callsIn_wide.2 (dest_any at_ w1 HO.out HN.out.1)).mono ?_⟩
  rintro e w2 ⟨rfl, hb2⟩
  obtain ⟨hbw, m0, r0⟩ := HM.out
  have HM2 := hideP (And.intro (hbw.trans (hb2.mono hbw.size)) (And.intro ((hb2.block _ (lt_of_block m0)).trans m0) ((hb2.block _ (lt_of_block r0)).trans r0)))
  clear hbw m0 r0 hb2 HM HO
  gi_wp2
  refine ⟨trivial, (callsIn_wide.2 (refDest_any HN.out.2.1 at_ w2 (HB.out.moved HM2.out.1))).mono ?_⟩
  rintro e w3 ⟨rfl, hb2⟩
  obtain ⟨hbw, m0, r0⟩ := HM2.out
  have HM3 := hideP (And.intro (hbw.trans (hb2.mono hbw.size)) (And.intro ((hb2.block _ (lt_of_block m0)).trans m0) ((hb2.block _ (lt_of_block r0)).trans r0)))
  clear hbw m0 r0 hb2 HM2
  generalize destB bs n at_ = dB
  gi_wp2
  refine ⟨trivial, (callsIn_wide.2 (awake_any w3)).mono ?_⟩
  rintro e w4 ⟨rfl, hb2⟩
  obtain ⟨hbw, m0, r0⟩ := HM3.out
  have HM4 := hideP (And.intro (hbw.trans (hb2.mono hbw.size)) (And.intro ((hb2.block _ (lt_of_block m0)).trans m0) ((hb2.block _ (lt_of_block r0)).trans r0)))
  clear hbw m0 r0 hb2 HM3
  gi_wp2
  refine ⟨trivial, (callsIn_wide.2 (refCodes_any HN.out.2.1 w4 (HB.out.moved HM4.out.1))).mono ?_⟩
  rintro e w5 ⟨⟨wv, rfl, hrow⟩, hb2⟩
  obtain ⟨hbw, m0, r0⟩ := HM4.out
  obtain ⟨va, vc, rfl⟩ := row_slice hrow
  have hs4 := hbw.size
  have hw5 := hbw.trans (hb2.mono hbw.size)
  replace m0 := (hb2.block _ (lt_of_block m0)).trans m0
  replace r0 := (hb2.block _ (lt_of_block r0)).trans r0
  generalize hM : (insL bs n).length = M at *
  have HML := hideP hM
  have hbA : Below w5.heap.size w5 ((w5.alloc (.cells #[.slice va M vc] 56)).alloc (.cells #[.int .i64 0] 3)) := ((Below.refl _ w5).alloc (Nat.le_refl _) _).alloc (by simp) _
  have hW0 : ((w5.alloc (.cells #[.slice va M vc] 56)).alloc (.cells #[.int .i64 0] 3)).heap[w5.heap.size]? = some (.cells #[.slice va M vc] 56 (0, 0)) := (heap_old _ _ (by simp)).trans (heap_new w5 _)
  have hK0 : ((w5.alloc (.cells #[.slice va M vc] 56)).alloc (.cells #[.int .i64 0] 3)).heap[w5.heap.size + 1]? = some (.cells #[.int .i64 0] 3 (0, 0)) := by
    have := heap_new (w5.alloc (.cells #[.slice va M vc] 56)) (.cells #[.int .i64 0] 3)
    rwa [World.size_alloc] at this
  have hLP : LP w most w.heap.size (w.heap.size + 1) w5.heap.size (w5.heap.size + 1) (.slice va M vc) M (cdF (insL bs n)) 0 [] ((w5.alloc (.cells #[.slice va M vc] 56)).alloc (.cells #[.int .i64 0] 3)) :=
    ⟨(hbA.block _ (lt_of_block m0)).trans m0, (hbA.block _ (lt_of_block r0)).trans r0, hW0, hK0, row_moved (row_base hrow hs4) hbA, trivial, hw5.trans (hbA.mono hw5.size), Nat.le_succ _, Nat.zero_le _⟩
  have HLP := hideP hLP
  clear hLP hs4 hK0 hW0 hbA r0 m0 hw5 hbw hb2 hrow HM4 hM
  gi_wp2
  refine wpIn_loop (fun a V => ∃ k KB u ds, a = PA ao n c w.heap.size (w.heap.size + 1) w5.heap.size KB u ds ∧ LP w most w.heap.size (w.heap.size + 1) w5.heap.size KB (.slice va M vc) M (cdF (insL bs n)) k ds V) PM ?_ ?_
  · exact ⟨0, _, _, [], PA_of _ _ rfl rfl rfl rfl rfl rfl, HLP.out⟩
  · rintro a V ⟨k, KB, u, ds, rfl, hP⟩
    have HPM := hideP (PM_eq (ao := ao) (n := n) (c := c) (MB := w.heap.size) (RB := w.heap.size + 1) (WB := w5.heap.size) (u := u) (ds := ds) hP.kb)
    have kb := blk_cell hP.kb (o := 0) rfl
    rw [PA_eq]
    have HP := hideP hP
    have hVB : Below V.heap.size V (V.alloc (.cells #[.int .i64 0] 3)) := (Below.refl _ V).alloc (Nat.le_refl _) _
    have hVw := hP.below.trans (hVB.mono hP.below.size)
    have HVB := hideP (And.intro hVB hVw)
    clear hVB hVw
    by_cases hk2 : k < 2
    · have g1 : (k : Int) < 2 := by omega
      have HK2 := hideP hk2
      clear hP hk2
      gi_wp2
      refine ⟨trivial, (callsIn_wide.2 (codes_any HN.out.1 _ (HB.out.moved HVB.out.2))).mono ?_⟩
      rintro e U ⟨⟨bc, ao2, c2, rfl, hIM, hbc, hg⟩, hb8⟩
      have hszV : (V.alloc (.cells #[.int .i64 0] 3)).heap.size = V.heap.size + 1 := by simp
      have hIU := (hb8.block _ (lt_of_block (heap_new V (.cells #[.int .i64 0] 3)))).trans (heap_new V (.cells #[.int .i64 0] 3))
      have hVU := HVB.out.1.trans (hb8.mono (by omega))
      have hsU : V.heap.size < U.heap.size := lt_of_block hIU
      have hgive := ins_gives (9 - 1) (by omega) U HN.out.1 hIM
      have HG := hideP (And.intro hgive (And.intro hIU (And.intro hVU (And.intro hsU (And.intro hbc (And.intro hg hszV))))))
      clear hIM hIU hszV hVU hsU hgive hbc hg hb8 kb
      gi_wp2
      obtain ⟨hgive, hIU, hVU, hsU, hbc, hg, hszV⟩ := HG.out
      rw [HML.out] at hgive
      have HFIN : Hid (∀ (D : Nat) (X : World) (tm : Array Value), V.heap.size ≤ D → Below V.heap.size V X → X.heap[D]? = some (.deferred (some [])) → tm.size = 101 → tm[0]? = some (.slice ao n c) → tm[5]? = some (.pointer (some ⟨w.heap.size, 0, none⟩)) → tm[6]? = some (.pointer (some ⟨w.heap.size + 1, 0, none⟩)) → tm[7]? = some (.pointer (some ⟨w5.heap.size, 0, none⟩)) → tm[8]? = some (.pointer (some ⟨X.heap.size, 0, none⟩)) →
          (∃ k1 KB u ds', ({ tmps := tm, defers := { target := .collected D, args := #[] } :: ds } : Act) = PA ao n c w.heap.size (w.heap.size + 1) w5.heap.size KB u ds' ∧ LP w most w.heap.size (w.heap.size + 1) w5.heap.size KB (.slice va M vc) M (cdF (insL bs n)) k1 ds' (X.alloc (.cells #[.int .i64 ((k + 1 : Nat) : Int)] 3))) ∧ PM { tmps := tm, defers := { target := .collected D, args := #[] } :: ds } (X.alloc (.cells #[.int .i64 ((k + 1 : Nat) : Int)] 3)) < PM (PA ao n c w.heap.size (w.heap.size + 1) w5.heap.size KB u ds) V) := by
        rintro D X tm hVD hXb hdef t1 t2 t3 t4 t5 t6
        have hYb : Below V.heap.size V (X.alloc (.cells #[.int .i64 ((k + 1 : Nat) : Int)] 3)) := hXb.alloc hXb.size _
        have hYk := heap_new X (.cells #[.int .i64 ((k + 1 : Nat) : Int)] 3)
        have hYd := (heap_old X (.cells #[.int .i64 ((k + 1 : Nat) : Int)] 3) (lt_of_block hdef)).trans hdef
        refine ⟨⟨k + 1, _, _, _, PA_of _ _ t1 t2 t3 t4 t5 t6, HP.out.next HK2.out hYb (by omega) hYd hYk⟩, ?_⟩
        rw [PA_of _ _ t1 t2 t3 t4 t5 t6, PM_eq hYk, HPM.out]
        have := HK2.out
        omega
      refine range_seq (n := 9) (by omega) rfl (enters_of Tryd.func91 (by kernel_rfl) rfl) (insV (insL bs n)) M (fun _ => rfl) _ hgive
        (QI V U) (fun cd X => cd = .exit 2 ∧ k = 1 ∧ ∃ q, QI V U q X)
        (fun q X X' h hb => h.moved hsU (hb.mono h.sz)) (fun cd X X' h hb => by
          obtain ⟨h1, h2, q, h3⟩ := h
          exact ⟨h1, h2, q, h3.moved hsU (hb.mono h3.sz)⟩)
        (fun q X l' o o' h hl h1 h2 => h.moved hsU (below_putObj _ hl)) (fun cd X l' o o' h hl h1 h2 => by
          obtain ⟨h3, h4, q, h5⟩ := h
          exact ⟨h3, h4, q, h5.moved hsU (below_putObj _ hl)⟩)
        (fun X X' l' o o' h hl h1 h2 hi => (h hi).putObj h1 h2)
        ⟨hIU, hVU, Nat.le_refl _⟩ ?round ?done ?stop
      case stop =>
        rintro D cd X hD ⟨rfl, rfl, q, hQ⟩ hdef
        have hkX := (hQ.b.block _ (lt_of_block HP.out.kb)).trans HP.out.kb
        have k0 := blk_cell hkX (o := 0) rfl
        have hlk := lt_of_block hkX
        have HD := hideP (And.intro hQ (And.intro hdef (And.intro hsU hD)))
        clear hQ hdef hgive hIU hVU hsU hkX g1 hbc hg hszV hD
        gi_wp2
        obtain ⟨hQ, hdef, hsU, hD⟩ := HD.out
        exact HFIN.out D X _ (by omega) hQ.b hdef rfl rfl rfl rfl rfl rfl
      case done =>
        intro D X hD hQ hdef
        have hkX := (hQ.b.block _ (lt_of_block HP.out.kb)).trans HP.out.kb
        have hwX := (hQ.b.block _ (lt_of_block HP.out.wb)).trans HP.out.wb
        have k0 := blk_cell hkX (o := 0) rfl
        have w0 := blk_cell hwX (o := 0) rfl
        have i0 := blk_cell hQ.i (o := 0) rfl
        have hlk := lt_of_block hkX
        have e1 : IntKind.i64.wrap ((k : Int) + 1) = ((k + 1 : Nat) : Int) := by have := HK2.out; rw [IntKind.wrap_i64]; omega
        have HD := hideP (And.intro hQ (And.intro hdef (And.intro hsU hD)))
        clear hQ hdef hgive hIU hVU hsU hkX hwX hbc hg hszV hD
        by_cases hk0 : k = 0
        · have e0 : ((k : Int) == 0) = true := by rw [hk0]; rfl
          clear hk0
          gi_wp2
          obtain ⟨hQ, hdef, hsU, hD⟩ := HD.out
          exact HFIN.out D X _ (by omega) hQ.b hdef rfl rfl rfl rfl rfl rfl
        · have e0 : ((k : Int) == 0) = false := by
            rw [beq_eq_false_iff_ne]
            omega
          clear hk0
          gi_wp2
          obtain ⟨hQ, hdef, hsU, hD⟩ := HD.out
          exact HFIN.out D X _ (by omega) hQ.b hdef rfl rfl rfl rfl rfl rfl
      case round =>
        rintro l' q X hq hQ hl' ⟨rr, hlr⟩
        have hqL : q < (insL bs n).length := by rw [HML.out]; exact hq
        rw [insV_at hqL]
        have HALL := hideP (And.intro hQ (And.intro hlr (And.intro hl' (And.intro hq (And.intro hqL (And.intro hsU (And.intro hbc (And.intro hg hszV))))))))
        clear hgive hIU hVU hsU hQ hlr hl' hq hqL hbc hg hszV
        gi_wp2
        refine ⟨KeepsFrom.refl _ _, fun r => ?_⟩
        obtain ⟨hQ, hlr, hl', hq, hqL, hsU, hbc, hg, hszV⟩ := HALL.out
        have hQ1 : QI V U q (X.putObj l' (.loop r)) := hQ.moved hsU (below_putObj _ hl')
        have hKp : ∀ X', (∀ b, b ≠ V.heap.size → b < (X.putObj l' (.loop r)).heap.size → X'.heap[b]? = (X.putObj l' (.loop r)).heap[b]?) → KpI bc ao2 n c2 bs X X' := fun X' hk hi =>
          (InsM.putObj hi hlr rfl).keep (B := V.heap.size) (by omega) (fun h => by obtain ⟨g, h1, h2⟩ := hg h; exact ⟨g, by omega, h2⟩) hk
        generalize X.putObj l' (.loop r) = X1 at *
        obtain ⟨hatq, hp, _⟩ := ins_at hqL
        obtain ⟨y0, y1⟩ := cdF_get hatq
        obtain ⟨g, cap2, ev, hg1, hg2, hrc⟩ := row_cells HP.out.row (by omega) hQ1.b
        cases ev
        have z0 := hrc _ _ y0
        have z1 := hrc _ _ y1
        dsimp only at z0 z1
        have hw1 := (hQ1.b.block _ (lt_of_block HP.out.wb)).trans HP.out.wb
        have hk1 := (hQ1.b.block _ (lt_of_block HP.out.kb)).trans HP.out.kb
        have hm1 := (hQ1.b.block _ (lt_of_block HP.out.mb)).trans HP.out.mb
        have hVk := lt_of_block HP.out.kb
        have hVm := lt_of_block HP.out.mb
        have hi4 := hQ1.i
        have c0 := blk_cell hw1 (o := 0) rfl
        have c1 := blk_cell hi4 (o := 0) rfl
        have c2' := blk_cell hk1 (o := 0) rfl
        have c3 := blk_cell hm1 (o := 0) rfl
        have cf : ∀ o, X1.frozen? ⟨V.heap.size, o, none⟩ = false := fun o => blk_free hi4
        have hqn : q < 1048576 := by
          have := ins_len bs n q (by omega)
          have := HN.out.2.1
          omega
        have g2 : ¬ ((M : Int) ≤ (q : Int)) := by omega
        have g3 : (q : Int) < (M : Int) := by omega
        have e1 : IntKind.i64.wrap ((q : Int) + 1) = (q : Int) + 1 := by rw [IntKind.wrap_i64]; omega
        have hi5 := blk_set hi4 (o := 0) (.int .i64 ((q : Int) + 1))
        have hoth : ∀ b, b ≠ V.heap.size → (X1.setCell ⟨V.heap.size, 0, none⟩ (.int .i64 ((q : Int) + 1))).heap[b]? = X1.heap[b]? := fun b h1 => Below.heap_setCell _ _ _ _ (by dsimp only; exact h1)
        have d2 : (X1.setCell ⟨V.heap.size, 0, none⟩ (.int .i64 ((q : Int) + 1))).cell? ⟨KB, 0, none⟩ = some (.int .i64 (k : Int)) := blk_cell ((hoth KB (by omega)).trans hk1) rfl
        have d3 : (X1.setCell ⟨V.heap.size, 0, none⟩ (.int .i64 ((q : Int) + 1))).cell? ⟨w.heap.size, 0, none⟩ = some (.int .i64 most) := blk_cell ((hoth w.heap.size (by omega)).trans hm1) rfl
        have d1 := blk_cell hi5 (o := 0) rfl
        have hsz5 : (X1.setCell ⟨V.heap.size, 0, none⟩ (.int .i64 ((q : Int) + 1))).heap.size = X1.heap.size := World.size_setCell _ _ _
        have hs1 := hQ1.sz
        have hkf5 : KeepsFrom U.heap.size X1 (X1.setCell ⟨V.heap.size, 0, none⟩ (.int .i64 ((q : Int) + 1))) := ⟨by omega, fun b o hb h0 hc => (hoth b (by omega)).trans h0⟩
        have hkp5 : KpI bc ao2 n c2 bs X (X1.setCell ⟨V.heap.size, 0, none⟩ (.int .i64 ((q : Int) + 1))) := hKp _ (fun b hb _ => hoth b hb)
        have hQ5 : QI V U (q + 1) (X1.setCell ⟨V.heap.size, 0, none⟩ (.int .i64 ((q : Int) + 1))) := ⟨hi5, hQ1.b.setCell (Nat.le_refl _) _, by omega⟩
        have HZ := hideP (And.intro hkf5 (And.intro hkp5 hQ5))
        clear hQ hlr hl' hq hqL hsU hbc hg hszV hQ1 hKp hatq hp y0 y1 hg1 hg2 hrc hw1 hk1 hm1 hVk hVm hi4 hqn hi5 hoth hsz5 hs1 hkf5 hkp5 hQ5 HALL g1
        generalize posN bs n q = p at *
        generalize bs p = o at *
        by_cases hk1' : k = 1
        · have e2 : ((k : Int) == 1) = true := by rw [hk1']; rfl
          have HK1 := hideP hk1'
          clear hk1'
          by_cases hgt : (q : Int) + 1 > most
          · have hgt' : most < (q : Int) + 1 := hgt
            have hgt'' : most ≤ (q : Int) := by omega
            gi_wp2
            obtain ⟨hkf5, hkp5, hQ5⟩ := HZ.out
            exact ⟨hkf5, rfl, HK1.out, _, hQ5⟩
          · have hgt' : ¬ most < (q : Int) + 1 := hgt
            have hgt'' : ¬ most ≤ (q : Int) := by omega
            gi_wp2
            exact HZ.out
        · have e2 : ((k : Int) == 1) = false := by
            rw [beq_eq_false_iff_ne]
            omega
          clear hk1'
          gi_wp2
          exact HZ.out
    · have g1 : ¬ (k : Int) < 2 := by omega
      clear hP hk2
      gi_wp2
      refine ⟨trivial, (callsIn_wide.2 (refDests_any HN.out.2.1 V (HB.out.moved HP.out.below))).mono ?_⟩
      rintro e V2 ⟨⟨dv, rfl, hrow⟩, hb2⟩
      obtain ⟨da, dc, rfl⟩ := row_slice hrow
      generalize hN : (dstL bs n).length = N at *
      have hVw := HP.out.below.trans (hb2.mono HP.out.below.size)
      have hbA : Below V2.heap.size V2 ((V2.alloc (.cells #[.slice da N dc] 63)).alloc (.cells #[.int .i64 0] 3)) := ((Below.refl _ V2).alloc (Nat.le_refl _) _).alloc (by simp) _
      have HR := hideP (And.intro hrow (And.intro hb2 (And.intro hVw (And.intro hbA (hVw.trans (hbA.mono hVw.size))))))
      have HNL := hideP hN
      clear hrow hb2 hVw hbA hN kb HVB HPM
      gi_wp2
      refine ⟨trivial, (callsIn_wide.2 (dests_any HN.out.1 _ (HB.out.moved HR.out.2.2.2.2))).mono ?_⟩
      rintro e V4 ⟨⟨bd, bc, ao2, c2, rfl, hcd, hIM, hbc, hg⟩, hb8⟩
      have hszV : ((V2.alloc (.cells #[.slice da N dc] 63)).alloc (.cells #[.int .i64 0] 3)).heap.size = V2.heap.size + 1 + 1 := by simp
      have hgive := dests_gives (9 - 1) (by omega) V4 HN.out.1 hIM hcd
      have hI0 : DI V2 V4 (.slice da N dc) 0 V4 := by
        have x0 := (heap_old (V2.alloc (.cells #[.slice da N dc] 63)) (.cells #[.int .i64 0] 3) (k := V2.heap.size) (by simp)).trans (heap_new V2 (.cells #[.slice da N dc] 63))
        have x1 := heap_new (V2.alloc (.cells #[.slice da N dc] 63)) (.cells #[.int .i64 0] 3)
        rw [World.size_alloc] at x1
        exact ⟨(hb8.block _ (lt_of_block x0)).trans x0, (hb8.block _ (lt_of_block x1)).trans x1, HR.out.2.2.2.1.trans (hb8.mono (by omega)), Nat.le_refl _⟩
      have hsU : V2.heap.size + 1 < V4.heap.size := by have := hb8.size; omega
      have HG := hideP (And.intro hgive (And.intro hI0 (And.intro hsU (And.intro hbc (And.intro hg hszV)))))
      clear hgive hI0 hsU hbc hg hszV hcd hIM hb8
      gi_wp2
      obtain ⟨hgive, hI0, hsU, hbc, hg, hszV⟩ := HG.out
      rw [HNL.out] at hgive
      refine range_seq2 (n := 9) (by omega) rfl (enters_of Tryd.func78 (by kernel_rfl) rfl) (dstV (dstL bs n)) N (fun _ => rfl) _ hgive
        (DI V2 V4 (.slice da N dc))
        (fun q X X' h hb => h.moved hsU (hb.mono h.sz))
        (fun q X l' o o' h hl h1 h2 => h.moved hsU (below_putObj _ hl))
        (fun X X' l' o o' h hl h1 h2 => ⟨fun hi => (h.1 hi).putObj h1 h2, by simp only [World.putObj, Array.size_setIfInBounds]; exact h.2.1, fun k h3 h4 => (World.putObj_heap_other (by omega)).trans (h.2.2 k h3 h4)⟩)
        hI0 ?round ?done
      case done =>
        intro D X hD hQ hdef
        have hVb := HR.out.2.1.trans (hQ.b.mono HR.out.2.1.size)
        have y0 := (hVb.block _ (lt_of_block HP.out.rb)).trans HP.out.rb
        have y1 := blk_cell y0 (o := 0) rfl
        have yf : ∀ o, X.frozen? ⟨w.heap.size + 1, o, none⟩ = false := fun o => blk_free y0
        have c0 := blk_cell hQ.d (o := 0) rfl
        have c1 := blk_cell hQ.i (o := 0) rfl
        have HD := hideP (And.intro hQ (And.intro hdef (And.intro hVb (And.intro y0 (And.intro hD hsU)))))
        clear hQ hdef hgive hI0 hsU hbc hg hszV hD hVb y0 g1
        gi_wp2
        obtain ⟨hQ, hdef, hVb, y0, hD, hsU⟩ := HD.out
        have hVz := hVb.size
        have h2z := HR.out.2.1.size
        have hPw := HP.out.below
        have hlr := lt_of_block HP.out.rb
        refine leaves_dok (lo := w.heap.size) (v := .bool true) (S := fun X => X.heap[w.heap.size + 1]? = some (.cells #[.bool true] 4 (0, 0)) ∧ Below w.heap.size w X) ?_ ?_ ({ target := .collected D, args := #[] } :: ds) _ X.heap.size ?_ ?_
        · rintro X ⟨h1, h2⟩
          have y9 := blk_cell h1 (o := 0) rfl
          exact ⟨by simp [results, Tryd.results8, go_sem, y9], rfl, h2⟩
        · rintro X D hlo ⟨h1, h2⟩ hD
          exact ⟨putObj_cells hD rfl h1 rfl, h2.trans (below_putObj _ hlo)⟩
        · have hpw := hPw.size
          refine ⟨D, rfl, by omega, lt_of_block hdef, (Below.heap_setCell _ _ _ _ ?_).trans hdef, ?_⟩
          · dsimp only
            intro e
            subst e
            rw [y0] at hdef
            cases hdef
          · refine DOK.mono (B := V.heap.size) (HP.out.dok.moved fun b hb ho => (Below.heap_setCell _ _ _ _ ?_).trans ((hVb.block b hb).trans ho)) (by omega)
            dsimp only
            intro e
            subst e
            rw [HP.out.rb] at ho
            cases ho
        · exact ⟨blk_set y0 _, (hPw.trans (hVb.mono hPw.size)).setCell (by dsimp only; omega) _⟩
      case round =>
        rintro l' q X hq hQ hl' ⟨rr, hlr⟩
        obtain ⟨p, hpq⟩ : ∃ p, (dstL bs n)[q]? = some p := ⟨_, List.getElem?_eq_getElem (by rw [HNL.out]; exact hq)⟩
        have hdv : dstV (dstL bs n) q = #[.int .i64 (p : Nat)] := by
          unfold dstV
          rw [List.getD_eq_getElem?_getD, hpq]
          rfl
        rw [hdv]
        have HALL := hideP (And.intro hQ (And.intro hlr (And.intro hl' (And.intro hq (And.intro hpq (And.intro hsU (And.intro hbc (And.intro hg hszV))))))))
        clear hgive hI0 hsU hQ hlr hl' hq hpq hbc hg hszV hdv
        gi_wp2
        refine ⟨KeepsFrom.refl _ _, fun r => ?_⟩
        obtain ⟨hQ, hlr, hl', hq, hpq, hsU, hbc, hg, hszV⟩ := HALL.out
        have hQ1 : DI V2 V4 (.slice da N dc) q (X.putObj l' (.loop r)) := hQ.moved hsU (below_putObj _ (by omega))
        have hX1 : ∀ k, V4.heap.size + 2 ≤ k → (X.putObj l' (.loop r)).heap[k]? = X.heap[k]? := fun k hk => World.putObj_heap_other (by omega)
        have hX1s : (X.putObj l' (.loop r)).heap.size = X.heap.size := by simp [World.putObj]
        have hKp : ∀ X', (∀ b, b ≠ V2.heap.size + 1 → b < (X.putObj l' (.loop r)).heap.size → X'.heap[b]? = (X.putObj l' (.loop r)).heap[b]?) → KpI bc ao2 n c2 bs X X' := fun X' hk hi =>
          (InsM.putObj hi hlr rfl).keep (B := V2.heap.size + 1) (by omega) (fun h => by obtain ⟨g, h1, h2⟩ := hg h; exact ⟨g, by omega, h2⟩) hk
        generalize X.putObj l' (.loop r) = X1 at *
        obtain ⟨g, cap2, ev, hg1, hg2, hrc⟩ := row_cells HR.out.1 (by omega) hQ1.b
        cases ev
        have z0 := hrc q (.int .i64 (p : Nat)) (by unfold nmF; rw [List.getElem?_map, hpq]; rfl)
        have hi4 := hQ1.i
        have c0 := blk_cell hQ1.d (o := 0) rfl
        have c1 := blk_cell hi4 (o := 0) rfl
        have cf : ∀ o, X1.frozen? ⟨V2.heap.size + 1, o, none⟩ = false := fun o => blk_free hi4
        have hqn : q < 1048576 + 1 := by
          have h1 := dst_end bs n
          have h0 := HNL.out
          have h2 : dstN bs n (insL bs n).length ≤ (insL bs n).length := by
            unfold dstN
            rw [List.take_length]
            exact List.countP_le_length
          have h4 : 0 < (insL bs n).length := by omega
          have h3 := ins_len bs n ((insL bs n).length - 1) (by omega)
          have h5 := (ins_at (bs := bs) (n := n) (k := (insL bs n).length - 1) (by omega)).2.1
          have := HN.out.2.1
          omega
        have g2 : ¬ ((N : Int) ≤ (q : Int)) := by omega
        have g3 : (q : Int) < (N : Int) := by omega
        have e1 : IntKind.i64.wrap ((q : Int) + 1) = (q : Int) + 1 := by rw [IntKind.wrap_i64]; omega
        have hi5 := blk_set hi4 (o := 0) (.int .i64 ((q : Int) + 1))
        have hoth : ∀ b, b ≠ V2.heap.size + 1 → (X1.setCell ⟨V2.heap.size + 1, 0, none⟩ (.int .i64 ((q : Int) + 1))).heap[b]? = X1.heap[b]? := fun b h1 => Below.heap_setCell _ _ _ _ (by dsimp only; exact h1)
        have hsz5 : (X1.setCell ⟨V2.heap.size + 1, 0, none⟩ (.int .i64 ((q : Int) + 1))).heap.size = X1.heap.size := World.size_setCell _ _ _
        have hs1 := hQ1.sz
        have hkf5 : KeepsFrom V4.heap.size X1 (X1.setCell ⟨V2.heap.size + 1, 0, none⟩ (.int .i64 ((q : Int) + 1))) := ⟨by omega, fun b o hb h0 hc => (hoth b (by omega)).trans h0⟩
        have hkp5 : KpD bc ao2 n c2 bs V4 X (X1.setCell ⟨V2.heap.size + 1, 0, none⟩ (.int .i64 ((q : Int) + 1))) := ⟨hKp _ (fun b hb _ => hoth b hb), by omega, fun k h1 h2 => (hoth k (by omega)).trans (hX1 k h1)⟩
        have hQ5 : DI V2 V4 (.slice (some ⟨g, 0, none⟩) N dc) (q + 1) (X1.setCell ⟨V2.heap.size + 1, 0, none⟩ (.int .i64 ((q : Int) + 1))) := ⟨(hoth _ (by omega)).trans hQ1.d, hi5, hQ1.b.setCell (Nat.le_succ _) _, by omega⟩
        have HZ := hideP (And.intro hkf5 (And.intro hkp5 hQ5))
        clear hQ hlr hl' hq hsU hbc hg hszV hQ1 hKp hg1 hg2 hrc hi4 hqn hi5 hoth hsz5 hs1 hkf5 hkp5 hQ5 HALL g1 hX1 hX1s hpq
        gi_wp2
        exact HZ.out

end Go.Proofs.YtaeadndihchbnaaDoor
