/-
  Any bytes fall into pieces, one behind the other: the walk of RlpPieces.
-/
import Derived.Test.YtigebmidfddbcaaREach
import Derived.Test.YtigebmidfddbcaaAwake
import Derived.Test.YtigebmidfddbcaaBig
namespace Go.Proofs.Ytigebmidfddbcaa
open Go.RowKit Go.Shelf

attribute [local go_sem] Oper.semAt_some

/-- An activation of the law's: what it keeps through its rounds. -/
def PA (ao : Option Addr) (n c MB RB WB KB : Nat) (u : Nat → Value) (ds : List Deferred) : Act := { tmps := #[.slice ao n c, u 1, u 2, .pointer (some ⟨MB, 0, none⟩), .pointer (some ⟨RB, 0, none⟩), .pointer (some ⟨WB, 0, none⟩), .pointer (some ⟨KB, 0, none⟩), u 7, u 8, u 9, u 10, u 11, u 12, u 13, u 14, u 15, u 16, u 17, u 18, u 19, u 20, u 21, u 22, u 23, u 24, u 25, u 26, u 27, u 28, u 29, u 30, u 31, u 32, u 33, u 34, u 35, u 36, u 37, u 38, u 39, u 40, u 41, u 42, u 43, u 44, u 45, u 46, u 47, u 48, u 49, u 50, u 51, u 52, u 53, u 54, u 55, u 56, u 57, u 58, u 59, u 60, u 61, u 62, u 63, u 64, u 65, u 66, u 67, u 68, u 69, u 70, u 71, u 72, u 73, u 74, u 75, u 76, u 77, u 78, u 79, u 80, u 81, u 82, u 83, u 84, u 85], defers := ds }

/-- Blocks for deferred calls, the newest ahead: nothing is in them. -/
def DOK (lo : Nat) : List Deferred → World → Nat → Prop
  | [], _, _ => True
  | d :: ds, V, B => ∃ D, d = { target := .collected D, args := #[] } ∧ lo ≤ D ∧ D < B ∧ V.heap[D]? = some (.deferred (some [])) ∧ DOK lo ds V D

theorem DOK.moved {lo : Nat} : ∀ {ds : List Deferred} {V V' : World} {B : Nat}, DOK lo ds V B → (∀ b, b < B → V.heap[b]? = some (.deferred (some [])) → V'.heap[b]? = some (.deferred (some []))) → DOK lo ds V' B
  | [], _, _, _, _, _ => trivial
  | d :: ds, V, V', B, h, hk => by
    obtain ⟨D, h1, h0, h2, h3, h4⟩ := h
    exact ⟨D, h1, h0, h2, hk _ h2 h3, h4.moved fun b hb ho => hk b (by omega) ho⟩

theorem DOK.mono {lo : Nat} {ds : List Deferred} {V : World} {B B' : Nat} (h : DOK lo ds V B) (hb : B ≤ B') : DOK lo ds V B' := by
  cases ds with
  | nil => trivial
  | cons d ds =>
    obtain ⟨D, h1, h0, h2, h3, h4⟩ := h
    exact ⟨D, h1, h0, by omega, h3, h4⟩

/-- A function is left: its blocks for deferred calls are closed, cells stay as they are. -/
theorem leaves_dok {lo n : Nat} {P : Program} {fn : Func} {tmps : Array Value} {R : Ending → World → Prop} {v : Value} {S : World → Prop} (hres : ∀ V, S V → (results fn tmps).run P V = .ok v V ∧ R (.returned v) V)
    (hS : ∀ V D, lo ≤ D → S V → V.heap[D]? = some (.deferred (some [])) → S (V.putObj D (.deferred none))) : ∀ (ds : List Deferred) (V : World) (B : Nat), DOK lo ds V B → S V → LeavesInM Fence.wide n P fn tmps R ds .returning V
  | [], V, _, _, h => ⟨v, hres V h⟩
  | d :: ds, V, B, hd, h => by
    obtain ⟨D, rfl, h0, h2, h3, h4⟩ := hd
    refine ⟨by simp, .inl ⟨_, _, rfl, run_takeDeferred h3, leaves_dok hres hS ds _ D ?_ (hS V D h0 h h3)⟩⟩
    exact h4.moved fun b hb ho => (World.putObj_heap_other (by omega)).trans ho

/-- What the law's rounds keep. -/
structure LP (w : World) (most : Int) (MB RB WB KB : Nat) (wv : Value) (M : Nat) (fl : List Value) (k : Nat) (ds : List Deferred) (V : World) : Prop where
  mb : V.heap[MB]? = some (.cells #[.int .i64 most] 3 (0, 0))
  rb : V.heap[RB]? = some (.cells #[.bool false] 4 (0, 0))
  wb : V.heap[WB]? = some (.cells #[wv] 54 (0, 0))
  kb : V.heap[KB]? = some (.cells #[.int .i64 (k : Int)] 3 (0, 0))
  row : V.ownsRow w.heap.size 40 3 wv M fl
  dok : DOK w.heap.size ds V V.heap.size
  below : Below w.heap.size w V
  rw_ : w.heap.size ≤ RB
  k2 : k ≤ 2

theorem PA_eq {ao : Option Addr} {n c MB RB WB KB : Nat} {u : Nat → Value} {ds : List Deferred} : PA ao n c MB RB WB KB u ds = { tmps := #[.slice ao n c, u 1, u 2, .pointer (some ⟨MB, 0, none⟩), .pointer (some ⟨RB, 0, none⟩), .pointer (some ⟨WB, 0, none⟩), .pointer (some ⟨KB, 0, none⟩), u 7, u 8, u 9, u 10, u 11, u 12, u 13, u 14, u 15, u 16, u 17, u 18, u 19, u 20, u 21, u 22, u 23, u 24, u 25, u 26, u 27, u 28, u 29, u 30, u 31, u 32, u 33, u 34, u 35, u 36, u 37, u 38, u 39, u 40, u 41, u 42, u 43, u 44, u 45, u 46, u 47, u 48, u 49, u 50, u 51, u 52, u 53, u 54, u 55, u 56, u 57, u 58, u 59, u 60, u 61, u 62, u 63, u 64, u 65, u 66, u 67, u 68, u 69, u 70, u 71, u 72, u 73, u 74, u 75, u 76, u 77, u 78, u 79, u 80, u 81, u 82, u 83, u 84, u 85], defers := ds } := rfl

theorem PA_of {ao : Option Addr} {n c MB RB WB KB : Nat} (tm : Array Value) (ds : List Deferred) (h : tm.size = 86) (h0 : tm[0]? = some (.slice ao n c)) (h3 : tm[3]? = some (.pointer (some ⟨MB, 0, none⟩))) (h4 : tm[4]? = some (.pointer (some ⟨RB, 0, none⟩))) (h5 : tm[5]? = some (.pointer (some ⟨WB, 0, none⟩))) (h6 : tm[6]? = some (.pointer (some ⟨KB, 0, none⟩))) :
    ({ tmps := tm, defers := ds } : Act) = PA ao n c MB RB WB KB (fun i => tm.getD i undef) ds := by
  unfold PA
  congr 1
  refine Array.ext_getElem? fun i => ?_
  by_cases hi : i < 86
  · have hz : tm[i]? = some (tm.getD i undef) := by
      rw [Array.getD_eq_getD_getElem?, Array.getElem?_eq_getElem (by omega)]
      rfl
    iterate 86 (rcases i with _ | i; · first | exact h0 | exact h3 | exact h4 | exact h5 | exact h6 | exact hz)
    omega
  · rw [Array.getElem?_eq_none (by omega), Array.getElem?_eq_none (by simp; omega)]

/-- How many rounds are still to come. -/
def PM (a : Act) (V : World) : Nat := match (a.tmps[6]? : Option Value) with
  | some (.pointer (some ad)) => (match V.cell? ad with
    | some (.int _ i) => (2 - i).toNat
    | _ => 0)
  | _ => 0

theorem PM_eq {ao : Option Addr} {n c MB RB WB KB k : Nat} {u : Nat → Value} {ds : List Deferred} {V : World} (h : V.heap[KB]? = some (.cells #[.int .i64 (k : Int)] 3 (0, 0))) : PM (PA ao n c MB RB WB KB u ds) V = (2 - (k : Int)).toNat := by
  unfold PM PA
  simp only [List.getElem?_toArray, List.getElem?_cons_succ, List.getElem?_cons_zero]
  rw [blk_cell h (o := 0) rfl]
  rfl

/-- How a telling of the pieces stands. -/
structure QI (V U : World) (q : Nat) (X : World) : Prop where
  i : X.heap[V.heap.size]? = some (.cells #[.int .i64 (q : Int)] 3 (0, 0))
  b : Below V.heap.size V X
  sz : U.heap.size ≤ X.heap.size

theorem QI.moved {V U : World} {q : Nat} {X X' : World} (h : QI V U q X) (h1 : V.heap.size < U.heap.size) (hb : Below U.heap.size X X') : QI V U q X' :=
  ⟨(hb.block _ h1).trans h.i, h.b.trans (hb.mono (by omega)), Nat.le_trans h.sz hb.size⟩

/-- What a piece is held against. -/
def PcS (IB PB WB g M vc q l f t : Nat) (V : World) : Prop :=
  V.heap[IB]? = some (.cells #[.int .i64 (q : Int)] 3 (0, 0)) ∧ V.heap[PB]? = some (.cells #[.int .i64 (l : Int), .int .i64 (f : Int), .int .i64 (t : Int)] 40 (0, 0)) ∧ V.heap[WB]? = some (.cells #[.slice (some ⟨g, 0, none⟩) M vc] 54 (0, 0)) ∧
    V.cell? ⟨g, q * 3, none⟩ = some (.int .i64 (l : Int)) ∧ V.cell? ⟨g, q * 3 + 1, none⟩ = some (.int .i64 (f : Int)) ∧ V.cell? ⟨g, q * 3 + 2, none⟩ = some (.int .i64 (t : Int))

/-- The rounds' world goes on. -/
theorem LP.next {w : World} {most : Int} {MB RB WB KB KB' : Nat} {wv : Value} {M : Nat} {fl : List Value} {k : Nat} {ds : List Deferred} {V Y : World} (h : LP w most MB RB WB KB wv M fl k ds V) (hk : k < 2) (hb : Below V.heap.size V Y) {D : Nat} (hD : V.heap.size ≤ D) (hd : Y.heap[D]? = some (.deferred (some [])))
    (hkb : Y.heap[KB']? = some (.cells #[.int .i64 ((k + 1 : Nat) : Int)] 3 (0, 0))) : LP w most MB RB WB KB' wv M fl (k + 1) ({ target := .collected D, args := #[] } :: ds) Y := by
  refine ⟨(hb.block _ (lt_of_block h.mb)).trans h.mb, (hb.block _ (lt_of_block h.rb)).trans h.rb, (hb.block _ (lt_of_block h.wb)).trans h.wb, hkb, ⟨h.row.1, ?_⟩, ?_, h.below.trans (hb.mono h.below.size), h.rw_, by omega⟩
  · rcases h.row.2 with h' | ⟨g, cap, cur, e, hb', hg, rest⟩
    · exact Or.inl h'
    · exact Or.inr ⟨g, cap, cur, e, hb', (hb.block g (lt_of_block hg)).trans hg, rest⟩
  · exact ⟨D, rfl, Nat.le_trans h.below.size hD, lt_of_block hd, hd, (h.dok.moved fun b hb' ho => (hb.block b hb').trans ho).mono hD⟩

set_option maxHeartbeats 16000000 in
set_option maxRecDepth 100000 in
theorem rlpPieces_walk {b : List Nat} {ao : Option Addr} {c : Nat} (most : Int) (hmost : -9223372036854775808 ≤ most ∧ most ≤ 9223372036854775807) (w : World) (h : BS w ao b.length c (lb b)) (hn : b.length ≤ 140737488355328) (hnk : b.length ≤ 1048576) :
    Calls Try.prog 5 #[.slice ao b.length c, .int .i64 most] w fun e w' => e = .returned (.bool true) ∧ Below w.heap.size w w' := by
  have hby := fun (W : World) (hb : Below w.heap.size w W) => lawBytes_any hn W (h.moved hb)
  have hre := fun (W : World) (hb : Below w.heap.size w W) => refEach_any hnk W (h.moved hb)
  have hlt := h.lt
  generalize lb b = bs at *
  generalize b.length = n at *
  have hlenL := pcs_len bs n (n + 1) 0
  have hea := fun (W : World) (ao' : Option Addr) (c' : Nat) (hB : BS W ao' n c' bs) => each_any hn W hB
  generalize hL : pcs bs n (n + 1) 0 = L at *
  have HBY := hideP hby
  have HRE := hideP hre
  have HEA := hideP hea
  have HL := hideP (And.intro hL (And.intro hlenL (And.intro hlt (And.intro hn (And.intro hnk hmost)))))
  clear hby hre hea hL hlenL hlt hn hnk hmost h
  refine (callsIn_wide (n := 6)).1 ?_
  refine callsIn_of_wp_marks Try.func5 rfl trivial ?_ rfl
  simp only [Try.ntmps5, List.size_toArray, List.length_cons, List.length_nil, Nat.reduceAdd, Nat.reduceSub, Array.replicate_succ, Array.replicate_zero, List.push_toArray, List.append_toArray, List.nil_append, List.cons_append]
  gi_wp2
  refine ⟨trivial, (callsIn_wide.2 (awake_any _)).mono ?_⟩
  rintro e W1 ⟨rfl, hb1⟩
  have hbA : Below w.heap.size w ((w.alloc (.cells #[.int .i64 most] 3)).alloc (.cells #[.bool false] 4)) := ((Below.refl _ w).alloc (Nat.le_refl _) _).alloc (by simp) _
  have hM0 : ((w.alloc (.cells #[.int .i64 most] 3)).alloc (.cells #[.bool false] 4)).heap[w.heap.size]? = some (.cells #[.int .i64 most] 3 (0, 0)) := (heap_old _ _ (by simp)).trans (heap_new w _)
  have hR0 : ((w.alloc (.cells #[.int .i64 most] 3)).alloc (.cells #[.bool false] 4)).heap[w.heap.size + 1]? = some (.cells #[.bool false] 4 (0, 0)) := by
    have := heap_new (w.alloc (.cells #[.int .i64 most] 3)) (.cells #[.bool false] 4)
    rwa [World.size_alloc] at this
  have H1 := hideP (And.intro (hbA.trans (hb1.mono hbA.size)) (And.intro ((hb1.block _ (lt_of_block hM0)).trans hM0) ((hb1.block _ (lt_of_block hR0)).trans hR0)))
  clear hb1 hbA hM0 hR0
  gi_wp2
  refine ⟨trivial, (callsIn_wide.2 (HBY.out _ H1.out.1)).mono ?_⟩
  rintro e W2 ⟨⟨v2, rfl, hO2⟩, hb2⟩
  obtain ⟨a2, c2, rfl, hB2, hN2⟩ := hO2.ex
  have HE2 := hideP (HEA.out W2 a2 c2 hB2)
  have H2 := hideP hb2
  clear hO2 hB2 hN2 hb2
  gi_wp2
  refine ⟨trivial, (callsIn_wide.2 HE2.out).mono ?_⟩
  rintro e W3 ⟨⟨a3, c3, rfl, hc3, hB3, hN3⟩, hb3⟩
  have h13 := H2.out.trans (hb3.mono H2.out.size)
  have h03 := H1.out.1.trans (h13.mono H1.out.1.size)
  have hM3 := (h13.block _ (lt_of_block H1.out.2.1)).trans H1.out.2.1
  have hR3 := (h13.block _ (lt_of_block H1.out.2.2)).trans H1.out.2.2
  have H3 := hideP (And.intro h03 (And.intro hM3 hR3))
  clear hc3 hB3 hN3 hb3 h13 h03 hM3 hR3 HE2 H2 H1
  have hnf : (binOp BinOp.eql 52 (.func (.func 59) #[] #[.pointer (some ⟨W2.heap.size, 0, none⟩)]) .nilFunc).run Try.prog W3 = .ok (.bool false) W3 := rfl
  gi_wp2
  refine ⟨trivial, (callsIn_wide.2 (HRE.out _ H3.out.1)).mono ?_⟩
  rintro e W4 ⟨⟨v4, rfl, hrow⟩, hb4⟩
  have hvs : ∃ va vn vc, v4 = .slice va vn vc := by
    rcases hrow.2 with ⟨rfl, _⟩ | ⟨g, cap, cur, rfl, _⟩
    · exact ⟨_, _, _, rfl⟩
    · exact ⟨_, _, _, rfl⟩
  obtain ⟨va, vn, vc, rfl⟩ := hvs
  have hrl : vn = good L := by
    rcases hrow.2 with ⟨e, h0⟩ | ⟨g, cap, cur, e, _⟩
    · cases e; exact h0.symm
    · cases e; rfl
  subst hrl
  have hb04 := H3.out.1.trans (hb4.mono H3.out.1.size)
  have hM4 := (hb4.block _ (lt_of_block H3.out.2.1)).trans H3.out.2.1
  have hR4 := (hb4.block _ (lt_of_block H3.out.2.2)).trans H3.out.2.2
  have hbA : Below W4.heap.size W4 ((W4.alloc (.cells #[.slice va (good L) vc] 54)).alloc (.cells #[.int .i64 0] 3)) := ((Below.refl _ W4).alloc (Nat.le_refl _) _).alloc (by simp) _
  have hW0 : ((W4.alloc (.cells #[.slice va (good L) vc] 54)).alloc (.cells #[.int .i64 0] 3)).heap[W4.heap.size]? = some (.cells #[.slice va (good L) vc] 54 (0, 0)) := (heap_old _ _ (by simp)).trans (heap_new W4 _)
  have hK0 : ((W4.alloc (.cells #[.slice va (good L) vc] 54)).alloc (.cells #[.int .i64 0] 3)).heap[W4.heap.size + 1]? = some (.cells #[.int .i64 0] 3 (0, 0)) := by
    have := heap_new (W4.alloc (.cells #[.slice va (good L) vc] 54)) (.cells #[.int .i64 0] 3)
    rwa [World.size_alloc] at this
  have hrow3 := H3.out.1.size
  have hLP : LP w most w.heap.size (w.heap.size + 1) W4.heap.size (W4.heap.size + 1) (.slice va (good L) vc) (good L) (pcF (L.take (good L))) 0 [] ((W4.alloc (.cells #[.slice va (good L) vc] 54)).alloc (.cells #[.int .i64 0] 3)) :=
    ⟨(hbA.block _ (lt_of_block hM4)).trans hM4, (hbA.block _ (lt_of_block hR4)).trans hR4, hW0, hK0, ⟨hrow.1, by
      rcases hrow.2 with h | ⟨g, cap, cur, e, hb, hg, rest⟩
      · exact Or.inl h
      · exact Or.inr ⟨g, cap, cur, e, by omega, (hbA.block g (lt_of_block hg)).trans hg, rest⟩⟩, trivial, hb04.trans (hbA.mono hb04.size), Nat.le_succ _, Nat.zero_le _⟩
  have HLP := hideP hLP
  clear hLP hrow3 hK0 hW0 hbA hR4 hM4 hb04 hrow hb4 H3 hnf HRE
  generalize hgl : good L = M at *
  have HGL := hideP hgl
  clear hgl
  gi_wp2
  refine wpIn_loop (fun a V => ∃ k KB u ds, a = PA ao n c w.heap.size (w.heap.size + 1) W4.heap.size KB u ds ∧ LP w most w.heap.size (w.heap.size + 1) W4.heap.size KB (.slice va M vc) M (pcF (L.take M)) k ds V) PM ?_ ?_
  · exact ⟨0, _, _, [], PA_of _ _ rfl rfl rfl rfl rfl rfl, HLP.out⟩
  · rintro a V ⟨k, KB, u, ds, rfl, hP⟩
    have HPM := hideP (PM_eq (ao := ao) (n := n) (c := c) (MB := w.heap.size) (RB := w.heap.size + 1) (WB := W4.heap.size) (u := u) (ds := ds) hP.kb)
    have kb := blk_cell hP.kb (o := 0) rfl
    rw [PA_eq]
    have HP := hideP hP
    have hVB : Below V.heap.size V (V.alloc (.cells #[.int .i64 0] 3)) := (Below.refl _ V).alloc (Nat.le_refl _) _
    have hVw := hP.below.trans (hVB.mono hP.below.size)
    have HVB := hideP (And.intro hVB hVw)
    clear hVB hVw
    by_cases hk2 : k < 2
    · have g1 : (k : Int) < 2 := by omega
      have HK2 := hideP hk2
      clear hP hk2
      gi_wp2
      refine ⟨trivial, (callsIn_wide.2 (HBY.out _ HVB.out.2)).mono ?_⟩
      rintro e W7 ⟨⟨v7, rfl, hO7⟩, hb7⟩
      obtain ⟨a7, c7, rfl, hB7, hN7⟩ := hO7.ex
      have HE7 := hideP (HEA.out W7 a7 c7 hB7)
      have H7 := hideP hb7
      clear hO7 hB7 hN7 hb7
      gi_wp2
      refine ⟨trivial, (callsIn_wide.2 HE7.out).mono ?_⟩
      rintro e U ⟨⟨ea, ec, rfl, hcE, hBE, hEat⟩, hb8⟩
      have h17 := H7.out.trans (hb8.mono H7.out.size)
      have hIU := (h17.block _ (lt_of_block (heap_new V (.cells #[.int .i64 0] 3)))).trans (heap_new V (.cells #[.int .i64 0] 3))
      have hszV : (V.alloc (.cells #[.int .i64 0] 3)).heap.size = V.heap.size + 1 := by simp
      have hVU := HVB.out.1.trans (h17.mono (by omega))
      have hsU : V.heap.size < U.heap.size := lt_of_block hIU
      have hs7 := H7.out.size
      have hgive := each1_gives (6 - 1) (by omega) W7.heap.size (fun b => b = V.heap.size) U hBE hcE (by omega) (fun ad e => by have := hEat ad e; omega) (fun b hb => by omega)
      rw [HL.out.1, HGL.out] at hgive
      have HG := hideP (And.intro hgive (And.intro hIU (And.intro hVU hsU)))
      clear h17 hIU hszV hVU hsU hs7 hgive hcE hBE hEat hb8 HE7 H7 kb
      gi_wp2
      obtain ⟨hgive, hIU, hVU, hsU⟩ := HG.out
      have HFIN : Hid (∀ (X : World) (tm : Array Value), Below V.heap.size V X → X.heap[U.heap.size]? = some (.deferred (some [])) → tm.size = 86 → tm[0]? = some (.slice ao n c) → tm[3]? = some (.pointer (some ⟨w.heap.size, 0, none⟩)) → tm[4]? = some (.pointer (some ⟨w.heap.size + 1, 0, none⟩)) → tm[5]? = some (.pointer (some ⟨W4.heap.size, 0, none⟩)) → tm[6]? = some (.pointer (some ⟨X.heap.size, 0, none⟩)) →
          (∃ k1 KB u ds', ({ tmps := tm, defers := { target := .collected U.heap.size, args := #[] } :: ds } : Act) = PA ao n c w.heap.size (w.heap.size + 1) W4.heap.size KB u ds' ∧ LP w most w.heap.size (w.heap.size + 1) W4.heap.size KB (.slice va M vc) M (pcF (L.take M)) k1 ds' (X.alloc (.cells #[.int .i64 ((k + 1 : Nat) : Int)] 3))) ∧ PM { tmps := tm, defers := { target := .collected U.heap.size, args := #[] } :: ds } (X.alloc (.cells #[.int .i64 ((k + 1 : Nat) : Int)] 3)) < PM (PA ao n c w.heap.size (w.heap.size + 1) W4.heap.size KB u ds) V) := by
        rintro X tm hXb hdef t1 t2 t3 t4 t5 t6
        have hYb : Below V.heap.size V (X.alloc (.cells #[.int .i64 ((k + 1 : Nat) : Int)] 3)) := hXb.alloc hXb.size _
        have hYk := heap_new X (.cells #[.int .i64 ((k + 1 : Nat) : Int)] 3)
        have hYd := (heap_old X (.cells #[.int .i64 ((k + 1 : Nat) : Int)] 3) (lt_of_block hdef)).trans hdef
        refine ⟨⟨k + 1, _, _, _, PA_of _ _ t1 t2 t3 t4 t5 t6, HP.out.next HK2.out hYb (by omega) hYd hYk⟩, ?_⟩
        rw [PA_of _ _ t1 t2 t3 t4 t5 t6, PM_eq hYk, HPM.out]
        have := HK2.out
        omega
      refine range_seqE (n := 6) (by omega) rfl (enters_of Try.func59 (by kernel_rfl) rfl) (eav L) M (fun _ => rfl) _ hgive
        (QI V U) (fun cd X => cd = .exit 2 ∧ k = 1 ∧ ∃ q, QI V U q X)
        (fun q X X' h hb => h.moved hsU hb) (fun cd X X' h hb => by
          obtain ⟨h1, h2, q, h3⟩ := h
          exact ⟨h1, h2, q, h3.moved hsU hb⟩)
        (fun X X' o o' h h1 h2 => ⟨by simpa using h.1, fun b x h3 h4 h5 => (World.putObj_heap_other (by omega)).trans (h.2 b x h3 h4 h5)⟩)
        ⟨hIU, hVU, Nat.le_refl _⟩ ?round ?done ?stop
      case stop =>
        rintro cd X ⟨rfl, rfl, q, hQ⟩ hdef
        have hkX := (hQ.b.block _ (lt_of_block HP.out.kb)).trans HP.out.kb
        have k0 := blk_cell hkX (o := 0) rfl
        have hlk := lt_of_block hkX
        have HD := hideP (And.intro hQ (And.intro hdef hsU))
        clear hQ hdef hgive hIU hVU hsU hkX g1
        gi_wp2
        obtain ⟨hQ, hdef, hsU⟩ := HD.out
        exact HFIN.out X _ hQ.b hdef rfl rfl rfl rfl rfl rfl
      case done =>
        intro X hQ hdef
        have hkX := (hQ.b.block _ (lt_of_block HP.out.kb)).trans HP.out.kb
        have hwX := (hQ.b.block _ (lt_of_block HP.out.wb)).trans HP.out.wb
        have k0 := blk_cell hkX (o := 0) rfl
        have w0 := blk_cell hwX (o := 0) rfl
        have i0 := blk_cell hQ.i (o := 0) rfl
        have hlk := lt_of_block hkX
        have e1 : IntKind.i64.wrap ((k : Int) + 1) = ((k + 1 : Nat) : Int) := by have := HK2.out; rw [IntKind.wrap_i64]; omega
        have HD := hideP (And.intro hQ (And.intro hdef hsU))
        clear hQ hdef hgive hIU hVU hsU hkX hwX
        by_cases hk0 : k = 0
        · have e0 : ((k : Int) == 0) = true := by rw [hk0]; rfl
          clear hk0
          gi_wp2
          obtain ⟨hQ, hdef, hsU⟩ := HD.out
          exact HFIN.out X _ hQ.b hdef rfl rfl rfl rfl rfl rfl
        · have e0 : ((k : Int) == 0) = false := by
            rw [beq_eq_false_iff_ne]
            omega
          clear hk0
          gi_wp2
          obtain ⟨hQ, hdef, hsU⟩ := HD.out
          exact HFIN.out X _ hQ.b hdef rfl rfl rfl rfl rfl rfl
      case round =>
        rintro q X hq hQ ⟨rr, hlr⟩
        have hgl := good_le L
        have hM := HGL.out
        obtain ⟨x, hx⟩ : ∃ x, L[q]? = some x := ⟨_, List.getElem?_eq_getElem (by omega)⟩
        have hxd : L.getD q (0, 0, 0, 0) = x := by rw [List.getD_eq_getElem?_getD, hx]; rfl
        obtain ⟨y0, y1, y2⟩ := pcF_get (L := L.take M) (k := q) (x := x) (by rw [List.getElem?_take_of_lt hq]; exact hx)
        obtain ⟨g, cap, cur, ev, hgw, hgc, hgle, hgroom, hgcs, hgt⟩ : ∃ g cap cur, Value.slice va M vc = .slice (some ⟨g, 0, none⟩) M cap ∧ w.heap.size ≤ g ∧ V.heap[g]? = some (.cells cur 40 (0, 0)) ∧ M ≤ cap ∧ cap ≤ maxLen ∧ cur.size = cap * 3 ∧ cur.toList.take (M * 3) = pcF (L.take M) := by
          rcases HP.out.row.2 with ⟨_, h0⟩ | h'
          · omega
          · exact h'
        cases ev
        have hrc : ∀ j u, (pcF (L.take M))[j]? = some u → X.cell? ⟨g, j, none⟩ = some u := fun j u hu => by
          refine (cell_congr (hQ.b.block g (lt_of_block hgc))).trans (blk_cell hgc ?_)
          rw [← hgt] at hu
          have hlt : j < M * 3 := by
            have := (List.getElem?_eq_some_iff.1 hu).1
            rw [List.length_take] at this
            omega
          rw [List.getElem?_take_of_lt hlt] at hu
          rw [← Array.getElem?_toList]
          exact hu
        have z0 := hrc _ _ y0
        have z1 := hrc _ _ y1
        have z2 := hrc _ _ y2
        unfold eav pc
        rw [hxd]
        obtain ⟨xl, xf, xt, xe⟩ := x
        dsimp only at z0 z1 z2 ⊢
        have hLq : q < 1048576 := by
          obtain ⟨_, h2, _, _, h5, _⟩ := HL.out
          omega
        have HR := hideP (And.intro hQ (And.intro hlr (And.intro z0 (And.intro z1 (And.intro z2 (And.intro hq (And.intro hsU (And.intro (lt_of_block hgc) hLq))))))))
        clear hgive hIU hVU hsU hQ hlr z0 z1 z2 hq hgc hgle hgroom hgcs hgt hrc y0 y1 y2 hx hxd hgl hM hgw hLq
        gi_wp2
        obtain ⟨hQ, hlr, z0, z1, z2, hq, hsU, hgV, hLq⟩ := HR.out
        refine ⟨(KeepsOthers.alloc X _).from _, fun r => ?_⟩
        have hlX := lt_of_block hlr
        have hlr1 : (X.alloc (.cells #[.int .i64 xl, .int .i64 xf, .int .i64 xt] 40)).heap[U.heap.size + 1]? = some (.loop rr) := (heap_old _ _ hlX).trans hlr
        have hQ1 : QI V U q ((X.alloc (.cells #[.int .i64 xl, .int .i64 xf, .int .i64 xt] 40)).putObj (U.heap.size + 1) (.loop r)) :=
          (hQ.moved hsU ((Below.refl _ X).alloc hQ.sz _)).moved hsU (below_putObj _ (by omega))
        have hpb : ((X.alloc (.cells #[.int .i64 xl, .int .i64 xf, .int .i64 xt] 40)).putObj (U.heap.size + 1) (.loop r)).heap[X.heap.size]? = some (.cells #[.int .i64 xl, .int .i64 xf, .int .i64 xt] 40 (0, 0)) := putObj_cells hlr1 rfl (heap_new _ _) rfl
        have hkp1 : KpE (fun _ => False) (U.heap.size + 1) X ((X.alloc (.cells #[.int .i64 xl, .int .i64 xf, .int .i64 xt] 40)).putObj (U.heap.size + 1) (.loop r)) :=
          ⟨by simp, fun b o h1 _ h3 => (World.putObj_heap_other (by omega)).trans ((heap_old _ _ (lt_of_block h1)).trans h1)⟩
        have hcl : ∀ j u, X.cell? ⟨g, j, none⟩ = some u → ((X.alloc (.cells #[.int .i64 xl, .int .i64 xf, .int .i64 xt] 40)).putObj (U.heap.size + 1) (.loop r)).cell? ⟨g, j, none⟩ = some u := fun j u hu => by
          obtain ⟨o, ho, hc⟩ := isCells_of_cell hu
          refine (cell_congr (a := ⟨g, j, none⟩) ?_).trans hu
          exact (putObj_cells hlr1 rfl ((heap_old _ _ (lt_of_block ho)).trans ho) hc).trans ho.symm
        replace z0 := hcl _ _ z0
        replace z1 := hcl _ _ z1
        replace z2 := hcl _ _ z2
        clear hcl
        generalize (X.alloc (.cells #[.int .i64 xl, .int .i64 xf, .int .i64 xt] 40)).putObj (U.heap.size + 1) (.loop r) = X1 at *
        have hw1 := (hQ1.b.block _ (lt_of_block HP.out.wb)).trans HP.out.wb
        have hk1 := (hQ1.b.block _ (lt_of_block HP.out.kb)).trans HP.out.kb
        have hm1 := (hQ1.b.block _ (lt_of_block HP.out.mb)).trans HP.out.mb
        have hS0 : PcS V.heap.size X.heap.size W4.heap.size g M vc q xl xf xt X1.drew := ⟨hQ1.i, hpb, hw1, z0, z1, z2⟩
        have g2 : ¬ ((q : Int) ≥ (M : Int)) := by omega
        have g2' : ¬ ((M : Int) ≤ (q : Int)) := by omega
        have g2'' : (q : Int) < (M : Int) := by omega
        have HX := hideP (And.intro hQ1 (And.intro hkp1 (And.intro hk1 (And.intro hm1 (And.intro hQ (And.intro hsU hLq))))))
        clear hQ hlr z0 z1 z2 hq hsU hgV hlX hlr1 hQ1 hpb hkp1 hw1 hk1 hm1 hLq HR
        gi_wp2
        rename_i Q2 K2 hK2
        have HK2' := hideP hK2
        clear hK2
        refine regionIn_late [] (PcS V.heap.size X.heap.size W4.heap.size g M vc q xl xf xt) (by kernel_rfl) (by kernel_rfl) hS0 (fun hS => ?_)
        refine anyZ_take (i := 0) (g := 8) (v := ?_) rfl (by kernel_rfl) (by kernel_rfl) (by kernel_rfl) (by kernel_rfl) (by kernel_rfl) (fun _ _ _ h => h) (Or.inl ⟨by kernel_rfl, ?_⟩) hS ?_
        rotate_left
        · intro V0 hV
          go_simp
          (try with_reducible rfl)
        simp only [put_list, List.set_cons_succ, List.set_cons_zero]
        refine anyZ_take (i := 1) (g := 8) (v := ?_) rfl (by kernel_rfl) (by kernel_rfl) (by kernel_rfl) (by kernel_rfl) (by kernel_rfl) (fun _ _ _ h => h) (Or.inl ⟨by kernel_rfl, ?_⟩) hS ?_
        rotate_left
        · intro V0 hV
          have zi := blk_cell hV.1 (o := 0) rfl
          go_simp
          (try with_reducible rfl)
        simp only [put_list, List.set_cons_succ, List.set_cons_zero]
        refine anyZ_take (i := 2) (g := 8) (v := .bool false) rfl (by kernel_rfl) (by kernel_rfl) (by kernel_rfl) (by kernel_rfl) (by kernel_rfl) (fun _ _ _ h => h) (Or.inl ⟨by kernel_rfl, ?_⟩) hS ?_
        · intro V0 hV
          go_simp
        simp only [put_list, List.set_cons_succ, List.set_cons_zero]
        refine anyZ_take (i := 3) (g := 8) (v := ?_) rfl (by kernel_rfl) (by kernel_rfl) (by kernel_rfl) (by kernel_rfl) (by kernel_rfl) (fun _ _ _ h => h) (Or.inl ⟨by kernel_rfl, ?_⟩) hS ?_
        rotate_left
        · intro V0 hV
          go_simp
          (try with_reducible rfl)
        simp only [put_list, List.set_cons_succ, List.set_cons_zero]
        refine anyZ_take (i := 4) (g := 8) (v := ?_) rfl (by kernel_rfl) (by kernel_rfl) (by kernel_rfl) (by kernel_rfl) (by kernel_rfl) (fun _ _ _ h => h) (Or.inl ⟨by kernel_rfl, ?_⟩) hS ?_
        rotate_left
        · intro V0 hV
          have zi := blk_cell hV.1 (o := 0) rfl
          go_simp
          (try with_reducible rfl)
        simp only [put_list, List.set_cons_succ, List.set_cons_zero]
        refine anyZ_take (i := 5) (g := 8) (v := ?_) rfl (by kernel_rfl) (by kernel_rfl) (by kernel_rfl) (by kernel_rfl) (by kernel_rfl) (fun _ _ _ h => h) (Or.inl ⟨by kernel_rfl, ?_⟩) hS ?_
        rotate_left
        · intro V0 hV
          have zw := blk_cell hV.2.2.1 (o := 0) rfl
          go_simp
          (try with_reducible rfl)
        simp only [put_list, List.set_cons_succ, List.set_cons_zero]
        refine anyZ_take (i := 6) (g := 8) (v := ?_) rfl (by kernel_rfl) (by kernel_rfl) (by kernel_rfl) (by kernel_rfl) (by kernel_rfl) (fun _ _ _ h => h) (Or.inl ⟨by kernel_rfl, ?_⟩) hS ?_
        rotate_left
        · intro V0 hV
          go_simp
          (try with_reducible rfl)
        simp only [put_list, List.set_cons_succ, List.set_cons_zero]
        refine anyZ_take (i := 7) (g := 8) (v := .bool false) rfl (by kernel_rfl) (by kernel_rfl) (by kernel_rfl) (by kernel_rfl) (by kernel_rfl) (fun _ _ _ h => h) (Or.inl ⟨by kernel_rfl, ?_⟩) hS ?_
        · intro V0 hV
          go_simp
          omega
        simp only [put_list, List.set_cons_succ, List.set_cons_zero]
        refine anyZ_take (i := 8) (g := 8) (v := ?_) rfl (by kernel_rfl) (by kernel_rfl) (by kernel_rfl) (by kernel_rfl) (by kernel_rfl) (fun _ _ _ h => h) (Or.inl ⟨by kernel_rfl, ?_⟩) hS ?_
        rotate_left
        · intro V0 hV
          go_simp
          (try with_reducible rfl)
        simp only [put_list, List.set_cons_succ, List.set_cons_zero]
        refine anyZ_take (i := 9) (g := 8) (v := ?_) rfl (by kernel_rfl) (by kernel_rfl) (by kernel_rfl) (by kernel_rfl) (by kernel_rfl) (fun _ _ _ h => h) (Or.inl ⟨by kernel_rfl, ?_⟩) hS ?_
        rotate_left
        · intro V0 hV
          go_simp
          (try with_reducible rfl)
        simp only [put_list, List.set_cons_succ, List.set_cons_zero]
        refine anyZ_take (i := 10) (g := 8) (v := ?_) rfl (by kernel_rfl) (by kernel_rfl) (by kernel_rfl) (by kernel_rfl) (by kernel_rfl) (fun _ _ _ h => h) (Or.inl ⟨by kernel_rfl, ?_⟩) hS ?_
        rotate_left
        · intro V0 hV
          go_simp
          (try with_reducible rfl)
        simp only [put_list, List.set_cons_succ, List.set_cons_zero]
        refine anyZ_take (i := 11) (g := 8) (v := ?_) rfl (by kernel_rfl) (by kernel_rfl) (by kernel_rfl) (by kernel_rfl) (by kernel_rfl) (fun _ _ _ h => h) (Or.inl ⟨by kernel_rfl, ?_⟩) hS ?_
        rotate_left
        · intro V0 hV
          obtain ⟨z0, z1, z2⟩ := cells3 hV.2.1
          go_simp
          (try with_reducible rfl)
        simp only [put_list, List.set_cons_succ, List.set_cons_zero]
        refine anyZ_take (i := 12) (g := 8) (v := ?_) rfl (by kernel_rfl) (by kernel_rfl) (by kernel_rfl) (by kernel_rfl) (by kernel_rfl) (fun _ _ _ h => h) (Or.inl ⟨by kernel_rfl, ?_⟩) hS ?_
        rotate_left
        · intro V0 hV
          have zw := blk_cell hV.2.2.1 (o := 0) rfl
          go_simp
          (try with_reducible rfl)
        simp only [put_list, List.set_cons_succ, List.set_cons_zero]
        refine anyZ_take (i := 13) (g := 8) (v := ?_) rfl (by kernel_rfl) (by kernel_rfl) (by kernel_rfl) (by kernel_rfl) (by kernel_rfl) (fun _ _ _ h => h) (Or.inl ⟨by kernel_rfl, ?_⟩) hS ?_
        rotate_left
        · intro V0 hV
          have zi := blk_cell hV.1 (o := 0) rfl
          go_simp
          (try with_reducible rfl)
        simp only [put_list, List.set_cons_succ, List.set_cons_zero]
        refine anyZ_take (i := 14) (g := 8) (v := .pointer (some ⟨g, q * 3, none⟩)) rfl (by kernel_rfl) (by kernel_rfl) (by kernel_rfl) (by kernel_rfl) (by kernel_rfl) (fun _ _ _ h => h) (Or.inl ⟨by kernel_rfl, ?_⟩) hS ?_
        · intro V0 hV
          go_simp
        simp only [put_list, List.set_cons_succ, List.set_cons_zero]
        refine anyZ_take (i := 15) (g := 8) (v := .pointer (some ⟨g, q * 3, none⟩)) rfl (by kernel_rfl) (by kernel_rfl) (by kernel_rfl) (by kernel_rfl) (by kernel_rfl) (fun _ _ _ h => h) (Or.inl ⟨by kernel_rfl, ?_⟩) hS ?_
        · intro V0 hV
          go_simp
        simp only [put_list, List.set_cons_succ, List.set_cons_zero]
        refine anyZ_take (i := 16) (g := 8) (v := ?_) rfl (by kernel_rfl) (by kernel_rfl) (by kernel_rfl) (by kernel_rfl) (by kernel_rfl) (fun _ _ _ h => h) (Or.inl ⟨by kernel_rfl, ?_⟩) hS ?_
        rotate_left
        · intro V0 hV
          obtain ⟨zz0, zz1, zz2⟩ := hV.2.2.2
          go_simp
          (try with_reducible rfl)
        simp only [put_list, List.set_cons_succ, List.set_cons_zero]
        refine anyZ_take (i := 17) (g := 8) (v := .bool false) rfl (by kernel_rfl) (by kernel_rfl) (by kernel_rfl) (by kernel_rfl) (by kernel_rfl) (fun _ _ _ h => h) (Or.inl ⟨by kernel_rfl, ?_⟩) hS ?_
        · intro V0 hV
          go_simp
        simp only [put_list, List.set_cons_succ, List.set_cons_zero]
        refine anyZ_take (i := 18) (g := 8) (v := ?_) rfl (by kernel_rfl) (by kernel_rfl) (by kernel_rfl) (by kernel_rfl) (by kernel_rfl) (fun _ _ _ h => h) (Or.inl ⟨by kernel_rfl, ?_⟩) hS ?_
        rotate_left
        · intro V0 hV
          go_simp
          (try with_reducible rfl)
        simp only [put_list, List.set_cons_succ, List.set_cons_zero]
        refine anyZ_take (i := 19) (g := 8) (v := ?_) rfl (by kernel_rfl) (by kernel_rfl) (by kernel_rfl) (by kernel_rfl) (by kernel_rfl) (fun _ _ _ h => h) (Or.inl ⟨by kernel_rfl, ?_⟩) hS ?_
        rotate_left
        · intro V0 hV
          go_simp
          (try with_reducible rfl)
        simp only [put_list, List.set_cons_succ, List.set_cons_zero]
        refine anyZ_take (i := 20) (g := 8) (v := ?_) rfl (by kernel_rfl) (by kernel_rfl) (by kernel_rfl) (by kernel_rfl) (by kernel_rfl) (fun _ _ _ h => h) (Or.inl ⟨by kernel_rfl, ?_⟩) hS ?_
        rotate_left
        · intro V0 hV
          go_simp
          (try with_reducible rfl)
        simp only [put_list, List.set_cons_succ, List.set_cons_zero]
        refine anyZ_take (i := 21) (g := 8) (v := ?_) rfl (by kernel_rfl) (by kernel_rfl) (by kernel_rfl) (by kernel_rfl) (by kernel_rfl) (fun _ _ _ h => h) (Or.inl ⟨by kernel_rfl, ?_⟩) hS ?_
        rotate_left
        · intro V0 hV
          obtain ⟨z0, z1, z2⟩ := cells3 hV.2.1
          go_simp
          (try with_reducible rfl)
        simp only [put_list, List.set_cons_succ, List.set_cons_zero]
        refine anyZ_take (i := 22) (g := 8) (v := ?_) rfl (by kernel_rfl) (by kernel_rfl) (by kernel_rfl) (by kernel_rfl) (by kernel_rfl) (fun _ _ _ h => h) (Or.inl ⟨by kernel_rfl, ?_⟩) hS ?_
        rotate_left
        · intro V0 hV
          have zw := blk_cell hV.2.2.1 (o := 0) rfl
          go_simp
          (try with_reducible rfl)
        simp only [put_list, List.set_cons_succ, List.set_cons_zero]
        refine anyZ_take (i := 23) (g := 8) (v := ?_) rfl (by kernel_rfl) (by kernel_rfl) (by kernel_rfl) (by kernel_rfl) (by kernel_rfl) (fun _ _ _ h => h) (Or.inl ⟨by kernel_rfl, ?_⟩) hS ?_
        rotate_left
        · intro V0 hV
          have zi := blk_cell hV.1 (o := 0) rfl
          go_simp
          (try with_reducible rfl)
        simp only [put_list, List.set_cons_succ, List.set_cons_zero]
        refine anyZ_take (i := 24) (g := 8) (v := .pointer (some ⟨g, q * 3, none⟩)) rfl (by kernel_rfl) (by kernel_rfl) (by kernel_rfl) (by kernel_rfl) (by kernel_rfl) (fun _ _ _ h => h) (Or.inl ⟨by kernel_rfl, ?_⟩) hS ?_
        · intro V0 hV
          go_simp
        simp only [put_list, List.set_cons_succ, List.set_cons_zero]
        refine anyZ_take (i := 25) (g := 8) (v := .pointer (some ⟨g, q * 3 + 1, none⟩)) rfl (by kernel_rfl) (by kernel_rfl) (by kernel_rfl) (by kernel_rfl) (by kernel_rfl) (fun _ _ _ h => h) (Or.inl ⟨by kernel_rfl, ?_⟩) hS ?_
        · intro V0 hV
          go_simp
        simp only [put_list, List.set_cons_succ, List.set_cons_zero]
        refine anyZ_take (i := 26) (g := 8) (v := ?_) rfl (by kernel_rfl) (by kernel_rfl) (by kernel_rfl) (by kernel_rfl) (by kernel_rfl) (fun _ _ _ h => h) (Or.inl ⟨by kernel_rfl, ?_⟩) hS ?_
        rotate_left
        · intro V0 hV
          obtain ⟨zz0, zz1, zz2⟩ := hV.2.2.2
          go_simp
          (try with_reducible rfl)
        simp only [put_list, List.set_cons_succ, List.set_cons_zero]
        refine anyZ_take (i := 27) (g := 8) (v := .bool false) rfl (by kernel_rfl) (by kernel_rfl) (by kernel_rfl) (by kernel_rfl) (by kernel_rfl) (fun _ _ _ h => h) (Or.inl ⟨by kernel_rfl, ?_⟩) hS ?_
        · intro V0 hV
          go_simp
        simp only [put_list, List.set_cons_succ, List.set_cons_zero]
        refine anyZ_take (i := 28) (g := 8) (v := ?_) rfl (by kernel_rfl) (by kernel_rfl) (by kernel_rfl) (by kernel_rfl) (by kernel_rfl) (fun _ _ _ h => h) (Or.inl ⟨by kernel_rfl, ?_⟩) hS ?_
        rotate_left
        · intro V0 hV
          go_simp
          (try with_reducible rfl)
        simp only [put_list, List.set_cons_succ, List.set_cons_zero]
        refine anyZ_take (i := 29) (g := 8) (v := ?_) rfl (by kernel_rfl) (by kernel_rfl) (by kernel_rfl) (by kernel_rfl) (by kernel_rfl) (fun _ _ _ h => h) (Or.inl ⟨by kernel_rfl, ?_⟩) hS ?_
        rotate_left
        · intro V0 hV
          go_simp
          (try with_reducible rfl)
        simp only [put_list, List.set_cons_succ, List.set_cons_zero]
        refine anyZ_take (i := 30) (g := 8) (v := ?_) rfl (by kernel_rfl) (by kernel_rfl) (by kernel_rfl) (by kernel_rfl) (by kernel_rfl) (fun _ _ _ h => h) (Or.inl ⟨by kernel_rfl, ?_⟩) hS ?_
        rotate_left
        · intro V0 hV
          go_simp
          (try with_reducible rfl)
        simp only [put_list, List.set_cons_succ, List.set_cons_zero]
        refine anyZ_take (i := 31) (g := 8) (v := ?_) rfl (by kernel_rfl) (by kernel_rfl) (by kernel_rfl) (by kernel_rfl) (by kernel_rfl) (fun _ _ _ h => h) (Or.inl ⟨by kernel_rfl, ?_⟩) hS ?_
        rotate_left
        · intro V0 hV
          obtain ⟨z0, z1, z2⟩ := cells3 hV.2.1
          go_simp
          (try with_reducible rfl)
        simp only [put_list, List.set_cons_succ, List.set_cons_zero]
        refine anyZ_take (i := 32) (g := 8) (v := ?_) rfl (by kernel_rfl) (by kernel_rfl) (by kernel_rfl) (by kernel_rfl) (by kernel_rfl) (fun _ _ _ h => h) (Or.inl ⟨by kernel_rfl, ?_⟩) hS ?_
        rotate_left
        · intro V0 hV
          have zw := blk_cell hV.2.2.1 (o := 0) rfl
          go_simp
          (try with_reducible rfl)
        simp only [put_list, List.set_cons_succ, List.set_cons_zero]
        refine anyZ_take (i := 33) (g := 8) (v := ?_) rfl (by kernel_rfl) (by kernel_rfl) (by kernel_rfl) (by kernel_rfl) (by kernel_rfl) (fun _ _ _ h => h) (Or.inl ⟨by kernel_rfl, ?_⟩) hS ?_
        rotate_left
        · intro V0 hV
          have zi := blk_cell hV.1 (o := 0) rfl
          go_simp
          (try with_reducible rfl)
        simp only [put_list, List.set_cons_succ, List.set_cons_zero]
        refine anyZ_take (i := 34) (g := 8) (v := .pointer (some ⟨g, q * 3, none⟩)) rfl (by kernel_rfl) (by kernel_rfl) (by kernel_rfl) (by kernel_rfl) (by kernel_rfl) (fun _ _ _ h => h) (Or.inl ⟨by kernel_rfl, ?_⟩) hS ?_
        · intro V0 hV
          go_simp
        simp only [put_list, List.set_cons_succ, List.set_cons_zero]
        refine anyZ_take (i := 35) (g := 8) (v := .pointer (some ⟨g, q * 3 + 2, none⟩)) rfl (by kernel_rfl) (by kernel_rfl) (by kernel_rfl) (by kernel_rfl) (by kernel_rfl) (fun _ _ _ h => h) (Or.inl ⟨by kernel_rfl, ?_⟩) hS ?_
        · intro V0 hV
          go_simp
        simp only [put_list, List.set_cons_succ, List.set_cons_zero]
        refine anyZ_take (i := 36) (g := 8) (v := ?_) rfl (by kernel_rfl) (by kernel_rfl) (by kernel_rfl) (by kernel_rfl) (by kernel_rfl) (fun _ _ _ h => h) (Or.inl ⟨by kernel_rfl, ?_⟩) hS ?_
        rotate_left
        · intro V0 hV
          obtain ⟨zz0, zz1, zz2⟩ := hV.2.2.2
          go_simp
          (try with_reducible rfl)
        simp only [put_list, List.set_cons_succ, List.set_cons_zero]
        refine anyZ_take (i := 37) (g := 8) (v := .bool false) rfl (by kernel_rfl) (by kernel_rfl) (by kernel_rfl) (by kernel_rfl) (by kernel_rfl) (fun _ _ _ h => h) (Or.inl ⟨by kernel_rfl, ?_⟩) hS ?_
        · intro V0 hV
          go_simp
        simp only [put_list, List.set_cons_succ, List.set_cons_zero]
        refine anyZ_take (i := 38) (g := 8) (v := ?_) rfl (by kernel_rfl) (by kernel_rfl) (by kernel_rfl) (by kernel_rfl) (by kernel_rfl) (fun _ _ _ h => h) (Or.inl ⟨by kernel_rfl, ?_⟩) hS ?_
        rotate_left
        · intro V0 hV
          go_simp
          (try with_reducible rfl)
        simp only [put_list, List.set_cons_succ, List.set_cons_zero]
        refine anyZ_done (by kernel_rfl) ?_ _
        refine HK2'.out _ _ ?_
        obtain ⟨hQ1, hkp1, hk1, hm1, hQ, hsU, hLq⟩ := HX.out
        have hi4 : X1.drew.heap[V.heap.size]? = some (.cells #[.int .i64 (q : Int)] 3 (0, 0)) := hQ1.i
        have hk4 : X1.drew.heap[KB]? = some (.cells #[.int .i64 (k : Int)] 3 (0, 0)) := hk1
        have hm4 : X1.drew.heap[w.heap.size]? = some (.cells #[.int .i64 most] 3 (0, 0)) := hm1
        have hX4 : ∀ b : Nat, X1.drew.heap[b]? = X1.heap[b]? := fun _ => rfl
        have hX4s : X1.drew.heap.size = X1.heap.size := rfl
        have hQX : Below V.heap.size V X1.drew := hQ1.b.drew
        generalize X1.drew = X4 at *
        have hVk := lt_of_block HP.out.kb
        have hVm := lt_of_block HP.out.mb
        have c1 := blk_cell hi4 (o := 0) rfl
        have c2 := blk_cell hk4 (o := 0) rfl
        have c3 := blk_cell hm4 (o := 0) rfl
        have cf : ∀ o, X4.frozen? ⟨V.heap.size, o, none⟩ = false := fun o => blk_free hi4
        have e1 : IntKind.i64.wrap ((q : Int) + 1) = (q : Int) + 1 := by rw [IntKind.wrap_i64]; omega
        have hi5 := blk_set hi4 (o := 0) (.int .i64 ((q : Int) + 1))
        have hoth : ∀ b, b ≠ V.heap.size → (X4.setCell ⟨V.heap.size, 0, none⟩ (.int .i64 ((q : Int) + 1))).heap[b]? = X1.heap[b]? := fun b h1 => (Below.heap_setCell _ _ _ _ (by dsimp only; exact h1)).trans (hX4 b)
        have c2' : (X4.setCell ⟨V.heap.size, 0, none⟩ (.int .i64 ((q : Int) + 1))).cell? ⟨KB, 0, none⟩ = some (.int .i64 (k : Int)) := blk_cell ((hoth KB (by omega)).trans hk1) rfl
        have c3' : (X4.setCell ⟨V.heap.size, 0, none⟩ (.int .i64 ((q : Int) + 1))).cell? ⟨w.heap.size, 0, none⟩ = some (.int .i64 most) := blk_cell ((hoth w.heap.size (by omega)).trans hm1) rfl
        have c1' := blk_cell hi5 (o := 0) rfl
        have hsz5 : (X4.setCell ⟨V.heap.size, 0, none⟩ (.int .i64 ((q : Int) + 1))).heap.size = X1.heap.size := by rw [World.size_setCell]; exact hX4s
        have hs1 := hQ1.sz
        have hkf5 : KeepsFrom U.heap.size X1 (X4.setCell ⟨V.heap.size, 0, none⟩ (.int .i64 ((q : Int) + 1))) := ⟨by omega, fun b o hb h0 hc => (hoth b (by omega)).trans h0⟩
        have hkp5 : KpE (fun b => b = V.heap.size) (U.heap.size + 1) X (X4.setCell ⟨V.heap.size, 0, none⟩ (.int .i64 ((q : Int) + 1))) := ⟨by have := hkp1.1; omega, fun b o h0 h1 h2 => (hoth b h1).trans (hkp1.2 b o h0 (fun h => h) h2)⟩
        have hQ5 : QI V U (q + 1) (X4.setCell ⟨V.heap.size, 0, none⟩ (.int .i64 ((q : Int) + 1))) := ⟨hi5, hQX.setCell (Nat.le_refl _) _, by omega⟩
        have HZ := hideP (And.intro hkf5 (And.intro hkp5 hQ5))
        clear hQ1 hkp1 hk1 hm1 hQ hsU hLq hi4 hk4 hm4 hVk hVm hi5 hoth hsz5 hs1 hkf5 hkp5 hQ5 hS hS0 HX g1 hX4 hX4s hQX
        by_cases hk1' : k = 1
        · have e2 : ((k : Int) == 1) = true := by rw [hk1']; rfl
          have HK1 := hideP hk1'
          clear hk1'
          by_cases hgt : (q : Int) + 1 > most
          · have hgt' : most < (q : Int) + 1 := hgt
            have hgt'' : most ≤ (q : Int) := by omega
            gi_wp2
            obtain ⟨hkf5, hkp5, hQ5⟩ := HZ.out
            exact ⟨hkf5, rfl, HK1.out, _, hQ5⟩
          · have hgt' : ¬ most < (q : Int) + 1 := hgt
            have hgt'' : ¬ most ≤ (q : Int) := by omega
            gi_wp2
            exact HZ.out
        · have e2 : ((k : Int) == 1) = false := by
            rw [beq_eq_false_iff_ne]
            omega
          clear hk1'
          gi_wp2
          exact HZ.out
    · have g1 : ¬ (k : Int) < 2 := by omega
      have y := blk_cell hP.rb (o := 0) rfl
      have yf : ∀ o, V.frozen? ⟨w.heap.size + 1, o, none⟩ = false := fun o => blk_free hP.rb
      clear hP
      gi_wp2
      refine leaves_dok (lo := w.heap.size) (v := .bool true) (S := fun X => X.heap[w.heap.size + 1]? = some (.cells #[.bool true] 4 (0, 0)) ∧ Below w.heap.size w X) ?_ ?_ ds _ V.heap.size ?_ ?_
      · rintro X ⟨h1, h2⟩
        have y9 := blk_cell h1 (o := 0) rfl
        exact ⟨by simp [results, Try.results5, go_sem, y9], rfl, h2⟩
      · rintro X D hlo ⟨h1, h2⟩ hD
        exact ⟨putObj_cells hD rfl h1 rfl, h2.trans (below_putObj _ hlo)⟩
      · refine HP.out.dok.moved fun b hb ho => (Below.heap_setCell _ _ _ _ ?_).trans ho
        dsimp only
        intro e
        subst e
        rw [HP.out.rb] at ho
        cases ho
      · exact ⟨blk_set HP.out.rb _, HP.out.below.setCell (by dsimp only; omega) _⟩

end Go.Proofs.Ytigebmidfddbcaa
