/- YtcceaokldphfgaaDiskDoesC47 -/
import Derived.RangeFuncWrites
import Derived.Test.YtcceaokldphfgaaDiskDoesC46
namespace Go.Proofs.Ytcceaokldphfgaa
open Go.RowKit Go.Shelf

attribute [local go_sem] Oper.semAt_some

theorem heap_new (w : World) (a : Obj) : (w.alloc a).heap[w.heap.size]? = some a := World.alloc_heap_new w a

theorem heap_old (w : World) (a : Obj) {k : Nat} (h : k < w.heap.size) : (w.alloc a).heap[k]? = w.heap[k]? := Below.heap_alloc w a k h

theorem lt_of_block {W : World} {b : Nat} {o : Obj} (h : W.heap[b]? = some o) : b < W.heap.size := (Array.getElem?_eq_some_iff.1 h).1

theorem below_putObj {N : Nat} {V : World} {l : Nat} (o : Obj) (h : N ≤ l) : Below N V (V.putObj l o) :=
  ⟨rfl, rfl, rfl, by simp [World.putObj], fun k hk => World.putObj_heap_other (by omega)⟩

theorem putObj_cell {V : World} {l : Nat} {o o' : Obj} {p : Addr} {u : Value} (hl : V.heap[l]? = some o) (ho : o.isCells = false) (h : V.cell? p = some u) : (V.putObj l o').cell? p = some u := by
  have hne : p.block ≠ l := fun e => by
    simp only [World.cell?, e, hl] at h
    cases o <;> simp [Obj.isCells] at ho h
  rw [World.cell?_of_block (World.putObj_heap_other hne)]
  exact h

/-- How a round may be left. -/
def seqPost (B : Nat) (Kp : World → World → Prop) (I : Nat → World → Prop) (Ix : Code → World → Prop) (k : Nat) (W W2 : World) : Exit → Act → World → Prop
  | .normal, _, W3 => KeepsFrom B W2 W3 ∧ Kp W W3 ∧ I (k + 1) W3
  | .ret, _, W3 => KeepsFrom B W2 W3 ∧ Ix .ret W3
  | .exit id, _, W3 => KeepsFrom B W2 W3 ∧ Ix (.exit id) W3
  | .goto t, _, W3 => KeepsFrom B W2 W3 ∧ Ix (.goto t) W3
  | .panic _, _, _ => False
  | .outgrown, _, _ => False

/-- An iterator that gives the values vals 0, .., vals (N - 1), and then ends. -/
def Gives (m : Nat) (P : Program) (gf : Nat) (lb : Array Value) (vals : Nat → Array Value) (N : Nat) (Kp : World → World → Prop) (w : World) : Prop :=
  ∀ (l : Nat) (J : Nat → World → Prop) (Jx : World → Prop) (W : World), Below w.heap.size w W → (∀ k V V', J k V → Below V.heap.size V V' → J k V') → (∀ V V', Jx V → Below V.heap.size V V' → Jx V') →
    (∀ k V, k < N → J k V → YieldAt Fence.wide (m - 1) P l (vals k) V fun e V' => (e = .returned (.bool true) ∧ J (k + 1) V' ∧ Kp V V') ∨ (e = .returned (.bool false) ∧ Jx V')) →
    J 0 W → CallsIn Fence.wide m P gf (#[.func (.yield l) #[] #[]] ++ lb) W fun e W' => (∃ v, e = .returned v) ∧ (J N W' ∨ Jx W')

theorem below_other {W W' : World} (hb : Below W.heap.size W W') {k : Nat} {o : Obj} (h : W.heap[k]? = some o) : W'.heap[k]? = some o := (hb.block k (lt_of_block h)).trans h

theorem range_seq {P : Program} {n : Nat} {g : Operand} {ps : Array Tmp} {assign body : Code} {Q : Exit → Act → World → Prop} {a : Act} {w : World} (h1 : 1 ≤ n) {gf : Nat} {lb : Array Value} (hg : a.eval g = .func (.func gf) #[] lb)
    (eg : ∀ args w, (callFunc gf args).run P w = .ok (.enter gf args) w) (vals : Nat → Array Value) (N : Nat) (hps : ∀ k, (vals k).size = ps.size) (Kp : World → World → Prop) (hgive : Gives (n - 1) P gf lb vals N Kp w)
    (I : Nat → World → Prop) (Ix : Code → World → Prop) (hI : ∀ k V V', I k V → Below V.heap.size V V' → I k V') (hIx : ∀ c V V', Ix c V → Below V.heap.size V V' → Ix c V')
    (hIp : ∀ k V l o o', I k V → w.heap.size ≤ l → V.heap[l]? = some o → o.isCells = false → I k (V.putObj l o')) (hIxp : ∀ c V l o o', Ix c V → w.heap.size ≤ l → V.heap[l]? = some o → o.isCells = false → Ix c (V.putObj l o'))
    (hKp : ∀ V V' l o o', Kp V V' → w.heap.size ≤ l → V'.heap[l]? = some o → o.isCells = false → Kp V (V'.putObj l o')) (h0 : I 0 w)
    (hround : ∀ (l k : Nat) (W : World), k < N → I k W → w.heap.size ≤ l → (∃ r, W.heap[l]? = some (.loop r)) →
      assign.wpIn (Fence.wide.inRound l) (n - 1 - 1) P (Exit.then (fun a1 W1 => KeepsFrom w.heap.size W W1 ∧ ∀ r, body.wpIn (Fence.wide.inRound l) (n - 1 - 1) P (seqPost w.heap.size Kp I Ix k W (W1.putObj l (.loop r))) a1 (W1.putObj l (.loop r))) (fun _ _ _ => False))
        { tmps := (ps.zip (vals k)).foldl (fun t (p, v) => t.setIfInBounds p v) a.tmps, defers := [] } W)
    (hdone : ∀ (D : Nat) (W : World), w.heap.size ≤ D → I N W → W.heap[D]? = some (.deferred (some [])) → Q .normal { a with defers := { target := .collected D, args := #[] } :: a.defers } W)
    (hstop : ∀ (D : Nat) (c : Code) (W : World), w.heap.size ≤ D → Ix c W → W.heap[D]? = some (.deferred (some [])) → c.wpIn Fence.wide n P Q { a with defers := { target := .collected D, args := #[] } :: a.defers } W) :
    (Code.rangeFunc g ps assign body).wpIn Fence.wide n P Q a w := by
  refine wpIn_rangeFunc fun fn hfn => ?_
  let rc : LoopState → Option Code → Loop := fun st pe => { state := st, pending := pe, fn, tmps := a.tmps, params := ps, assign, body, defers := w.heap.size }
  have hen : (Instr.enterLoop fn a.tmps ps assign body Fence.wide.round).run P w = .ok (w.heap.size + 1, [{ target := .collected w.heap.size, args := #[] }]) ((w.alloc (.deferred (some []))).alloc (.loop (rc .ready none))) := run_enterLoop_outer (P := P) (w := w) fn a.tmps ps assign body
  generalize hW1 : (w.alloc (.deferred (some []))).alloc (.loop (rc .ready none)) = W1 at hen
  have hb1 : Below w.heap.size w W1 := by
    rw [← hW1]; exact ((Below.refl _ w).alloc (Nat.le_refl _) _).alloc (by simp) _
  have hL : W1.heap[w.heap.size + 1]? = some (.loop (rc .ready none)) := by
    rw [← hW1]
    have := heap_new (w.alloc (.deferred (some []))) (.loop (rc .ready none))
    rwa [World.size_alloc] at this
  have hD : W1.heap[w.heap.size]? = some (.deferred (some [])) := by
    rw [← hW1]; exact (heap_old _ _ (by simp)).trans (heap_new _ _)
  have hI1 : I 0 W1 := hI 0 w W1 h0 hb1
  clear hW1
  refine ⟨w.heap.size + 1, _, W1, { target := .fn (.func gf) lb, args := #[.func (.yield (w.heap.size + 1)) #[] #[]] }, W1, gf, #[.func (.yield (w.heap.size + 1)) #[] #[]] ++ lb, W1, hen, ?_, fun _ _ => trivial, ?_, fun _ => h1, ?_⟩
  · simp only [resolve, hg]
    simp [go_sem]
  · simp [invoke, go_sem, eg]
  · refine (hgive (w.heap.size + 1) (fun k V => I k V ∧ V.heap[w.heap.size + 1]? = some (.loop (rc .ready none)) ∧ V.heap[w.heap.size]? = some (.deferred (some [])))
      (fun V => ∃ c, Ix c V ∧ V.heap[w.heap.size + 1]? = some (.loop (rc .done (some c))) ∧ V.heap[w.heap.size]? = some (.deferred (some []))) W1 hb1
      (fun k V V' h hb => ⟨hI k V V' h.1 hb, below_other hb h.2.1, below_other hb h.2.2⟩) (fun V V' h hb => by
        obtain ⟨c, h1, h2, h3⟩ := h
        exact ⟨c, hIx c V V' h1 hb, below_other hb h2, below_other hb h3⟩) ?_ ⟨hI1, hL, hD⟩).mono ?_
    · rintro k V hk ⟨hi, hl, hd⟩
      refine ⟨fn, _, assign, body, run_yield (P := P) hl (hps k), roundIn_of_wpIn hfn (wpIn_mono (hround (w.heap.size + 1) k V hk hi (by omega) ⟨_, hl⟩) ?_)⟩
      intro e a1 V1 hp
      cases e with
      | normal =>
        obtain ⟨hkf, hbody⟩ := hp
        have hl1 := hkf.same _ _ (by omega) hl rfl
        have hd1 := hkf.same _ _ (Nat.le_refl _) hd rfl
        refine ⟨_, run_beginRound hl1 rfl, ?_⟩
        have hl2 : (V1.putObj (w.heap.size + 1) (.loop { rc .ready none with state := .busy })).heap[w.heap.size + 1]? = some (.loop { rc .ready none with state := .busy }) := World.putObj_heap_same (lt_of_block hl1)
        have hd2 : (V1.putObj (w.heap.size + 1) (.loop { rc .ready none with state := .busy })).heap[w.heap.size]? = some (.deferred (some [])) := (World.putObj_heap_other (by omega)).trans hd1
        refine wpIn_mono (hbody _) ?_
        have fin : ∀ (j : Option Code) (V3 : World), KeepsFrom w.heap.size (V1.putObj (w.heap.size + 1) (.loop { rc .ready none with state := .busy })) V3 →
            ∃ o : Obj, V3.heap[w.heap.size + 1]? = some o ∧ o.isCells = false ∧ (Instr.endRound (w.heap.size + 1) j).run P V3 = .ok (.bool j.isNone) (V3.putObj (w.heap.size + 1) (.loop (rc (if j.isNone then .ready else .done) j))) ∧
              (V3.putObj (w.heap.size + 1) (.loop (rc (if j.isNone then .ready else .done) j))).heap[w.heap.size + 1]? = some (.loop (rc (if j.isNone then .ready else .done) j)) ∧ (V3.putObj (w.heap.size + 1) (.loop (rc (if j.isNone then .ready else .done) j))).heap[w.heap.size]? = some (.deferred (some [])) := fun j V3 hk3 => by
          have hl3 := hk3.same _ _ (by omega) hl2 rfl
          exact ⟨_, hl3, rfl, run_endRound (P := P) j hl3, World.putObj_heap_same (lt_of_block hl3), (World.putObj_heap_other (by omega)).trans (hk3.same _ _ (Nat.le_refl _) hd2 rfl)⟩
        intro e3 a3 V3 hq
        cases e3 with
        | normal =>
          obtain ⟨hk3, hkp, hi3⟩ := hq
          obtain ⟨o, ho, hc, hr, hl4, hd4⟩ := fin none V3 hk3
          exact ⟨_, _, hr, Or.inl ⟨rfl, ⟨hIp _ _ _ _ _ hi3 (by omega) ho hc, hl4, hd4⟩, hKp _ _ _ _ _ hkp (by omega) ho hc⟩⟩
        | ret =>
          obtain ⟨hk3, hi3⟩ := hq
          obtain ⟨o, ho, hc, hr, hl4, hd4⟩ := fin (some .ret) V3 hk3
          exact ⟨_, _, hr, Or.inr ⟨rfl, .ret, hIxp _ _ _ _ _ hi3 (by omega) ho hc, hl4, hd4⟩⟩
        | exit id =>
          obtain ⟨hk3, hi3⟩ := hq
          obtain ⟨o, ho, hc, hr, hl4, hd4⟩ := fin (some (.exit id)) V3 hk3
          exact ⟨_, _, hr, Or.inr ⟨rfl, .exit id, hIxp _ _ _ _ _ hi3 (by omega) ho hc, hl4, hd4⟩⟩
        | goto t =>
          obtain ⟨hk3, hi3⟩ := hq
          obtain ⟨o, ho, hc, hr, hl4, hd4⟩ := fin (some (.goto t)) V3 hk3
          exact ⟨_, _, hr, Or.inr ⟨rfl, .goto t, hIxp _ _ _ _ _ hi3 (by omega) ho hc, hl4, hd4⟩⟩
        | panic ch => exact hq.elim
        | outgrown => exact hq.elim
      | ret => exact hp.elim
      | exit id => exact hp.elim
      | goto t => exact hp.elim
      | panic ch => exact hp.elim
      | outgrown => exact hp.elim
    · rintro e V ⟨⟨v, rfl⟩, (⟨hi, hl, hd⟩ | ⟨c, hi, hl, hd⟩)⟩
      · exact ⟨none, _, run_endLoop (P := P) hl (by intro h; cases h), hdone _ _ (Nat.le_refl _) (hIp _ _ _ _ _ hi (by omega) hl rfl) ((World.putObj_heap_other (by omega)).trans hd)⟩
      · exact ⟨some c, _, run_endLoop (P := P) hl (by intro h; cases h), hstop _ c _ (Nat.le_refl _) (hIxp _ _ _ _ _ hi (by omega) hl rfl) ((World.putObj_heap_other (by omega)).trans hd)⟩

/-- Each's rows, as its function reads them. -/
def Rdz (sb n cz : Nat) (an az : Option Addr) (nm : Nat → ByteArray) (sz : Nat → Int) (V : World) : Prop :=
  V.cell? ⟨sb, 0, none⟩ = some (.slice az n cz) ∧ ∀ k, k < n → ∃ g g2, an = some ⟨g, 0, none⟩ ∧ az = some ⟨g2, 0, none⟩ ∧ V.cell? ⟨g, k, none⟩ = some (.string (nm k)) ∧ V.cell? ⟨g2, k, none⟩ = some (.int .i64 (sz k))

theorem Rdz.later {sb n cz : Nat} {an az : Option Addr} {nm : Nat → ByteArray} {sz : Nat → Int} {V V' : World} (h : Rdz sb n cz an az nm sz V) (hc : ∀ p u, V.cell? p = some u → V'.cell? p = some u) : Rdz sb n cz an az nm sz V' :=
  ⟨hc _ _ h.1, fun k hk => by
    obtain ⟨g, g2, h1, h2, h3, h4⟩ := h.2 k hk
    exact ⟨g, g2, h1, h2, hc _ _ h3, hc _ _ h4⟩⟩

theorem Rdz.upd {sb n cz : Nat} {an az : Option Addr} {nm : Nat → ByteArray} {sz : Nat → Int} {W V V' : World} (h : Rdz sb n cz an az nm sz V) (h0 : Rdz sb n cz an az nm sz W) (hc : ∀ p u, p.block < W.heap.size → V.cell? p = some u → V'.cell? p = some u) : Rdz sb n cz an az nm sz V' :=
  ⟨hc _ _ (World.block_lt_of_cell? W _ h0.1) h.1, fun k hk => by
    obtain ⟨g, g2, h1, h2, h3, h4⟩ := h.2 k hk
    obtain ⟨q, q2, e1, e2, e3, e4⟩ := h0.2 k hk
    rw [h1] at e1
    rw [h2] at e2
    cases e1
    cases e2
    exact ⟨g, g2, h1, h2, hc _ _ (World.block_lt_of_cell? W _ e3) h3, hc _ _ (World.block_lt_of_cell? W _ e4) h4⟩⟩

/-- What a round keeps for Each's function. -/
def KpZ (sb n cz : Nat) (an az : Option Addr) (nm : Nat → ByteArray) (sz : Nat → Int) (V V' : World) : Prop := Rdz sb n cz an az nm sz V → Rdz sb n cz an az nm sz V'

def eaV (nm : Nat → ByteArray) (sz : Nat → Int) (k : Nat) : Array Value := #[.string (nm k), .int .i64 (sz k)]

set_option maxHeartbeats 1000000 in
set_option maxRecDepth 100000 in
theorem each1_gives (m : Nat) (hm : 1 ≤ m) {nb sb n cn cz : Nat} {an az : Option Addr} {nm : Nat → ByteArray} {sz : Nat → Int} (w : World) (hn : n ≤ 1000000) (hnb : w.cell? ⟨nb, 0, none⟩ = some (.slice an n cn)) (hR : Rdz sb n cz an az nm sz w) :
    Gives m Try.prog 53 #[.pointer (some ⟨nb, 0, none⟩), .pointer (some ⟨sb, 0, none⟩)] (eaV nm sz) n (KpZ sb n cz an az nm sz) w := by
  intro l J Jx W hW hJs hJxs hY h0
  have hup : ∀ p u, w.cell? p = some u → W.cell? p = some u := fun p u h => (hW.cell (World.block_lt_of_cell? w _ h)).trans h
  have hnbW := hup _ _ hnb
  have HR := hideP (hR.later hup)
  have HY := hideP hY
  have HJ := hideP h0
  clear hR hup hnb hJs hJxs hY h0 hW
  refine callsIn_of_wp Try.func53 rfl trivial ?_ rfl
  simp only [Try.ntmps53, List.size_toArray, List.length_cons, List.length_nil, Nat.reduceAdd, Nat.reduceSub, Array.replicate_succ, Array.replicate_zero, List.push_toArray, List.append_toArray, List.nil_append, List.cons_append]
  gi_wp2
  gi_loopw [4, 5, 8] (fun _ _ i wr => ∃ k : Nat, k ≤ n ∧ i = .int .i64 k ∧ Hid (J k wr) ∧ Hid (Rdz sb n cz an az nm sz wr)) (fun _ _ i _ => n - (intOf i).toNat)
  case atStart => exact ⟨0, Nat.zero_le _, rfl, HJ, HR⟩
  case round =>
    obtain ⟨k, hk, rfl, HJk, HRk⟩ := hrel
    by_cases hlt : k < n
    · have hlt' : (k : Int) < (n : Int) := by omega
      obtain ⟨e0, e1⟩ := HRk.out
      obtain ⟨g, g2, rfl, rfl, e2, e3⟩ := e1 k hlt
      obtain ⟨fn, tmps, assign, body, hy, hRd⟩ := HY.out k wr hlt HJk.out
      unfold eaV at hy
      have HRd := hideP hRd
      have t2 : IntKind.i64.wrap ((k : Int) + 1) = (k : Int) + 1 := by rw [IntKind.wrap_i64]; omega
      clear hRd e1 HJk
      gi_wp2
      refine HRd.out.mono ?_
      rintro e W3 (⟨rfl, hJ3, hk3⟩ | ⟨rfl, hJx3⟩)
      · have HR3 := hideP (hk3 HRk.out)
        have HJ3 := hideP hJ3
        clear hJ3 hk3 HRd HRk e0 e2 e3 hy
        gi_wp2
        go_roundw
        case rel => exact ⟨k + 1, by omega, by go_num, HJ3, HR3⟩
        case measure => simp [intOf]; omega
      · have HJX := hideP hJx3
        clear hJx3 HRd HRk e0 e2 e3 hy
        gi_wp2
        refine bodyPost_ret (results_none rfl _ _ _) rfl ?_
        exact ⟨⟨_, rfl⟩, .inr HJX.out⟩
    · have hkl : k = n := by omega
      subst hkl
      gi_wp2
      go_end0
      exact ⟨⟨_, rfl⟩, .inl HJk.out⟩

/-- Each's rows as its function reads them. -/
theorem EachM.rdz {w W : World} {l : List (ByteArray × List UInt8)} (h : EachM w (l.map fun x => .string x.1) (l.map fun x => .int .i64 x.2.length) W) :
    ∃ an cn az cz, W.cell? ⟨w.heap.size, 0, none⟩ = some (.slice an l.length cn) ∧ Rdz (w.heap.size + 1) l.length cz an az (fun k => (l.getD k (ByteArray.empty, [])).1) (fun k => ((l.getD k (ByteArray.empty, [])).2.length : Int)) W := by
  obtain ⟨an, cn, az, cz, h1, h2, h3, h4⟩ := h.ex
  simp only [List.length_map] at h1 h2 h3 h4
  refine ⟨an, cn, az, cz, blk_cell h1 rfl, blk_cell h2 rfl, fun k hk => ?_⟩
  have hget : ∀ {e n c : Nat} {v : Option Addr} {L : List Value} {u : Value}, W.ownsRow w.heap.size e 1 (.slice v n c) n L → L[k]? = some u → ∃ g, v = some ⟨g, 0, none⟩ ∧ W.cell? ⟨g, k, none⟩ = some u := fun {e n c v L u} hr hu => by
    rcases hr.2 with ⟨e0, h0⟩ | ⟨g, cap, cur, e0, hb, hg, hn, hmx, hz, ht⟩
    · have : L.length = n * 1 := hr.1
      have := (List.getElem?_eq_some_iff.1 hu).1
      omega
    · simp only [Value.slice.injEq] at e0
      refine ⟨g, e0.1, blk_cell hg ?_⟩
      rw [← ht, List.getElem?_take] at hu
      split at hu
      · simpa using hu
      · cases hu
  have hl : l[k]? = some l[k] := List.getElem?_eq_getElem hk
  obtain ⟨g, rfl, c1⟩ := hget h3 (u := .string l[k].1) (by rw [List.getElem?_map, hl]; rfl)
  obtain ⟨g2, rfl, c2⟩ := hget h4 (u := .int .i64 l[k].2.length) (by rw [List.getElem?_map, hl]; rfl)
  have hd : l.getD k (ByteArray.empty, []) = l[k] := by simp [List.getD, hl]
  exact ⟨g, g2, rfl, rfl, (by dsimp only; rw [hd]; exact c1), (by dsimp only; rw [hd]; exact c2)⟩

set_option maxHeartbeats 1000000 in
set_option maxRecDepth 100000 in
/-- Each of a disk. -/
theorem each_D {w : World} {role : Role} {D : Nat} {s : DSt} (h : DiskOK w role D s) :
    Calls Try.prog 25 #[.pointer (some ⟨D, 0, none⟩)] w fun e w' => e = .returned (.func (.func 53) #[] #[.pointer (some ⟨w.heap.size, 0, none⟩), .pointer (some ⟨w.heap.size + 1, 0, none⟩)]) ∧ Hid (EachM w ((toldA (abs s)).map fun x => .string x.1) ((toldA (abs s)).map fun x => .int .i64 x.2.length) w') := by
  cases hd : s.dead with
  | false =>
    have e : toldA (abs s) = s.fs.map fun f => (f.a.name, f.a.data) := by unfold toldA; rw [show (abs s).dead = s.dead from rfl, hd]; simp [dataL, abs]
    rw [e, List.map_map, List.map_map]
    exact callsIn_wide.1 (eachT_in h hd 10 (by omega))
  | true =>
    have e : toldA (abs s) = [] := by unfold toldA; rw [show (abs s).dead = s.dead from rfl, hd]; rfl
    rw [e]
    have hb : Below w.heap.size w ((w.alloc (.cells #[.slice none 0 0] 97)).alloc (.cells #[.slice none 0 0] 22)) := ((Below.refl _ w).alloc (Nat.le_refl _) _).alloc (by simp) _
    have hdead := dDead (h.still hb) true hd
    have HE : Hid (EachM w [] [] ((w.alloc (.cells #[.slice none 0 0] 97)).alloc (.cells #[.slice none 0 0] 22))) := by
      refine ⟨⟨none, 0, none, 0, (Below.heap_alloc _ _ _ (by simp)).trans (World.alloc_heap_new w _), ?_, World.ownsRow_nil _ _ _ _, World.ownsRow_nil _ _ _ _⟩, hb⟩
      have := World.alloc_heap_new (w.alloc (.cells #[.slice none 0 0] 97)) (.cells #[.slice none 0 0] 22)
      rwa [World.size_alloc] at this
    clear h hd e hb
    go_enter Try.func25, Try.ntmps25
    go_wp2_with fail
    refine hdead.mono ?_
    rintro e w' ⟨rfl, rfl⟩
    clear hdead
    go_wp2
    go_ret
    exact ⟨rfl, HE⟩

end Go.Proofs.Ytcceaokldphfgaa
