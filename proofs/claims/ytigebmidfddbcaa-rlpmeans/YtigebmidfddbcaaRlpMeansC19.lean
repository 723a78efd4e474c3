/-
  The items of lists: the program's read.
-/
import Derived.Test.YtigebmidfddbcaaRlpMeansC18
namespace Go.Proofs.Ytigebmidfddbcaa
open Go.RowKit Go.Shelf

attribute [local go_sem] Oper.semAt_some

/-- The boxes that a reading writes to. -/
def rdF (s b : Nat) : Prop := b = s + 1 + 1 ∨ b = s + 1 + 1 + 1 ∨ b = s + 1 + 1 + 1 + 1 + 1

/-- How a reading stands, so many pieces done. -/
structure RdI (w W0 : World) (R : Nat → Nat → Nat → Tree × Nat) (L : List (Nat × Nat × Nat × Nat)) (k : Nat) (V : World) : Prop where
  row : ∃ pre kv, KR W0.heap.size V kv pre ∧ V.heap[w.heap.size + 1 + 1 + 1 + 1 + 1]? = some (.cells #[kv] 24 (0, 0)) ∧ RdTo R L k pre ∧ pre.length = k
  b2 : V.heap[w.heap.size + 1 + 1]? = some (.cells #[.int .i64 0, .slice none 0 0, .slice none 0 0] 26 (0, 0))
  b3 : V.heap[w.heap.size + 1 + 1 + 1]? = some (.cells #[.int .i64 0] 29 (0, 0))
  keep : ∀ b o, W0.heap[b]? = some o → o.isCells = true → ¬ rdF w.heap.size b → V.heap[b]? = some o
  below : Below w.heap.size w V
  size : W0.heap.size ≤ V.heap.size

theorem RdI.moved {w W0 : World} {R : Nat → Nat → Nat → Tree × Nat} {L : List (Nat × Nat × Nat × Nat)} {k : Nat} {V V' : World} (h : RdI w W0 R L k V) (hb : Below V.heap.size V V') : RdI w W0 R L k V' := by
  have hk : ∀ b o, V.heap[b]? = some o → V'.heap[b]? = some o := fun b o ho => (hb.block b (lt_of_block ho)).trans ho
  obtain ⟨pre, kv, h1, h2, h3⟩ := h.row
  exact ⟨⟨pre, kv, h1.same (fun b o _ ho _ => hk b o ho), hk _ _ h2, h3⟩, hk _ _ h.b2, hk _ _ h.b3, fun b o h4 h5 h6 => hk _ _ (h.keep b o h4 h5 h6), h.below.trans (hb.mono h.below.size), Nat.le_trans h.size hb.size⟩

theorem below_putObj {N : Nat} {V : World} {l : Nat} (o : Obj) (h : N ≤ l) : Below N V (V.putObj l o) :=
  ⟨rfl, rfl, rfl, by simp [World.putObj], fun k hk => World.putObj_heap_other (by omega)⟩

theorem putObj_cells {V : World} {l b : Nat} {o o' x : Obj} (hl : V.heap[l]? = some o) (ho : o.isCells = false) (hb : V.heap[b]? = some x) (hx : x.isCells = true) : (V.putObj l o').heap[b]? = some x := by
  refine (World.putObj_heap_other (fun e => ?_)).trans hb
  subst e
  rw [hl] at hb
  cases hb
  rw [ho] at hx
  cases hx

theorem RdI.putObj {w W0 : World} {R : Nat → Nat → Nat → Tree × Nat} {L : List (Nat × Nat × Nat × Nat)} {k : Nat} {V : World} (h : RdI w W0 R L k V) {l : Nat} {o o' : Obj} (hlw : w.heap.size ≤ l) (hl : V.heap[l]? = some o) (ho : o.isCells = false) : RdI w W0 R L k (V.putObj l o') := by
  obtain ⟨pre, kv, h1, h2, h3⟩ := h.row
  have hk : ∀ (b : Nat) (x : Obj), V.heap[b]? = some x → x.isCells = true → (V.putObj l o').heap[b]? = some x := fun b x hb hx => putObj_cells hl ho hb hx
  exact ⟨⟨pre, kv, h1.same (fun b x _ hx hc => hk b x hx hc), hk _ _ h2 rfl, h3⟩, hk _ _ h.b2 rfl, hk _ _ h.b3 rfl, fun b x h4 h5 h6 => hk _ _ (h.keep b x h4 h5 h6) h5, h.below.trans (below_putObj _ hlw), by simpa using h.size⟩

/-- How a reading ends that comes to nothing. -/
structure RX (w : World) (e : Nat) (V : World) : Prop where
  b2 : V.heap[w.heap.size + 1 + 1]? = some (.cells #[.int .i64 0, .slice none 0 0, .slice none 0 0] 26 (0, 0))
  b3 : V.heap[w.heap.size + 1 + 1 + 1]? = some (.cells #[.int .i64 e] 29 (0, 0))
  below : Below w.heap.size w V

theorem RX.moved {w : World} {e : Nat} {V V' : World} (h : RX w e V) (hb : Below V.heap.size V V') : RX w e V' :=
  ⟨(hb.block _ (lt_of_block h.b2)).trans h.b2, (hb.block _ (lt_of_block h.b3)).trans h.b3, h.below.trans (hb.mono h.below.size)⟩

theorem RX.putObj {w : World} {e : Nat} {V : World} (h : RX w e V) {l : Nat} {o o' : Obj} (hlw : w.heap.size ≤ l) (hl : V.heap[l]? = some o) (ho : o.isCells = false) : RX w e (V.putObj l o') :=
  ⟨putObj_cells hl ho h.b2 rfl, putObj_cells hl ho h.b3 rfl, h.below.trans (below_putObj _ hlw)⟩

/-- Where why not is laid down. -/
theorem RX.of_sets {w V : World} {e : Nat} {i0 i1 i2 i3 : Value} (h2 : V.heap[w.heap.size + 1 + 1]? = some (.cells #[i0, i1, i2] 26 (0, 0))) (h3 : V.heap[w.heap.size + 1 + 1 + 1]? = some (.cells #[i3] 29 (0, 0))) (hb : Below w.heap.size w V) :
    RX w e ((((V.setCell ⟨w.heap.size + 1 + 1, 0, none⟩ (.int .i64 0)).setCell ⟨w.heap.size + 1 + 1, 1, none⟩ (.slice none 0 0)).setCell ⟨w.heap.size + 1 + 1, 2, none⟩ (.slice none 0 0)).setCell ⟨w.heap.size + 1 + 1 + 1, 0, none⟩ (.int .i64 e)) := by
  refine ⟨?_, ?_, ?_⟩
  · refine (Below.heap_setCell _ _ _ _ (by dsimp only <;> omega)).trans ?_
    exact blk_set (blk_set (blk_set h2 _) _) _
  · refine blk_set (cs := #[i3]) ?_ _
    repeat first | exact h3 | (refine (Below.heap_setCell _ _ _ _ (by dsimp only <;> omega)).trans ?_)
  · repeat first | exact hb | (refine Below.setCell ?_ (by dsimp only <;> omega) _)

theorem KpP.putObj {F : Nat → Prop} {KB N0 : Nat} {V V' : World} {l : Nat} {o o' : Obj} (h : KpP F KB N0 V V') (hl : V'.heap[l]? = some o) (ho : o.isCells = false) (hne : KB ≠ l) : KpP F KB N0 V (V'.putObj l o') := by
  refine ⟨by simpa using h.1, fun b x h1 h2 h3 => putObj_cells hl ho (h.2.1 b x h1 h2 h3) h2, fun b x f n c hc => ?_⟩
  have hc' : V'.cell? ⟨KB, 0, none⟩ = some (.slice (some ⟨b, x, f⟩) n c) := by
    rw [← hc]; exact (cell_congr (World.putObj_heap_other hne)).symm
  have := h.2.2 b x f n c hc'
  exact ⟨this.1, by simpa using this.2⟩

set_option maxHeartbeats 16000000 in
set_option maxRecDepth 100000 in
theorem read_list (d within : Nat) (hd : within + (d + 1) = 64)
    (IH : ∀ {ao : Option Addr} {n c : Nat} {bs : Nat → Nat} (l f t : Nat) (W : World), BS W ao n c bs → l ≤ 1 → f ≤ t → t ≤ n → n ≤ 140737488355328 → 0 < n → (l = 1 → t - f ≤ 1099511627776) →
      Calls Try.prog 56 #[.slice ao n c, pc l f t, .int .i64 ((within + 1 : Nat) : Int)] W fun e w' => (∃ v, e = .returned (.tuple #[v, .int .i64 (rd d bs l f t).2]) ∧ IsItem (cut W.heap.size w') (rd d bs l f t).1 v) ∧ Below W.heap.size W w')
    {ao : Option Addr} {n c : Nat} {bs : Nat → Nat} (f t : Nat) (w : World) (hB : BS w ao n c bs) (hft : f ≤ t) (htn : t ≤ n) (h0 : 0 < n) (h40 : t - f ≤ 1099511627776) :
    Calls Try.prog 56 #[.slice ao n c, pc 1 f t, .int .i64 within] w fun e w' => (∃ v, e = .returned (.tuple #[v, .int .i64 (rd (d + 1) bs 1 f t).2]) ∧ IsItem (cut w.heap.size w') (rd (d + 1) bs 1 f t).1 v) ∧ Below w.heap.size w w' := by
  have hres := rd_list d bs f t
  generalize rd (d + 1) bs 1 f t = res at *
  obtain ⟨ao', hB', hat, hsl⟩ := hB.part_at hft htn h0
  generalize hbs' : (fun j => bs (f + j)) = bs' at *
  generalize hm : t - f = m at *
  generalize c - f = c' at *
  have hlen := pcs_len bs' m (m + 1) 0
  have hpok := pcs_ok bs' m (m + 1) 0
  generalize hL : pcs bs' m (m + 1) 0 = L at *
  have gw : ¬ (within : Int) ≥ 64 := by omega
  have gw' : ¬ (64 : Int) ≤ (within : Int) := by omega
  have ew : IntKind.i64.wrap ((within : Int) + 1) = ((within + 1 : Nat) : Int) := by rw [IntKind.wrap_i64]; omega
  have HALL := hideP (And.intro hB' (And.intro hat (And.intro hlen (And.intro hpok (And.intro h40 (And.intro @IH (And.intro hL hres)))))))
  clear hB hB' hft htn h0 hbs' hm hat hlen hpok h40 IH hd hL hres
  unfold pc
  refine (callsIn_wide (n := 6)).1 ?_
  refine callsIn_of_wp_marks Try.func56 rfl trivial ?_ rfl
  simp only [Try.ntmps56, List.size_toArray, List.length_cons, List.length_nil, Nat.reduceAdd, Nat.reduceSub, Array.replicate_succ, Array.replicate_zero, List.push_toArray, List.append_toArray, List.nil_append, List.cons_append]
  gi_wp2_with (refine ⟨trivial, ?_⟩; gi_at_call 60; refine (callsIn_wide.2 (pieces_any _)).mono ?_; rintro e w' ⟨rfl, rfl⟩)
  generalize hW0 : ((((((w.alloc (.cells #[.int .i64 1, .int .i64 f, .int .i64 t] 40)).alloc (.cells #[.int .i64 within] 3)).alloc (.cells #[.int .i64 0, .slice none 0 0, .slice none 0 0] 26)).alloc (.cells #[.int .i64 0] 29)).alloc (.cells #[.slice ao' m c'] 23)).alloc (.cells #[.slice none 0 0] 24)).alloc (.cells #[.slice ao' m c'] 23) = W0
  have hsz : W0.heap.size = w.heap.size + 7 := by rw [← hW0]; simp
  have hbW : Below w.heap.size w W0 := by
    rw [← hW0]
    repeat first | exact Below.refl _ _ | (refine Below.alloc ?_ (by simp <;> omega) _)
  have b1 : W0.heap[w.heap.size + 1]? = some (.cells #[.int .i64 within] 3 (0, 0)) := by
    rw [← hW0]; repeat first | (refine box_at ?_; simp; done) | refine box_old (by simp <;> omega) ?_
  have b2 : W0.heap[w.heap.size + 1 + 1]? = some (.cells #[.int .i64 0, .slice none 0 0, .slice none 0 0] 26 (0, 0)) := by
    rw [← hW0]; repeat first | (refine box_at ?_; simp; done) | refine box_old (by simp <;> omega) ?_
  have b3 : W0.heap[w.heap.size + 1 + 1 + 1]? = some (.cells #[.int .i64 0] 29 (0, 0)) := by
    rw [← hW0]; repeat first | (refine box_at ?_; simp; done) | refine box_old (by simp <;> omega) ?_
  have b4 : W0.heap[w.heap.size + 1 + 1 + 1 + 1]? = some (.cells #[.slice ao' m c'] 23 (0, 0)) := by
    rw [← hW0]; repeat first | (refine box_at ?_; simp; done) | refine box_old (by simp <;> omega) ?_
  have b5 : W0.heap[w.heap.size + 1 + 1 + 1 + 1 + 1]? = some (.cells #[.slice none 0 0] 24 (0, 0)) := by
    rw [← hW0]; repeat first | (refine box_at ?_; simp; done) | refine box_old (by simp <;> omega) ?_
  have b6 : W0.heap[w.heap.size + 1 + 1 + 1 + 1 + 1 + 1]? = some (.cells #[.slice ao' m c'] 23 (0, 0)) := by
    rw [← hW0]; repeat first | (refine box_at ?_; simp; done) | refine box_old (by simp <;> omega) ?_
  clear hW0
  obtain ⟨hB, hat, hlen, hpok, h40, IH, hL, hres⟩ := HALL.out
  have hBW : BS W0 ao' m c' bs' := hB.moved hbW
  have hgive := pieces_gives (6 - 1) (by omega) (w.heap.size + 1 + 1 + 1 + 1 + 1 + 1) (rdF w.heap.size) (w.heap.size + 1 + 1 + 1 + 1 + 1) W0 hBW (blk_cell b6 rfl) (by unfold rdF; omega)
    (fun ad e => by have := hat ad e; unfold rdF; omega) (fun b hb => by unfold rdF at hb; omega) (by omega) (fun b o ff nn cc hc => by rw [blk_cell b5 rfl] at hc; cases hc)
  rw [hL] at hgive
  have hI0 : RdI w W0 (rd d bs') L 0 W0 := ⟨⟨[], _, KR.nil _ _, b5, RdTo.zero _ _, rfl⟩, b2, b3, fun _ _ h _ _ => h, hbW, Nat.le_refl _⟩
  refine range_seq (n := 6) (by omega) rfl (enters_of Try.func75 (by kernel_rfl) rfl) (pcv L) L.length (fun _ => rfl) _ hgive
    (RdI w W0 (rd d bs') L) (fun cd V => cd = .ret ∧ ∃ e, e ≠ 0 ∧ rdK (rd d bs') L = ([], e) ∧ RX w e V)
    (fun q V V' h hb => h.moved hb) (fun cd V V' h hb => by
      obtain ⟨h1, e, h2, h3, h4⟩ := h
      exact ⟨h1, e, h2, h3, h4.moved hb⟩)
    (fun q V l' o o' h hl h1 h2 => h.putObj (by omega) h1 h2) (fun cd V l' o o' h hl h1 h2 => by
      obtain ⟨g1, e, g2, g3, g4⟩ := h
      exact ⟨g1, e, g2, g3, g4.putObj (by omega) h1 h2⟩) (fun V V' l' o o' h hl h1 h2 => h.putObj h1 h2 (by omega)) hI0 ?round ?done ?stop
  case stop =>
    rintro D cd W hD ⟨rfl, e, he, hrd, hx⟩ hdef
    have hD2 := lt_of_block hx.b2
    have hDn : D ≠ w.heap.size + 1 + 1 ∧ D ≠ w.heap.size + 1 + 1 + 1 := ⟨by omega, by omega⟩
    have hx' : RX w e (W.putObj D (.deferred none)) := hx.putObj (by omega) hdef rfl
    have HX := hideP hx'
    obtain ⟨y0, y1, y2⟩ := cells3 hx'.b2
    have y3 := blk_cell hx'.b3 (o := 0) rfl
    have HDF := hideP hdef
    rw [hrd, if_pos he] at hres
    have HRES := hideP hres
    clear hres hgive hI0 hrd hx hx' hdef b1 b2 b3 b4 b5 b6 hBW hB hat hpok IH hL hbW he
    gi_wp2
    refine ⟨by simp, .inl ⟨_, _, rfl, run_takeDeferred HDF.out, ?_⟩⟩
    exact ⟨.tuple #[.agg #[.int .i64 0, .slice none 0 0, .slice none 0 0], .int .i64 e], by simp [results, Try.results56, go_sem, y0, y1, y2, y3], by rw [HRES.out]; exact ⟨⟨_, rfl, isItem_zero _⟩, HX.out.below⟩⟩
  case done =>
    rintro D W hD hRI hdef
    obtain ⟨pre, kv, hKR, hkb, hto, hpl⟩ := hRI.row
    have hrd := hto.all
    obtain ⟨ka, kc, rfl⟩ := hKR.len
    have hc0 := blk_cell hkb (o := 0) rfl
    have HALL2 := hideP (And.intro hKR (And.intro hRI (And.intro hdef hrd)))
    have hlc := list_any ka pre.length kc W
    rw [hrd, if_neg (by simp)] at hres
    have HRES := hideP hres
    clear hres hpl hgive hI0 hrd hdef b1 b2 b3 b4 b5 b6 hBW hB hat hpok IH hL hbW hRI hKR hkb hto
    generalize hpn : pre.length = pn at *
    have HPN := hideP hpn
    have HLC := hideP hlc
    clear hpn hlc
    gi_wp2
    refine ⟨trivial, (callsIn_wide.2 HLC.out).mono ?_⟩
    rintro e W2 ⟨rfl, hb2⟩
    obtain ⟨hKR, hRI, hdef, hrd⟩ := HALL2.out
    have hRI2 := hRI.moved hb2
    have q2 := hRI2.b2
    have q3 := hRI2.b3
    obtain ⟨y0, y1, y2⟩ := cells3 q2
    have y3 := blk_cell q3 (o := 0) rfl
    have yf : ∀ o, W2.frozen? ⟨w.heap.size + 1 + 1, o, none⟩ = false := fun o => blk_free q2
    have zf : ∀ o, W2.frozen? ⟨w.heap.size + 1 + 1 + 1, o, none⟩ = false := fun o => blk_free q3
    have hdef2 : W2.heap[D]? = some (.deferred (some [])) := (hb2.block D (lt_of_block hdef)).trans hdef
    have hKR2 : KR W0.heap.size W2 (.slice ka pre.length kc) pre := by
      rw [HPN.out]
      exact hKR.same fun b o _ ho _ => (hb2.block b (lt_of_block ho)).trans ho
    have HALL3 := hideP (And.intro hKR2 (And.intro hRI2.below (And.intro hdef2 (And.intro q2 (And.intro q3 (And.intro hRI2.size hsz))))))
    clear hKR hRI hdef hrd hb2 hRI2 q2 q3 hdef2 hKR2 HALL2 HLC
    gi_wp2
    obtain ⟨hKR2, hbl, hdef2, q2, q3, hszW, hsz0⟩ := HALL3.out
    have hKb : ∀ V, V = (((W2.setCell ⟨w.heap.size + 1 + 1, 0, none⟩ (.int .i64 1)).setCell ⟨w.heap.size + 1 + 1, 1, none⟩ (.slice none 0 0)).setCell ⟨w.heap.size + 1 + 1, 2, none⟩ (.slice ka pn kc)).setCell ⟨w.heap.size + 1 + 1 + 1, 0, none⟩ (.int .i64 0) →
        V.heap[D]? = some (.deferred (some [])) ∧ V.heap[w.heap.size + 1 + 1]? = some (.cells #[.int .i64 1, .slice none 0 0, .slice ka pn kc] 26 (0, 0)) ∧ V.heap[w.heap.size + 1 + 1 + 1]? = some (.cells #[.int .i64 0] 29 (0, 0)) ∧ Below w.heap.size w V ∧ ∀ b, W0.heap.size ≤ b → V.heap[b]? = W2.heap[b]? := by
      rintro V rfl
      refine ⟨?_, ?_, ?_, ?_, ?_⟩
      · repeat first | exact hdef2 | (refine (Below.heap_setCell _ _ _ _ (by dsimp only <;> omega)).trans ?_)
      · refine (Below.heap_setCell _ _ _ _ (by dsimp only <;> omega)).trans ?_
        exact blk_set (blk_set (blk_set q2 _) _) _
      · refine blk_set (cs := #[.int .i64 0]) ?_ _
        repeat first | exact q3 | (refine (Below.heap_setCell _ _ _ _ (by dsimp only <;> omega)).trans ?_)
      · repeat first | exact hbl | (refine Below.setCell ?_ (by dsimp only <;> omega) _)
      · intro b hb
        repeat first | rfl | (refine (Below.heap_setCell _ _ _ _ (by dsimp only <;> omega)).trans ?_)
    generalize hV : (((W2.setCell ⟨w.heap.size + 1 + 1, 0, none⟩ (.int .i64 1)).setCell ⟨w.heap.size + 1 + 1, 1, none⟩ (.slice none 0 0)).setCell ⟨w.heap.size + 1 + 1, 2, none⟩ (.slice ka pn kc)).setCell ⟨w.heap.size + 1 + 1 + 1, 0, none⟩ (.int .i64 0) = V at *
    obtain ⟨hdV, k2, k3, hbV, hsV⟩ := hKb V rfl
    have p2 : (V.putObj D (.deferred none)).heap[w.heap.size + 1 + 1]? = some (.cells #[.int .i64 1, .slice none 0 0, .slice ka pn kc] 26 (0, 0)) := putObj_cells hdV rfl k2 rfl
    have p3 : (V.putObj D (.deferred none)).heap[w.heap.size + 1 + 1 + 1]? = some (.cells #[.int .i64 0] 29 (0, 0)) := putObj_cells hdV rfl k3 rfl
    obtain ⟨z0, z1, z2⟩ := cells3 p2
    have z3 := blk_cell p3 (o := 0) rfl
    refine ⟨by simp, .inl ⟨_, _, rfl, run_takeDeferred hdV, ?_⟩⟩
    refine ⟨.tuple #[.agg #[.int .i64 1, .slice none 0 0, .slice ka pn kc], .int .i64 0], by simp [results, Try.results56, go_sem, z0, z1, z2, z3], ?_⟩
    rw [HRES.out]
    refine ⟨⟨_, rfl, ?_⟩, hbV.trans (below_putObj _ (by omega))⟩
    have hKV : KR W0.heap.size (V.putObj D (.deferred none)) (.slice ka pn kc) pre := by
      have h := hKR2.same (w' := V.putObj D (.deferred none)) fun b o hb ho hc => putObj_cells hdV rfl ((hsV b hb).trans ho) hc
      rw [HPN.out] at h
      exact h
    exact hKV.item.mono fun a u hc => cut_le (by omega) hc
  case round =>
    rintro l' q W hq hRI hl' ⟨rr, hlr⟩
    obtain ⟨pre, kv, hKR, hkb, hto, hpl⟩ := hRI.row
    have hx := hpok (L.getD q (0, 0, 0, 0)) (by rw [List.getD_eq_getElem?_getD, List.getElem?_eq_getElem hq]; exact List.getElem_mem hq)
    have hbad := fun he => hto.bad hq rfl he
    have hworse := fun he hr => hto.worse hq rfl he hr
    have hnext := fun he hr => hto.next hq rfl he hr
    unfold pcv pc
    generalize L.getD q (0, 0, 0, 0) = x at *
    obtain ⟨xl, xf, xt, xe⟩ := x
    dsimp only at hx hbad hworse hnext ⊢
    have HR := hideP (And.intro hKR (And.intro hkb (And.intro hpl (And.intro hx (And.intro hbad (And.intro hworse (And.intro hnext (And.intro hRI (And.intro hlr (And.intro hl' (And.intro hlen (And.intro h40 (And.intro @IH (And.intro hB (And.intro b1 (And.intro b4 (And.intro hsz hq)))))))))))))))))
    clear hgive hI0 b1 b2 b3 b4 b5 b6 hBW hB hat hpok IH hL hbW hRI hKR hkb hto hpl hx hbad hworse hnext hlr hl' hlen h40 hres hsz hq
    gi_wp2
    obtain ⟨hKR, hkb, hpl, hx, hbad, hworse, hnext, hRI, hlr, hl', hlen, h40, IH, hB, b1, b4, hsz, hq⟩ := HR.out
    refine ⟨(KeepsOthers.alloc W _).from _, fun r => ?_⟩
    have hl'W := lt_of_block hlr
    have hlr1 : (W.alloc (.cells #[.int .i64 xl, .int .i64 xf, .int .i64 xt] 40)).heap[l']? = some (.loop rr) := (heap_old _ _ hl'W).trans hlr
    have hRI1 : RdI w W0 (rd d bs') L q ((W.alloc (.cells #[.int .i64 xl, .int .i64 xf, .int .i64 xt] 40)).putObj l' (.loop r)) := (hRI.moved ((Below.refl _ W).alloc (Nat.le_refl _) _)).putObj (by omega) hlr1 rfl
    have hkb1 : ((W.alloc (.cells #[.int .i64 xl, .int .i64 xf, .int .i64 xt] 40)).putObj l' (.loop r)).heap[w.heap.size + 1 + 1 + 1 + 1 + 1]? = some (.cells #[kv] 24 (0, 0)) := putObj_cells hlr1 rfl ((heap_old _ _ (lt_of_block hkb)).trans hkb) rfl
    have hKR1 : KR W0.heap.size ((W.alloc (.cells #[.int .i64 xl, .int .i64 xf, .int .i64 xt] 40)).putObj l' (.loop r)) kv pre := hKR.same fun b o _ ho hc => putObj_cells hlr1 rfl ((heap_old _ _ (lt_of_block ho)).trans ho) hc
    have hpb : ((W.alloc (.cells #[.int .i64 xl, .int .i64 xf, .int .i64 xt] 40)).putObj l' (.loop r)).heap[W.heap.size]? = some (.cells #[.int .i64 xl, .int .i64 xf, .int .i64 xt] 40 (0, 0)) := putObj_cells hlr1 rfl (heap_new _ _) rfl
    have hkp1 : ∀ (b : Nat) (o : Obj), W.heap[b]? = some o → o.isCells = true → ((W.alloc (.cells #[.int .i64 xl, .int .i64 xf, .int .i64 xt] 40)).putObj l' (.loop r)).heap[b]? = some o := fun b o ho hc => putObj_cells hlr1 rfl ((heap_old _ _ (lt_of_block ho)).trans ho) hc
    have hsz1 : W.heap.size < ((W.alloc (.cells #[.int .i64 xl, .int .i64 xf, .int .i64 xt] 40)).putObj l' (.loop r)).heap.size := lt_of_block hpb
    generalize (W.alloc (.cells #[.int .i64 xl, .int .i64 xf, .int .i64 xt] 40)).putObj l' (.loop r) = W1 at *
    have c1 := blk_cell (hRI1.keep _ _ b1 rfl (by unfold rdF; omega)) (o := 0) rfl
    have c4 := blk_cell (hRI1.keep _ _ b4 rfl (by unfold rdF; omega)) (o := 0) rfl
    obtain ⟨d0, d1, d2⟩ := cells3 hpb
    by_cases hxe : xe = 0
    · subst hxe
      obtain ⟨p1, p2, p3, p4⟩ := hx rfl
      dsimp only at p1 p2 p3 p4
      have hcall := IH xl xf xt W1 (hB.moved hRI1.below) p1 p2 p3 (by omega) (by omega) (fun h => (p4 h).2)
      unfold pc at hcall
      have HC := hideP hcall
      have HQ := hideP (And.intro hRI1 (And.intro hkb1 (And.intro hKR1 (And.intro hkp1 (And.intro hpl (And.intro hworse (And.intro hnext (And.intro hlen (And.intro h40 (And.intro hsz (And.intro hq (And.intro hKR (And.intro hkb (And.intro hsz1 hl'))))))))))))))
      clear hRI1 hkb1 hKR1 hkp1 hpl hx hworse hnext hbad hlen h40 hsz hq hKR hkb hcall IH hB b1 b4 hpb hlr1 p1 p2 p3 p4 hRI hlr hl' hl'W HR hsz1
      generalize rd d bs' xl xf xt = rr0 at *
      obtain ⟨rt, re⟩ := rr0
      gi_wp2
      refine ⟨trivial, (CallsIn.inRound l' (callsIn_wide.2 HC.out)).mono ?_⟩
      rintro e W2 ⟨⟨v, rfl, hIt⟩, hb2⟩
      cases rt with
      | node kl kb kk =>
      have HIT := hideP hIt
      obtain ⟨ka, kc, ka', kc', rfl, _, _, _⟩ := hIt.form
      have HB2 := hideP hb2
      clear hIt hb2
      generalize hkn : kb.length = kn at *
      generalize hkn' : kk.length = kn' at *
      clear hkn hkn'
      by_cases hre : re = 0
      · subst hre
        gi_wp2
        obtain ⟨hRI1, hkb1, hKR1, hkp1, hpl, hworse, hnext, hlen, h40, hsz, hq, hKR, hkb, hsz1, hl'⟩ := HQ.out
        have hb3 : Below W1.heap.size W1 (W2.alloc (.cells #[.int .i64 kl, .slice ka kn kc, .slice ka' kn' kc'] 26)) := HB2.out.alloc HB2.out.size _
        have hRI3 := hRI1.moved hb3
        have hkid : (W2.alloc (.cells #[.int .i64 kl, .slice ka kn kc, .slice ka' kn' kc'] 26)).heap[W2.heap.size]? = some (.cells #[.int .i64 kl, .slice ka kn kc, .slice ka' kn' kc'] 26 (0, 0)) := heap_new _ _
        have hkb3 := (hb3.block _ (lt_of_block hkb1)).trans hkb1
        have hKR3 : KR W0.heap.size (W2.alloc (.cells #[.int .i64 kl, .slice ka kn kc, .slice ka' kn' kc'] 26)) kv pre := hKR1.same fun b o _ ho _ => (hb3.block b (lt_of_block ho)).trans ho
        have hIt3 : IsItem (cut W1.heap.size (W2.alloc (.cells #[.int .i64 kl, .slice ka kn kc, .slice ka' kn' kc'] 26))) (.node kl kb kk) (.agg #[.int .i64 kl, .slice ka kn kc, .slice ka' kn' kc']) := HIT.out.mono fun a u hc => by
          obtain ⟨e1, e2⟩ := cut_cell.1 hc
          exact cut_cell.2 ⟨e1, (cell_congr (heap_old _ _ (World.block_lt_of_cell? _ _ e2))).trans e2⟩
        have hs2 := HB2.out.size
        have hsz3 : (W2.alloc (.cells #[.int .i64 kl, .slice ka kn kc, .slice ka' kn' kc'] 26)).heap.size = W2.heap.size + 1 := by simp
        generalize hB2 : W2.heap.size = B2 at *
        generalize (W2.alloc (.cells #[.int .i64 kl, .slice ka kn kc, .slice ka' kn' kc'] 26)) = W3 at *
        obtain ⟨kva, kvc, rfl⟩ := hKR.len
        have HSZ3 := hideP hsz3
        have HPL := hideP hpl
        clear hsz3 hpl
        refine regionIn_late [4, 5, 6, 7] (fun V => V.heap[w.heap.size + 1 + 1 + 1 + 1 + 1]? = some (.cells #[.slice kva pre.length kvc] 24 (0, 0)) ∧ V.heap[B2]? = some (.cells #[.int .i64 kl, .slice ka kn kc, .slice ka' kn' kc'] 26 (0, 0))) (by kernel_rfl) (by kernel_rfl) ⟨hkb3, hkid⟩ (fun hS => ?_)
        refine anyZ_take (i := 0) (g := 5) (v := ?_) rfl (by kernel_rfl) (by kernel_rfl) (by kernel_rfl) (by kernel_rfl) (by kernel_rfl) (fun _ _ _ h => h) (Or.inl ⟨by kernel_rfl, ?_⟩) hS ?_
        rotate_left
        · intro V hV
          have k0 := blk_cell hV.1 (o := 0) rfl
          go_simp
          (try with_reducible rfl)
        simp only [put_list, List.set_cons_succ, List.set_cons_zero]
        refine anyZ_take (i := 1) (g := 5) (v := ?_) rfl (by kernel_rfl) (by kernel_rfl) (by kernel_rfl) (by kernel_rfl) (by kernel_rfl) (fun _ _ _ h => h) (Or.inl ⟨by kernel_rfl, ?_⟩) hS ?_
        rotate_left
        · intro V hV
          obtain ⟨k0, k1, k2⟩ := cells3 hV.2
          go_simp
          (try with_reducible rfl)
        simp only [put_list, List.set_cons_succ, List.set_cons_zero]
        refine anyZ_take (i := 2) (g := 5) (v := ?_) rfl (by kernel_rfl) (by kernel_rfl) (by kernel_rfl) (by kernel_rfl) (by kernel_rfl) (fun _ _ _ h => h) (Or.inl ⟨by kernel_rfl, ?_⟩) hS ?_
        rotate_left
        · intro V hV
          go_simp
          (try with_reducible rfl)
        simp only [put_list, List.set_cons_succ, List.set_cons_zero]
        refine anyZ_one (i := 3) (by kernel_rfl) rfl (fun Kc hKc => ?_)
        go_simp
        have hlt3 : B2 < W3.heap.size := by have := HSZ3.out; omega
        have hlk := lt_of_block hkb3
        have hS4 : ((W3.alloc (.cells #[.int .i64 0, .slice none 0 0, .slice none 0 0] 26)).drew).heap[w.heap.size + 1 + 1 + 1 + 1 + 1]? = some (.cells #[.slice kva pre.length kvc] 24 (0, 0)) ∧ ((W3.alloc (.cells #[.int .i64 0, .slice none 0 0, .slice none 0 0] 26)).drew).heap[B2]? = some (.cells #[.int .i64 kl, .slice ka kn kc, .slice ka' kn' kc'] 26 (0, 0)) :=
          ⟨(heap_old W3 _ hlk).trans hkb3, (heap_old W3 _ hlt3).trans hkid⟩
        refine hKc.out _ _ (fun _ => hS4) ?_
        clear hKc Kc
        have hnew : ((W3.alloc (.cells #[.int .i64 0, .slice none 0 0, .slice none 0 0] 26)).drew).heap[W3.heap.size]? = some (.cells #[.int .i64 0, .slice none 0 0, .slice none 0 0] 26 (0, 0)) := heap_new W3 _
        have hb4 : Below W3.heap.size W3 ((W3.alloc (.cells #[.int .i64 0, .slice none 0 0, .slice none 0 0] 26)).drew) := ((Below.refl _ W3).alloc (Nat.le_refl _) _).drew
        have hKR4 : KR W0.heap.size ((W3.alloc (.cells #[.int .i64 0, .slice none 0 0, .slice none 0 0] 26)).drew) (.slice kva pre.length kvc) pre := hKR3.same fun b o _ ho _ => (heap_old W3 _ (lt_of_block ho)).trans ho
        have hRI4 := hRI3.moved hb4
        have hsz4 : ((W3.alloc (.cells #[.int .i64 0, .slice none 0 0, .slice none 0 0] 26)).drew).heap.size = W3.heap.size + 1 := by simp
        generalize (W3.alloc (.cells #[.int .i64 0, .slice none 0 0, .slice none 0 0] 26)).drew = W4 at *
        obtain ⟨n0, n1, n2⟩ := cells3 hnew
        have hszW := hRI4.size
        obtain ⟨g, cap, W5, hrun, hKR5, hgr, hat5, hg5, hb5⟩ := hKR4.append (by omega) (by have := HPL.out; omega) (t := .node 0 [] []) (isItem_zero _) ⟨W3.heap.size, 0, none⟩ 1 24 n0 n1 n2
        refine anyZ_one (i := 4) (by kernel_rfl) rfl (fun Kc hKc => ?_)
        refine step_append (ty := 24) (vs := .slice kva pre.length kvc) (vx := .slice (some ⟨W3.heap.size, 0, none⟩) 1 1) (v' := .slice (some ⟨g, 0, none⟩) (pre.length + 1) cap) (w' := W5) (dd := 52) rfl (.tmp 48) (.tmp 51) 24 rfl rfl rfl rfl rfl hrun ?_
        refine hKc.out _ _ (fun h => absurd (by decide) h) ?_
        clear hKc Kc
        simp only [put_list, List.set_cons_succ, List.set_cons_zero]
        have hix : ((pre.length : Nat) : Int) < ((pre.length : Nat) : Int) + 1 := by omega
        refine anyZ_take0 (i := 5) (v := .pointer (some ⟨g, pre.length * 3, none⟩)) rfl (by kernel_rfl) (by kernel_rfl) (by kernel_rfl) (by kernel_rfl) (by kernel_rfl) (fun _ _ _ h => h) (Or.inl ⟨by kernel_rfl, ?_⟩) ?_
        · intro V hV
          go_simp
        simp only [put_list, List.set_cons_succ, List.set_cons_zero]
        obtain ⟨cur, hcur, u0, u1, u2, hu0, hu1, hu2⟩ := hKR5.last
        have x0 := blk_cell hcur hu0
        have x1 := blk_cell hcur hu1
        have x2 := blk_cell hcur hu2
        have xf : ∀ o, W5.frozen? ⟨g, o, none⟩ = false := fun o => blk_free hcur
        have hrowne : ∀ r0, (Value.slice kva pre.length kvc).ownBlock = some r0 → W0.heap.size ≤ r0 ∧ r0 < W1.heap.size := fun r0 h => hKR1.lt h
        have hgN : W0.heap.size ≤ g := by
          rcases hat5 with h | h
          · exact (hrowne g h).1
          · omega
        have hkb5 : W5.heap[w.heap.size + 1 + 1 + 1 + 1 + 1]? = some (.cells #[.slice kva pre.length kvc] 24 (0, 0)) := (hb5.block _ (by omega)).trans hS4.1
        have y0 := blk_cell hkb5 (o := 0) rfl
        have yf : ∀ o, W5.frozen? ⟨w.heap.size + 1 + 1 + 1 + 1 + 1, o, none⟩ = false := fun o => blk_free hkb5
        have HFIN : Hid (∀ V, V.heap[g]? = some (.cells (((cur.setIfInBounds (pre.length * 3) (.int .i64 kl)).setIfInBounds (pre.length * 3 + 1) (.slice ka kn kc)).setIfInBounds (pre.length * 3 + 2) (.slice ka' kn' kc')) 26 (0, 0)) →
            V.heap[w.heap.size + 1 + 1 + 1 + 1 + 1]? = some (.cells #[.slice (some ⟨g, 0, none⟩) (pre.length + 1) cap] 24 (0, 0)) → (∀ b, b ≠ g → b ≠ w.heap.size + 1 + 1 + 1 + 1 + 1 → V.heap[b]? = W5.heap[b]?) → Below w.heap.size W5 V →
            KeepsFrom W0.heap.size W1 V ∧ KpP (rdF w.heap.size) (w.heap.size + 1 + 1 + 1 + 1 + 1) W0.heap.size W V ∧ RdI w W0 (rd d bs') L (q + 1) V) := by
          intro V v1 v2 v3 v4
          have hgo : ∀ b o, W1.heap[b]? = some o → b ≠ g → b ≠ w.heap.size + 1 + 1 + 1 + 1 + 1 → (Value.slice kva pre.length kvc).ownBlock ≠ some b → V.heap[b]? = some o := by
            intro b o ho h1 h2 h3
            have hlt := lt_of_block ho
            have o3 := (hb3.block b hlt).trans ho
            have o4 := (hb4.block b (lt_of_block o3)).trans o3
            exact (v3 b h1 h2).trans ((hgr.block b (lt_of_block o4) (fun e => h3 e.symm)).trans o4)
          have hs13 := hb3.size
          have hs01 := hRI1.size
          have hs34 := hb4.size
          have hs5 := hb5.size
          have hsv := v4.size
          refine ⟨⟨by omega, fun b o hb ho hc => ?_⟩, ⟨by omega, fun b o ho hc hm => ?_, fun b o ff nn cc hc => ?_⟩, ?_⟩
          · have n1 : (Value.slice kva pre.length kvc).ownBlock ≠ some b := fun e => by
              obtain ⟨vs, hO, _⟩ := hKR1
              rcases hO.2 with ⟨h, _⟩ | ⟨g0, c0, cu, h, _, h0, _⟩
              · rw [h] at e; cases e
              · rw [h] at e; cases e; rw [ho] at h0; cases h0; cases hc
            refine hgo b o ho (fun e => ?_) (by omega) n1
            rcases hat5 with h | h
            · rw [← e] at h; exact n1 h
            · have := lt_of_block ho
              omega
          · have n1 : (Value.slice kva pre.length kvc).ownBlock ≠ some b := fun e => hm (Or.inr (by
              cases kva with
              | none => cases e
              | some ad => cases e; exact ⟨_, _, _, _, blk_cell hkb rfl⟩))
            refine hgo b o (hkp1 b o ho hc) (fun e => ?_) (fun e => hm (Or.inl (by unfold rdF; omega))) n1
            rcases hat5 with h | h
            · rw [← e] at h; exact n1 h
            · have := lt_of_block ho
              omega
          · rw [blk_cell v2 rfl] at hc
            cases hc
            exact ⟨hgN, lt_of_block v1⟩
          · have hb' : ∀ b o, W4.heap[b]? = some o → b < W0.heap.size → b ≠ w.heap.size + 1 + 1 + 1 + 1 + 1 → V.heap[b]? = some o := fun b o ho h1 h2 => (v3 b (by omega) h2).trans ((hb5.block b h1).trans ho)
            refine ⟨⟨pre ++ [.node kl kb kk], _, KR.fill hKR5 hcur v1 (fun b o h1 h2 h3 h4 => (v3 b h2 (by omega)).trans h3) ?_, v2, hnext (by first | rfl | trivial) (by first | rfl | trivial), by rw [List.length_append, HPL.out]; rfl⟩, hb' _ _ hRI4.b2 (by omega) (by omega), hb' _ _ hRI4.b3 (by omega) (by omega),
              fun b o h1 h2 h3 => hb' b o (hRI4.keep b o h1 h2 h3) (lt_of_block h1) (fun e => h3 (by unfold rdF; omega)), (hRI4.below.trans (hb5.mono (by omega))).trans v4, by omega⟩
            refine hIt3.mono fun a u hc => ?_
            obtain ⟨e1, e2⟩ := cut_cell.1 hc
            have hlt := World.block_lt_of_cell? _ _ e2
            have hne : (Value.slice kva pre.length kvc).ownBlock ≠ some a.block := fun e => by have := (hrowne _ e).2; omega
            have hag : a.block ≠ g := fun e => by
              rcases hat5 with h | h
              · rw [← e] at h; exact hne h
              · omega
            refine cutR_cell.2 ⟨by omega, fun e => hag (by cases e; rfl), ?_⟩
            refine (cell_congr (v3 _ hag (by omega))).trans ((cell_congr (hgr.block _ (by omega) (fun e => hne e.symm))).trans ((cell_congr (hb4.block _ hlt)).trans e2))
        have HG : Hid (w.heap.size ≤ g ∧ g ≠ w.heap.size + 1 + 1 + 1 + 1 + 1) := ⟨by omega, by omega⟩
        have HCUR := hideP hcur
        have HKB5 := hideP hkb5
        have gne : g ≠ w.heap.size + 1 + 1 + 1 + 1 + 1 := HG.out.2
        have gne' : w.heap.size + 1 + 1 + 1 + 1 + 1 ≠ g := fun e => HG.out.2 e.symm
        clear hRI1 hkb1 hKR1 hkp1 hworse hnext hlen h40 hsz hq hKR hkb hsz1 hl' hb3 hRI3 hkid hkb3 hKR3 hIt3 hs2 hS hlt3 hlk hS4 hnew hb4 hKR4 hRI4 hsz4 n0 n1 n2 hszW hrun hKR5 hgr hat5 hg5 hb5 hcur hu0 hu1 hu2 hrowne hgN hkb5
        refine anyZ_two (i := 6) (j := 7) (by kernel_rfl) rfl rfl (fun Kc hKc => ?_) (fun Kc hKc => ?_)
        · go_simp
          refine hKc.out _ _ (fun h => absurd (by decide) h) ?_
          clear hKc Kc
          generalize hWx : ((W5.setCell ⟨g, pre.length * 3, none⟩ (.int .i64 kl)).setCell ⟨g, pre.length * 3 + 1, none⟩ (.slice ka kn kc)).setCell ⟨g, pre.length * 3 + 2, none⟩ (.slice ka' kn' kc') = Wx
          have hkx : Wx.heap[w.heap.size + 1 + 1 + 1 + 1 + 1]? = some (.cells #[.slice kva pre.length kvc] 24 (0, 0)) := by
            rw [← hWx]
            exact (Below.heap_setCell _ _ _ _ gne').trans ((Below.heap_setCell _ _ _ _ gne').trans ((Below.heap_setCell _ _ _ _ gne').trans HKB5.out))
          have hgx : Wx.heap[g]? = some (.cells (((cur.setIfInBounds (pre.length * 3) (.int .i64 kl)).setIfInBounds (pre.length * 3 + 1) (.slice ka kn kc)).setIfInBounds (pre.length * 3 + 2) (.slice ka' kn' kc')) 26 (0, 0)) := by
            rw [← hWx]
            exact blk_set (blk_set (blk_set HCUR.out _) _) _
          have hox : ∀ b, b ≠ g → Wx.heap[b]? = W5.heap[b]? := fun b hb => by
            rw [← hWx]
            exact (Below.heap_setCell _ _ _ _ hb).trans ((Below.heap_setCell _ _ _ _ hb).trans (Below.heap_setCell _ _ _ _ hb))
          have hbx : Below w.heap.size W5 Wx := by
            rw [← hWx]
            exact (((Below.refl _ W5).setCell HG.out.1 _).setCell HG.out.1 _).setCell HG.out.1 _
          have z0 := blk_cell hkx (o := 0) rfl
          have zf : ∀ o, Wx.frozen? ⟨w.heap.size + 1 + 1 + 1 + 1 + 1, o, none⟩ = false := fun o => blk_free hkx
          have HX := hideP (And.intro hkx (And.intro hgx (And.intro hox hbx)))
          clear hWx hkx hgx hox hbx x0 x1 x2 xf y0 yf
          refine anyZ_one (i := 7) (by kernel_rfl) rfl (fun Kc hKc => ?_)
          go_simp
          refine hKc.out _ _ (fun h => absurd (by decide) h) ?_
          clear hKc Kc
          refine anyZ_done (by kernel_rfl) ?_ _
          obtain ⟨hkx, hgx, hox, hbx⟩ := HX.out
          exact HFIN.out _ ((Below.heap_setCell _ _ _ _ gne).trans hgx) (blk_set hkx _) (fun b h1 h2 => (Below.heap_setCell _ _ _ _ h2).trans (hox b h1)) (hbx.setCell (by dsimp only; omega) _)
        · go_simp
          refine hKc.out _ _ (fun h => absurd (by decide) h) ?_
          clear hKc Kc
          generalize hWx : W5.setCell ⟨w.heap.size + 1 + 1 + 1 + 1 + 1, 0, none⟩ (.slice (some ⟨g, 0, none⟩) (pre.length + 1) cap) = Wx
          have hkx : Wx.heap[w.heap.size + 1 + 1 + 1 + 1 + 1]? = some (.cells #[.slice (some ⟨g, 0, none⟩) (pre.length + 1) cap] 24 (0, 0)) := by
            rw [← hWx]
            exact blk_set HKB5.out _
          have hgx : Wx.heap[g]? = some (.cells cur 26 (0, 0)) := by
            rw [← hWx]
            exact (Below.heap_setCell _ _ _ _ gne).trans HCUR.out
          have hox : ∀ b, b ≠ w.heap.size + 1 + 1 + 1 + 1 + 1 → Wx.heap[b]? = W5.heap[b]? := fun b hb => by
            rw [← hWx]
            exact Below.heap_setCell _ _ _ _ hb
          have hbx : Below w.heap.size W5 Wx := by
            rw [← hWx]
            exact (Below.refl _ W5).setCell (by dsimp only; omega) _
          have z0 := (cell_congr (a := ⟨g, pre.length * 3, none⟩) (hox g gne)).trans x0
          have z1 := (cell_congr (a := ⟨g, pre.length * 3 + 1, none⟩) (hox g gne)).trans x1
          have z2 := (cell_congr (a := ⟨g, pre.length * 3 + 2, none⟩) (hox g gne)).trans x2
          have zf : ∀ o, Wx.frozen? ⟨g, o, none⟩ = false := fun o => blk_free hgx
          have HX := hideP (And.intro hkx (And.intro hgx (And.intro hox hbx)))
          clear hWx hkx hgx hox hbx x0 x1 x2 xf y0 yf
          refine anyZ_one (i := 6) (by kernel_rfl) rfl (fun Kc hKc => ?_)
          go_simp
          refine hKc.out _ _ (fun h => absurd (by decide) h) ?_
          clear hKc Kc
          refine anyZ_done (by kernel_rfl) ?_ _
          obtain ⟨hkx, hgx, hox, hbx⟩ := HX.out
          exact HFIN.out _ (blk_set (blk_set (blk_set hgx _) _) _) ((Below.heap_setCell _ _ _ _ gne').trans ((Below.heap_setCell _ _ _ _ gne').trans ((Below.heap_setCell _ _ _ _ gne').trans hkx)))
            (fun b h1 h2 => (Below.heap_setCell _ _ _ _ h1).trans ((Below.heap_setCell _ _ _ _ h1).trans ((Below.heap_setCell _ _ _ _ h1).trans (hox b h2)))) (((hbx.setCell HG.out.1 _).setCell HG.out.1 _).setCell HG.out.1 _)
      · have hre' : ¬ (re : Int) = 0 := by omega
        obtain ⟨hRI1, hkb1, hKR1, hkp1, hpl, hworse, hnext, hlen, h40, hsz, hq, hKR, hkb, hsz1, hl'⟩ := HQ.out
        have hRI2 := (hRI1.moved HB2.out).moved ((Below.refl _ W2).alloc (Nat.le_refl _) (.cells #[.int .i64 kl, .slice ka kn kc, .slice ka' kn' kc'] 26))
        have HFIN : Hid (∀ V, V = ((((W2.alloc (.cells #[.int .i64 kl, .slice ka kn kc, .slice ka' kn' kc'] 26)).setCell ⟨w.heap.size + 1 + 1, 0, none⟩ (.int .i64 0)).setCell ⟨w.heap.size + 1 + 1, 1, none⟩ (.slice none 0 0)).setCell ⟨w.heap.size + 1 + 1, 2, none⟩ (.slice none 0 0)).setCell ⟨w.heap.size + 1 + 1 + 1, 0, none⟩ (.int .i64 re) →
            KeepsFrom W0.heap.size W1 V ∧ ∃ e, e ≠ 0 ∧ rdK (rd d bs') L = ([], e) ∧ RX w e V) := by
          rintro V rfl
          refine ⟨?_, re, hre, hworse (by first | rfl | trivial) hre, RX.of_sets hRI2.b2 hRI2.b3 hRI2.below⟩
          refine KeepsFrom.trans (Y := W2.alloc (.cells #[.int .i64 kl, .slice ka kn kc, .slice ka' kn' kc'] 26)) ⟨by have := HB2.out.size; simp; omega, fun b o _ ho _ => ?_⟩ ?_
          · refine (heap_old _ _ ?_).trans ((HB2.out.block b (lt_of_block ho)).trans ho)
            have := HB2.out.size
            have := lt_of_block ho
            omega
          · exact ((((KeepsOthers.setCell _ _ _).trans (KeepsOthers.setCell _ _ _)).trans (KeepsOthers.setCell _ _ _)).trans (KeepsOthers.setCell _ _ _)).from _
        have q2 := hRI2.b2
        have q3 := hRI2.b3
        have yf : ∀ o, (W2.alloc (.cells #[.int .i64 kl, .slice ka kn kc, .slice ka' kn' kc'] 26)).frozen? ⟨w.heap.size + 1 + 1, o, none⟩ = false := fun o => blk_free q2
        have zf : ∀ o, (W2.alloc (.cells #[.int .i64 kl, .slice ka kn kc, .slice ka' kn' kc'] 26)).frozen? ⟨w.heap.size + 1 + 1 + 1, o, none⟩ = false := fun o => blk_free q3
        obtain ⟨y0, y1, y2⟩ := cells3 q2
        have y3 := blk_cell q3 (o := 0) rfl
        clear hRI1 hkb1 hKR1 hkp1 hpl hworse hnext hlen h40 hsz hq hKR hkb hsz1 hl' hRI2 q2 q3 HQ
        gi_wp2
        exact ⟨(HFIN.out _ rfl).1, rfl, (HFIN.out _ rfl).2⟩
    · have hxe' : ¬ (xe : Int) = 0 := by omega
      have HFIN : Hid (∀ V, V = (((W1.setCell ⟨w.heap.size + 1 + 1, 0, none⟩ (.int .i64 0)).setCell ⟨w.heap.size + 1 + 1, 1, none⟩ (.slice none 0 0)).setCell ⟨w.heap.size + 1 + 1, 2, none⟩ (.slice none 0 0)).setCell ⟨w.heap.size + 1 + 1 + 1, 0, none⟩ (.int .i64 xe) →
          KeepsFrom W0.heap.size W1 V ∧ ∃ e, e ≠ 0 ∧ rdK (rd d bs') L = ([], e) ∧ RX w e V) := by
        rintro V rfl
        refine ⟨?_, xe, hxe, hbad hxe, RX.of_sets hRI1.b2 hRI1.b3 hRI1.below⟩
        exact ((((KeepsOthers.setCell _ _ _).trans (KeepsOthers.setCell _ _ _)).trans (KeepsOthers.setCell _ _ _)).trans (KeepsOthers.setCell _ _ _)).from _
      have q2 := hRI1.b2
      have q3 := hRI1.b3
      have yf : ∀ o, W1.frozen? ⟨w.heap.size + 1 + 1, o, none⟩ = false := fun o => blk_free q2
      have zf : ∀ o, W1.frozen? ⟨w.heap.size + 1 + 1 + 1, o, none⟩ = false := fun o => blk_free q3
      obtain ⟨y0, y1, y2⟩ := cells3 q2
      have y3 := blk_cell q3 (o := 0) rfl
      clear hRI1 hkb1 hKR1 hkp1 hpl hx hworse hnext hbad hlen h40 hsz hq hKR hkb IH hB b1 b4 hpb hlr1 hRI hlr hl' hl'W HR hsz1 q2 q3
      gi_wp2
      exact ⟨(HFIN.out _ rfl).1, rfl, (HFIN.out _ rfl).2⟩

end Go.Proofs.Ytigebmidfddbcaa
