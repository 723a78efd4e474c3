/-
  Dest: may one jump there?
-/
import Derived.Test.YtaeadndihchbnaaDoorGasTilesC08
namespace Go.Proofs.YtaeadndihchbnaaDoor
open Go.RowKit Go.Shelf

attribute [local go_sem] Oper.semAt_some

/-- How Dest stands, so many instructions seen. -/
structure DsI (w : World) (at_ : Int) (ao : Option Addr) (n c : Nat) (bs : Nat → Nat) (k : Nat) (V : World) : Prop where
  b0 : V.heap[w.heap.size]? = some (.cells #[.int .i64 at_] 3 (0, 0))
  b1 : V.heap[w.heap.size + 1]? = some (.cells #[.bool false] 4 (0, 0))
  ins : InsM (w.heap.size + 1 + 1) ao n c bs V
  seen : ∀ j, j < k → (posN bs n j : Int) < at_
  below : Below w.heap.size w V

theorem DsI.moved {w : World} {at_ : Int} {ao : Option Addr} {n c : Nat} {bs : Nat → Nat} {k : Nat} {V V' : World} (h : DsI w at_ ao n c bs k V) (hb : Below V.heap.size V V') : DsI w at_ ao n c bs k V' :=
  ⟨(hb.block _ (lt_of_block h.b0)).trans h.b0, (hb.block _ (lt_of_block h.b1)).trans h.b1, h.ins.moved hb, h.seen, h.below.trans (hb.mono h.below.size)⟩

theorem DsI.putObj {w : World} {at_ : Int} {ao : Option Addr} {n c : Nat} {bs : Nat → Nat} {k : Nat} {V : World} (h : DsI w at_ ao n c bs k V) {l : Nat} {o o' : Obj} (hlw : w.heap.size ≤ l) (hl : V.heap[l]? = some o) (ho : o.isCells = false) : DsI w at_ ao n c bs k (V.putObj l o') :=
  ⟨putObj_cells hl ho h.b0 rfl, putObj_cells hl ho h.b1 rfl, h.ins.putObj hl ho, h.seen, h.below.trans (below_putObj _ hlw)⟩

structure DsX (w : World) (b : Bool) (V : World) : Prop where
  b1 : V.heap[w.heap.size + 1]? = some (.cells #[.bool b] 4 (0, 0))
  below : Below w.heap.size w V

theorem DsX.moved {w : World} {b : Bool} {V V' : World} (h : DsX w b V) (hb : Below V.heap.size V V') : DsX w b V' :=
  ⟨(hb.block _ (lt_of_block h.b1)).trans h.b1, h.below.trans (hb.mono h.below.size)⟩

theorem DsX.putObj {w : World} {b : Bool} {V : World} (h : DsX w b V) {l : Nat} {o o' : Obj} (hlw : w.heap.size ≤ l) (hl : V.heap[l]? = some o) (ho : o.isCells = false) : DsX w b (V.putObj l o') :=
  ⟨putObj_cells hl ho h.b1 rfl, h.below.trans (below_putObj _ hlw)⟩

set_option maxHeartbeats 4000000 in
set_option maxRecDepth 100000 in
theorem dest_any {ao : Option Addr} {n c : Nat} {bs : Nat → Nat} (at_ : Int) (w : World) (hB : BS w ao n c bs) (hn : n ≤ 140737488355328) :
    Calls Tryd.prog 48 #[.slice ao n c, .int .i64 at_] w fun e w' => e = .returned (.bool (destB bs n at_)) ∧ Below w.heap.size w w' := by
  have HB := hideP hB
  have HN := hideP hn
  clear hB hn
  refine (callsIn_wide (n := 6)).1 ?_
  refine callsIn_of_wp_marks Tryd.func48 rfl trivial ?_ rfl
  simp only [Tryd.ntmps48, List.size_toArray, List.length_cons, List.length_nil, Nat.reduceAdd, Nat.reduceSub, Array.replicate_succ, Array.replicate_zero, List.push_toArray, List.append_toArray, List.nil_append, List.cons_append]
  gi_wp2
  refine ⟨trivial, (callsIn_wide.2 (instructions_any _ _ _ _)).mono ?_⟩
  rintro e w' ⟨rfl, rfl⟩
  gi_wp2
  generalize hW0 : ((w.alloc (.cells #[.int .i64 at_] 3)).alloc (.cells #[.bool false] 4)).alloc (.cells #[.slice ao n c] 38) = W0
  obtain ⟨b0, b1, b2, hbW⟩ := box3 hW0.symm
  have hsz : W0.heap.size = w.heap.size + 3 := by rw [← hW0]; simp
  have e2 : (w.alloc (.cells #[.int .i64 at_] 3)).heap.size + 1 = w.heap.size + 1 + 1 := by simp
  clear hW0
  have hI0 : DsI w at_ ao n c bs 0 W0 := ⟨b0, b1, ⟨blk_cell b2 rfl, HB.out.moved hbW⟩, fun j h => absurd h (by omega), hbW⟩
  have hgive := ins_gives (6 - 1) (by omega) W0 HN.out hI0.ins
  refine range_seq (n := 6) (by omega) rfl (enters_of Tryd.func91 (by kernel_rfl) rfl) (insV (insL bs n)) (insL bs n).length (fun _ => rfl) _ hgive
    (DsI w at_ ao n c bs) (fun cd V => cd = .ret ∧ DsX w (destB bs n at_) V)
    (fun q V V' h hb => h.moved hb) (fun cd V V' h hb => ⟨h.1, h.2.moved hb⟩)
    (fun q V l' o o' h hl h1 h2 => h.putObj (by omega) h1 h2) (fun cd V l' o o' h hl h1 h2 => ⟨h.1, h.2.putObj (by omega) h1 h2⟩)
    (fun V V' l' o o' h hl h1 h2 hi => (h hi).putObj h1 h2) hI0 ?round ?done ?stop
  case stop =>
    rintro D cd W hD ⟨rfl, hx⟩ hdef
    have hx' : DsX w (destB bs n at_) (W.putObj D (.deferred none)) := hx.putObj (by omega) hdef rfl
    have y := blk_cell hx'.b1 (o := 0) rfl
    have HX := hideP hx'
    have HDF := hideP hdef
    clear hx hx' hdef hI0 hgive b0 b1 b2 hbW
    gi_wp2
    refine ⟨by simp, .inl ⟨_, _, rfl, run_takeDeferred HDF.out, ?_⟩⟩
    exact ⟨.bool (destB bs n at_), by simp [results, Tryd.results48, go_sem, y], rfl, HX.out.below⟩
  case done =>
    rintro D W hD hI hdef
    have HD0 := hideP (dest_none hI.seen)
    have yf : W.frozen? ⟨w.heap.size + 1, 0, none⟩ = false := blk_free hI.b1
    have y0 := blk_cell hI.b1 (o := 0) rfl
    have hx : DsX w false (W.setCell ⟨w.heap.size + 1, 0, none⟩ (.bool false)) := ⟨blk_set hI.b1 _, hI.below.setCell (by dsimp only; omega) _⟩
    have hdef' : (W.setCell ⟨w.heap.size + 1, 0, none⟩ (.bool false)).heap[D]? = some (.deferred (some [])) := (Below.heap_setCell _ _ _ _ (by dsimp only; omega)).trans hdef
    have hx' : DsX w false ((W.setCell ⟨w.heap.size + 1, 0, none⟩ (.bool false)).putObj D (.deferred none)) := hx.putObj (by omega) hdef' rfl
    have y := blk_cell hx'.b1 (o := 0) rfl
    have HX := hideP hx'
    have HDF := hideP hdef'
    clear hx hx' hdef hdef' hI0 hgive b0 b1 b2 hbW hI
    gi_wp2
    refine ⟨by simp, .inl ⟨_, _, rfl, run_takeDeferred HDF.out, ?_⟩⟩
    exact ⟨.bool false, by simp [results, Tryd.results48, go_sem, y], by rw [HD0.out], HX.out.below⟩
  case round =>
    rintro l' q W hq hI hl' ⟨rr, hlr⟩
    rw [insV_at hq]
    have HALL := hideP (And.intro hI (And.intro hlr (And.intro hl' (And.intro hq hsz))))
    clear hI0 hgive b0 b1 b2 hbW hI hlr hl' hq hsz
    gi_wp2
    refine ⟨(KeepsFrom.refl _ _), fun r => ?_⟩
    obtain ⟨hI, hlr, hl', hq, hsz⟩ := HALL.out
    have hI1 := hI.putObj (o' := .loop r) (by omega) hlr rfl
    have hKp : KpI (w.heap.size + 1 + 1) ao n c bs W (W.putObj l' (.loop r)) := fun h => h.putObj hlr rfl
    generalize W.putObj l' (.loop r) = W1 at *
    have c0 := blk_cell hI1.b0 (o := 0) rfl
    by_cases h : at_ ≤ (posN bs n q : Int)
    · have hd := dest_first hq hI1.seen h
      have yf : W1.frozen? ⟨w.heap.size + 1, 0, none⟩ = false := blk_free hI1.b1
      have y0 := blk_cell hI1.b1 (o := 0) rfl
      have hx : ∀ b, DsX w b (W1.setCell ⟨w.heap.size + 1, 0, none⟩ (.bool b)) := fun b => ⟨blk_set hI1.b1 _, hI1.below.setCell (by dsimp only; omega) _⟩
      have hkf : ∀ b, KeepsFrom W0.heap.size W1 (W1.setCell ⟨w.heap.size + 1, 0, none⟩ (.bool b)) := fun b => (KeepsOthers.setCell _ _ _).from _
      have HX := hideP hx
      have HKF := hideP hkf
      have HDD := hideP hd
      clear hx hkf hd hI hlr hl' hq hsz hI1 HALL hKp
      by_cases h2 : (posN bs n q : Int) = at_
      · have HDE : Hid (destB bs n at_ = (bs (posN bs n q) == 91)) := by show _ = _; rw [HDD.out, h2]; simp
        have e5 : ((bs (posN bs n q) : Int) == 91) = (bs (posN bs n q) == 91) := by rw [Bool.eq_iff_iff]; simp; omega
        generalize bs (posN bs n q) = o at *
        clear HDD
        rw [h2]
        clear h2 h
        have g1 : at_ ≥ at_ := Int.le_refl _
        gi_wp2
        exact ⟨HKF.out _, rfl, by rw [HDE.out]; exact HX.out _⟩
      · have HDE : Hid (destB bs n at_ = false) := by show _ = _; rw [HDD.out]; simp [h2]
        generalize posN bs n q = p at *
        clear HDD
        gi_wp2
        exact ⟨HKF.out _, rfl, by rw [HDE.out]; exact HX.out _⟩
    · have g : ¬ (posN bs n q : Int) ≥ at_ := h
      have hn : DsI w at_ ao n c bs (q + 1) W1 := ⟨hI1.b0, hI1.b1, hI1.ins, fun j hj => by
        by_cases e : j = q
        · subst e; omega
        · exact hI1.seen j (by omega), hI1.below⟩
      have HF := hideP (And.intro hKp hn)
      clear hI hlr hl' hq hsz hI1 HALL hKp hn
      gi_wp2
      exact ⟨KeepsFrom.refl _ _, HF.out.1, HF.out.2⟩

end Go.Proofs.YtaeadndihchbnaaDoor
