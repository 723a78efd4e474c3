/-
  A group is made.
-/
import Derived.Test.YtppijhcfodccfaaGreatCurveNoneC38
import Derived.Test.YtppijhcfodccfaaGreatCurveNoneC10
import Derived.Test.YtppijhcfodccfaaGreatCurveNoneC02
import Derived.Test.YtppijhcfodccfaaGreatCurveNoneC03
import Derived.Test.YtppijhcfodccfaaGreatCurveNoneC04
import Derived.Test.YtppijhcfodccfaaGreatCurveNoneC18
import Derived.Test.YtppijhcfodccfaaGreatCurveNoneC23
namespace Go.Proofs.YtppijhcfodccfaaGreat.W6
open Go.RowKit Go.Shelf

set_option maxHeartbeats 2000000 in
set_option maxRecDepth 100000 in
theorem in_any {p m : Nat} {w : World} (hgood : Good w p m) (A : Nat) (hA1 : A < R) : Calls Tryz.prog 211 #[.pointer (some ⟨p, 0, none⟩), wv A] w fun e w' => e = .returned (wv (el m A)) ∧ Below w.heap.size w w' := by

  have hp := hgood.lt
  obtain ⟨f, hMF, hr⟩ := hgood.ex
  have HIS := hideP (fun w (hr : RingAt w p m f (el m 1) (el m R)) => isMade_good hr hMF)
  have HMF := hideP hMF
  have HR := hideP hr
  clear hr hMF hgood
  unfold wv
  unfold cs
  go_enter Tryz.func211, Tryz.ntmps211
  refine wp_seqH (fun K0 HK0 => ?_)
  go_wp2_with fail
  refine HK0.out _ _ ?_
  clear HK0 K0
  refine at_world (fun W0 hW0 => ?_)
  have hA : W0.heap[w.heap.size]? = some (.cells (cs (limb A)) 28 (0, 0)) := by
    rw [hW0]
    exact ((heap_old _ _ (by simp <;> omega)).trans (heap_new _ _))
  have hD : W0.heap[w.heap.size + 1]? = some (.cells (cs (fun _ => 0)) 28 (0, 0)) := by
    rw [hW0]
    exact heap_new1 _ _ _ 
  have HBW : Hid (Below w.heap.size w W0) := by
    show Below _ _ _
    rw [hW0]
    repeat first | exact Below.refl _ _ | (refine Below.alloc ?_ (by simp <;> omega) _)
  clear hW0
  have HR0 := hideP (HR.out.belowN hp HBW.out)
  have HA := hideP hA
  have HD := hideP hD
  clear HR hA hD
  have nP : p ≠ w.heap.size + 1 := by omega
  have nA : w.heap.size ≠ w.heap.size + 1 := by omega
  have nR : w.heap.size ≤ w.heap.size + 1 := by omega
  generalize hRR : w.heap.size + 1 = R0 at *
  refine wp_seqH (fun K1 HK1 => ?_)
  refine wp_seqH (fun K2 HK2 => ?_)
  go_wp2_with (go_at_call 242; refine (HIS.out _ HR0.out).mono ?_; rintro e w' ⟨rfl, rfl⟩)
  refine HK2.out _ _ ?_
  clear HK2 K2
  refine wp_cond_true rfl ?_
  refine wp_region_heldS (S := fun V => KP W0 R0 V) (by kernel_rfl) (KP.init HD.out) (fun hS => ?_)
  refine wpAnyH_takeL (i := 0) (v := ?_) rfl (by kernel_rfl) (by kernel_rfl) (by kernel_rfl) (fun _ _ _ h => h) (Or.inl ⟨by kernel_rfl, ?_⟩) hS ?_
  rotate_left
  · intro V hV
    go_simp
    (try with_reducible rfl)
  simp only [put_list, List.set_cons_succ, List.set_cons_zero]
  refine wpAnyH_takeL (i := 1) (v := .agg (cs (limb A))) rfl (by kernel_rfl) (by kernel_rfl) (by kernel_rfl) (fun _ _ _ h => h) (yieldsIf_load_mid (by kernel_rfl) 28 _ rfl (w.heap.size) (0) rfl (cs (limb A)).toList _ (fun V hV => rangeOf (hV.box HA.out nA)) under rfl (info _)) hS ?_
  simp only [put_list, List.set_cons_succ, List.set_cons_zero]
  refine wpAnyH_takeL (i := 2) (v := ?_) rfl (by kernel_rfl) (by kernel_rfl) (by kernel_rfl) (fun _ _ _ h => h) (Or.inl ⟨by kernel_rfl, ?_⟩) hS ?_
  rotate_left
  · intro V hV
    go_simp
    (try with_reducible rfl)
  simp only [put_list, List.set_cons_succ, List.set_cons_zero]
  refine wpAnyH_takeL (i := 3) (v := ?_) rfl (by kernel_rfl) (by kernel_rfl) (by kernel_rfl) (fun _ _ _ h => h) (Or.inl ⟨by kernel_rfl, ?_⟩) hS ?_
  rotate_left
  · intro V hV
    go_simp
    (try with_reducible rfl)
  simp only [put_list, List.set_cons_succ, List.set_cons_zero]
  refine wpAnyH_takeL (i := 4) (v := ?_) rfl (by kernel_rfl) (by kernel_rfl) (by kernel_rfl) (fun _ _ _ h => h) (Or.inl ⟨by kernel_rfl, ?_⟩) hS ?_
  rotate_left
  · intro V hV
    go_simp
    (try with_reducible rfl)
  simp only [put_list, List.set_cons_succ, List.set_cons_zero]
  refine wpAnyH_takeL (i := 5) (v := .agg (cs (limb (el m R)))) rfl (by kernel_rfl) (by kernel_rfl) (by kernel_rfl) (fun _ _ _ h => h) (yieldsIf_load_mid (by kernel_rfl) 28 _ rfl (p) (2 * 6 + 1) rfl (cs (limb (el m R))).toList _ (fun V hV => (hV.ring HR0.out nP).radix) under rfl (info _)) hS ?_
  simp only [put_list, List.set_cons_succ, List.set_cons_zero]
  have HC := hideP (mult_in HR0.out.drew HMF.out A hA1)
  unfold wv at HC
  refine wpAnyH_ready (rs := [6]) (by kernel_rfl) (by simp) (AllReadyH.cons rfl (fun K hK => ?_) AllReadyH.nil)
  go_simp
  refine HC.out.mono ?_
  rintro e w1 ⟨rfl, hbc⟩
  refine hK.out _ _ (hS.call hbc) (fun hS => ?_)
  clear hK K
  clear hbc
  refine wpAnyH_ready (rs := [7]) (by kernel_rfl) (by simp) (AllReadyH.cons rfl (fun K hK => ?_) AllReadyH.nil)
  refine ite_wp (by kernel_rfl) ?_
  refine wp_store_midN 28 (.tmp 4) (.tmp 13) rfl rfl (R0) 0 (cs (limb (el m A))) rfl rfl (hS.there _) (info _) (one _) ?_
  have g1 := hS.put ((limb (el m A)))
  have hS9 := hS.store ((limb (el m A)))
  clear hS
  generalize World.setCells _ (R0) 0 (cs (limb (el m A))).toList = w2 at g1 hS9 ⊢
  refine hK.out _ _ hS9 (fun hS => ?_)
  clear hK K hS9
  refine wpAnyH_done (by kernel_rfl) ?_ _
  (try simp only [put_none])
  refine HK1.out _ _ ?_
  refine endRowQ (fun _ _ h => h) rfl rfl rfl (by decide) (by show 14 < 15; decide) rfl under rfl (info _) (one _) (rangeOf g1) (there_cs g1 _) ?_
  intro wS hBut
  exact ⟨rfl, HBW.out.trans ((hS.below.mono nR).trans (hBut.below.mono nR))⟩

end Go.Proofs.YtppijhcfodccfaaGreat.W6

namespace Go.Proofs.YtppijhcfodccfaaGreat.W6
open Go.RowKit Go.Shelf

attribute [local go_sem] Oper.semAt_some

theorem KP.ofBut {W V V' : World} {R0 : Nat} (h : KP W R0 V) (hb : But R0 V V') (hg : ∃ g : Nat → Nat, V'.heap[R0]? = some (.cells (cs g) 28 (0, 0))) : KP W R0 V' :=
  ⟨fun b h1 h2 => (hb.same b h2).trans (h.same b h1 h2), h.below.trans hb.below, hg⟩

theorem below_putObj {B l : Nat} {W V : World} {o : Obj} (h : Below B W V) (hl : B ≤ l) : Below B W (V.putObj l o) :=
  ⟨h.os, h.tape, h.output, by rw [show (V.putObj l o).heap.size = V.heap.size by simp [World.putObj]]; exact h.size, fun k hk => (World.putObj_heap_other (by omega)).trans (h.block k hk)⟩

theorem KP.putObj {W V : World} {R0 l : Nat} {o : Obj} (h : KP W R0 V) (hl : W.heap.size ≤ l) (hR : R0 < l) : KP W R0 (V.putObj l o) := by
  obtain ⟨g, hg⟩ := h.res
  exact ⟨fun b h1 h2 => (World.putObj_heap_other (by omega)).trans (h.same b h1 h2), below_putObj h.below (by omega), g, (World.putObj_heap_other (by omega)).trans hg⟩

end Go.Proofs.YtppijhcfodccfaaGreat.W6

namespace Go.Proofs.YtppijhcfodccfaaGreat.P6
open Go.RowKit Go.Shelf

abbrev K := Nat

/-- The cells of an element. -/
noncomputable def ev (m : Nat) (x : K) : Array Value := Classical.choose (⟨_, rfl⟩ : ∃ C : Array Value, C = W6.cs (limb (W6.el m x)))

theorem ev_eq (m : Nat) (x : K) : ev m x = W6.cs (limb (W6.el m x)) := Classical.choose_spec (⟨_, rfl⟩ : ∃ C : Array Value, C = W6.cs (limb (W6.el m x)))

/-- The cells of a number. -/
noncomputable def nv (A : K) : Array Value := Classical.choose (⟨_, rfl⟩ : ∃ C : Array Value, C = W6.cs (limb A))

theorem nv_eq (A : K) : nv A = W6.cs (limb A) := Classical.choose_spec (⟨_, rfl⟩ : ∃ C : Array Value, C = W6.cs (limb A))

/-- A number that fits. -/
def Fits (A : K) : Prop := A < W6.R

theorem ev_size (m : Nat) (x : K) : (ev m x).size = 6 := by rw [ev_eq]; rfl

theorem nv_size (A : K) : (nv A).size = 6 := by rw [nv_eq]; rfl

theorem ev_one (m : Nat) (x : K) : (ev m x).all (·.oneCell') = true := by rw [ev_eq]; exact W6.one _

theorem nv_one (A : K) : (nv A).all (·.oneCell') = true := by rw [nv_eq]; exact W6.one _

/-- The field as an interface's value, and as a method's receiver. -/
def ifv (p : Nat) : Value := .iface 137 (.pointer (some ⟨p, 0, none⟩))

def rcv (p : Nat) : Value := .pointer (some ⟨p, 0, none⟩)

abbrev FOK (w : World) (p m : Nat) : Prop := W6.Good w p m

theorem _root_.Go.Proofs.YtppijhcfodccfaaGreat.W6.Good.of_same {w w' : World} {p m : Nat} (h : W6.Good w p m) (hp : w'.heap[p]? = w.heap[p]?) : W6.Good w' p m := by
  obtain ⟨f, h1, h2⟩ := h.ex
  exact ⟨f, h1, ⟨hp.trans h2.heap⟩⟩

def k0 : K := 0

def k1 : K := 1

section
variable (p : Nat) (a b : Value) (w : World)
set_option maxRecDepth 100000
theorem cm_In : (callMethod (ifv p) "In" #[a]).run Tryz.prog w = .ok (.enter 211 #[rcv p, a]) w := by kernel_rfl

end

section
variable {w : World} {p m : Nat} (hg : FOK w p m) (x y : K)
include hg
theorem c_In (hx : Fits x) : Calls Tryz.prog 211 #[rcv p, .agg (nv x)] w fun e w' => e = .returned (.agg (ev m x)) ∧ Below w.heap.size w w' := by
  simp only [ev_eq, nv_eq]
  exact W6.in_any hg x hx

end

theorem k0_fits : Fits k0 := Nat.pos_of_ne_zero (by decide +kernel)

end Go.Proofs.YtppijhcfodccfaaGreat.P6

namespace Go.Proofs.YtppijhcfodccfaaGreat.P6
open Go.RowKit Go.Shelf

theorem underE : Tryz.prog.underlying 28 = some (.array 6 27) := by kernel_rfl

theorem infoE {C : Array Value} (h : C.size = 6) : (Tryz.prog.info? 28).map (·.size) = some C.size := by rw [h]; kernel_rfl

/-- A group in memory: its field, 0, 1 and b. -/
structure GAt (w : World) (g p m : Nat) (b : K) : Prop where
  fld : w.cell? ⟨g, 0, none⟩ = some (ifv p)
  zero : w.rangeAt g 1 (ev m k0).toList
  one : w.rangeAt g (1 + 6) (ev m k1).toList
  b : w.rangeAt g (1 + 2 * 6) (ev m b).toList
  ok : FOK w p m
  glt : g < w.heap.size
  plt : p < w.heap.size

theorem range_congr {w w' : World} {g o : Nat} {l : List Value} (h : w'.heap[g]? = w.heap[g]?) (hr : w.rangeAt g o l) : w'.rangeAt g o l := fun j v hv => by
  have := hr j v hv
  unfold World.cell? at this ⊢
  rw [h]
  exact this

theorem GAt.same {w w' : World} {g p m : Nat} {b : K} (h : GAt w g p m b) (hg : w'.heap[g]? = w.heap[g]?) (hp : w'.heap[p]? = w.heap[p]?) (hs : w.heap.size ≤ w'.heap.size) : GAt w' g p m b :=
  ⟨by have := h.fld; unfold World.cell? at this ⊢; rw [hg]; exact this, range_congr hg h.zero, range_congr hg h.one, range_congr hg h.b, h.ok.of_same hp, Nat.lt_of_lt_of_le h.glt hs, Nat.lt_of_lt_of_le h.plt hs⟩

theorem GAt.below {w w' : World} {g p m : Nat} {b : K} (h : GAt w g p m b) (hb : Below w.heap.size w w') : GAt w' g p m b := h.same (hb.block _ h.glt) (hb.block _ h.plt) hb.size

theorem GAt.kq {W V : World} {R0 n ty g p m : Nat} {b : K} (h : GAt W g p m b) (hS : KQ W R0 n ty V) (h1 : g ≠ R0) (h2 : p ≠ R0) : GAt V g p m b := h.same (hS.same _ h.glt h1) (hS.same _ h.plt h2) hS.size

end Go.Proofs.YtppijhcfodccfaaGreat.P6

namespace Go.Proofs.YtppijhcfodccfaaGreat.P6
open Go.RowKit Go.Shelf

def zn : Array Value := Array.replicate 6 (.int .u64 0)

theorem zn_size : zn.size = 6 := rfl

noncomputable def pt (x y : K) (i : Bool) : Array Value := Classical.choose (⟨_, rfl⟩ : ∃ C : Array Value, C = nv x ++ (nv y ++ #[.bool i]))

theorem pt_eq (x y : K) (i : Bool) : pt x y i = nv x ++ (nv y ++ #[.bool i]) := Classical.choose_spec (⟨_, rfl⟩ : ∃ C : Array Value, C = nv x ++ (nv y ++ #[.bool i]))

theorem pt_size (x y : K) (i : Bool) : (pt x y i).size = 2 * 6 + 1 := by rw [pt_eq, Array.size_append, Array.size_append, nv_size, nv_size]; rfl

theorem all_append' {A B : Array Value} (h1 : A.all (·.oneCell') = true) (h2 : B.all (·.oneCell') = true) : (A ++ B).all (·.oneCell') = true := by
  rw [Array.all_append, h1, h2]; rfl

theorem pt_one (x y : K) (i : Bool) : (pt x y i).all (·.oneCell') = true := by
  rw [pt_eq]
  exact all_append' (nv_one _) (all_append' (nv_one _) (by simp [Value.oneCell']))

theorem underPt : Tryz.prog.underlying 144 = some (.struct (fsOf (Tryz.prog.underlying 144))) := by kernel_rfl

theorem infoPt {C : Array Value} (h : C.size = 2 * 6 + 1) : (Tryz.prog.info? 144).map (·.size) = some C.size := by rw [h]; kernel_rfl


theorem build_pt {X Y : Array Value} (hX : X.size = 6) (hY : Y.size = 6) (w : World) : (Instr.build 144 #[(0, .agg X), (1, .agg Y)]).run Tryz.prog w = .ok (.agg (X ++ (Y ++ #[.bool false]))) w := by
  refine build_struct (fs := fsOf (Tryz.prog.underlying 144)) (z := #[] ++ (zn ++ (zn ++ #[.bool false]))) (places := #[(0, 6), (6, 6), (2 * 6, 1)]) (by kernel_rfl) (by kernel_rfl) (by kernel_rfl) ?_
  rw [fill_cons (X := X) rfl (off := 0) (size := 6) rfl hX rfl zn_size, Array.empty_append]
  rw [fill_cons (X := Y) rfl (off := 6) (size := 6) rfl hY hX zn_size]
  rfl

theorem bd_pt (x y : K) (w : World) : (Instr.build 144 #[(0, .agg (nv x)), (1, .agg (nv y))]).run Tryz.prog w = .ok (.agg (pt x y false)) w := by
  rw [pt_eq]
  exact build_pt (nv_size _) (nv_size _) w

theorem nv_zero : nv k0 = zn := by rw [nv_eq]; rfl

end Go.Proofs.YtppijhcfodccfaaGreat.P6

namespace Go.Proofs.YtppijhcfodccfaaGreat.P6
open Go.RowKit Go.Shelf

attribute [local go_sem] Oper.semAt_some

theorem below_putObj {B l : Nat} {W V : World} {o : Obj} (h : Below B W V) (hl : B ≤ l) : Below B W (V.putObj l o) :=
  ⟨h.os, h.tape, h.output, by rw [show (V.putObj l o).heap.size = V.heap.size by simp [World.putObj]]; exact h.size, fun k hk => (World.putObj_heap_other (by omega)).trans (h.block k hk)⟩

theorem KQ.putObj {W V : World} {R0 n ty l : Nat} {o : Obj} (h : KQ W R0 n ty V) (hl : W.heap.size ≤ l) (hR : R0 < l) : KQ W R0 n ty (V.putObj l o) := by
  obtain ⟨g, hg, hn⟩ := h.res
  exact ⟨fun b h1 h2 => (World.putObj_heap_other (by omega)).trans (h.same b h1 h2), below_putObj h.below (by omega), g, (World.putObj_heap_other (by omega)).trans hg, hn⟩

end Go.Proofs.YtppijhcfodccfaaGreat.P6

namespace Go.Proofs.YtppijhcfodccfaaGreat.P6
open Go.RowKit Go.Shelf

/-- A group's base and order. -/
structure GB (w : World) (g : Nat) (x y : K) (k : Nat) : Prop where
  base : w.rangeAt g (1 + 3 * 6) (pt x y false).toList
  ord : w.rangeAt g (2 + 5 * 6) (W4.cs (limb k)).toList
  lt : g < w.heap.size

theorem GB.below {w w' : World} {g k : Nat} {x y : K} (h : GB w g x y k) (hb : Below w.heap.size w w') : GB w' g x y k :=
  ⟨range_congr (hb.block _ h.lt) h.base, range_congr (hb.block _ h.lt) h.ord, Nat.lt_of_lt_of_le h.lt hb.size⟩

theorem GB.kq {W V : World} {R0 n ty g k : Nat} {x y : K} (h : GB W g x y k) (hS : KQ W R0 n ty V) (h1 : g ≠ R0) : GB V g x y k :=
  ⟨range_congr (hS.same _ h.lt h1) h.base, range_congr (hS.same _ h.lt h1) h.ord, Nat.lt_of_lt_of_le h.lt hS.size⟩

end Go.Proofs.YtppijhcfodccfaaGreat.P6

namespace Go.Proofs.YtppijhcfodccfaaGreat.P6
open Go.RowKit Go.Shelf

/-- A curve in memory: one of its groups. -/
structure CAt (w : World) (c g p m : Nat) (b bx bY : K) (k : Nat) : Prop where
  at_ : w.cell? ⟨c, 1, none⟩ = some (.pointer (some ⟨g, 0, none⟩))
  ga : GAt w g p m b
  gb : GB w g bx bY k
  clt : c < w.heap.size

theorem CAt.below {w w' : World} {c g p m : Nat} {b bx bY : K} {k : Nat} (h : CAt w c g p m b bx bY k) (hb : Below w.heap.size w w') : CAt w' c g p m b bx bY k :=
  ⟨(hb.cell (p := ⟨c, 1, none⟩) h.clt).trans h.at_, h.ga.below hb, h.gb.below hb, Nat.lt_of_lt_of_le h.clt hb.size⟩

theorem CAt.kq {W V : World} {R0 n ty c g p m : Nat} {b bx bY : K} {k : Nat} (h : CAt W c g p m b bx bY k) (hS : KQ W R0 n ty V) (h0 : c ≠ R0) (h1 : g ≠ R0) (h2 : p ≠ R0) : CAt V c g p m b bx bY k :=
  ⟨(World.cell?_of_block (w := W) (a := ⟨c, 1, none⟩) (hS.same _ h.clt h0)).trans h.at_, h.ga.kq hS h1 h2, h.gb.kq hS h1, Nat.lt_of_lt_of_le h.clt hS.size⟩

theorem wp_buildD {P : Program} {op : Oper} {l : List Value} {ds : List Deferred} {w : World} {K : Act → World → Prop} {Q : Exit → Act → World → Prop} (t : TypeId) (ps : Array (Nat × Operand)) (vs : Array (Nat × Value)) (d : Nat) (ho : op.op = .build t ps) (hd : op.dst = some d)
    (hps : ps.map (fun x => (x.1, Act.eval { tmps := l.toArray, defers := ds } x.2)) = vs) {v : Value} (hb : (Instr.build t vs).run P w = .ok v w) (h : K { tmps := (l.set d v).toArray, defers := ds } w) : op.wp P { tmps := l.toArray, defers := ds } w K Q := by
  unfold Oper.wp execOp
  simp only [ho, hps, hb, Sem.run_bind, Sem.run_pure, Result.andThen]
  show K _ _
  rw [hd, put_list]
  exact h

end Go.Proofs.YtppijhcfodccfaaGreat.P6

namespace Go.Proofs.YtppijhcfodccfaaGreat.P6
open Go.RowKit Go.Shelf

/-- The field that a group stands on. -/
structure FAt (w : World) (p m : Nat) : Prop where
  ok : FOK w p m
  plt : p < w.heap.size

theorem FAt.below {w w' : World} {p m : Nat} (h : FAt w p m) (hb : Below w.heap.size w w') : FAt w' p m := ⟨h.ok.of_same (hb.block _ h.plt), Nat.lt_of_lt_of_le h.plt hb.size⟩

noncomputable def te (o b x y : K) (k : Nat) : Array Value := Classical.choose (⟨_, rfl⟩ : ∃ C : Array Value, C = nv o ++ (nv b ++ (pt x y false ++ W4.cs (limb k))))

theorem te_eq (o b x y : K) (k : Nat) : te o b x y k = nv o ++ (nv b ++ (pt x y false ++ W4.cs (limb k))) := Classical.choose_spec (⟨_, rfl⟩ : ∃ C : Array Value, C = nv o ++ (nv b ++ (pt x y false ++ W4.cs (limb k))))

noncomputable def gc (m p : Nat) (b x y : K) (k : Nat) : Array Value := Classical.choose (⟨_, rfl⟩ : ∃ C : Array Value, C = #[ifv p] ++ (ev m k0 ++ (ev m k1 ++ (ev m b ++ (pt x y false ++ W4.cs (limb k))))))

theorem gc_eq (m p : Nat) (b x y : K) (k : Nat) : gc m p b x y k = #[ifv p] ++ (ev m k0 ++ (ev m k1 ++ (ev m b ++ (pt x y false ++ W4.cs (limb k))))) := Classical.choose_spec (⟨_, rfl⟩ : ∃ C : Array Value, C = #[ifv p] ++ (ev m k0 ++ (ev m k1 ++ (ev m b ++ (pt x y false ++ W4.cs (limb k))))))

theorem underTe : Tryz.prog.underlying 146 = some (.struct (fsOf (Tryz.prog.underlying 146))) := by kernel_rfl

theorem te_size (o b x y : K) (k : Nat) : (te o b x y k).size = 4 * 6 + 5 := by
  rw [te_eq, Array.size_append, Array.size_append, Array.size_append, nv_size, nv_size, pt_size, W4.cs_size]

theorem te_one (o b x y : K) (k : Nat) : (te o b x y k).all (·.oneCell') = true := by
  rw [te_eq]
  exact all_append' (nv_one _) (all_append' (nv_one _) (all_append' (pt_one _ _ _) (W4.one _)))

theorem infoTe {C : Array Value} (h : C.size = 4 * 6 + 5) : (Tryz.prog.info? 146).map (·.size) = some C.size := by rw [h]; kernel_rfl

section
variable {w : World} {B t k : Nat} {o b x y : K}
theorem te_o (h : w.heap[B]? = some (.cells (te o b x y k) t (0, 0))) : w.rangeAt B 0 (nv o).toList := by
  refine range_mid (A := #[]) (C := nv b ++ (pt x y false ++ W4.cs (limb k))) (t := t) ?_ rfl
  rw [h, te_eq, Array.empty_append]

theorem te_b (h : w.heap[B]? = some (.cells (te o b x y k) t (0, 0))) : w.rangeAt B 6 (nv b).toList := by
  refine range_mid (A := nv o) (C := pt x y false ++ W4.cs (limb k)) (t := t) ?_ (nv_size _)
  rw [h, te_eq]

theorem te_p (h : w.heap[B]? = some (.cells (te o b x y k) t (0, 0))) : w.rangeAt B (2 * 6) (pt x y false).toList := by
  refine range_mid (A := nv o ++ nv b) (C := W4.cs (limb k)) (t := t) ?_ (by rw [Array.size_append, nv_size, nv_size])
  rw [h, te_eq, Array.append_assoc]

theorem te_k (h : w.heap[B]? = some (.cells (te o b x y k) t (0, 0))) : w.rangeAt B (4 * 6 + 1) (W4.cs (limb k)).toList := by
  refine range_mid (A := nv o ++ (nv b ++ pt x y false)) (C := #[]) (t := t) ?_ (by rw [Array.size_append, Array.size_append, nv_size, nv_size, pt_size])
  rw [h, te_eq, Array.append_empty, Array.append_assoc, Array.append_assoc]

end

/-- A group that was just made. -/
theorem made {w : World} {g p m k : Nat} {b x y : K} (h : w.heap[g]? = some (.cells (gc m p b x y k) 253 (0, 0))) (hp : FAt w p m) : GAt w g p m b ∧ GB w g x y k := by
  have hg := lt_of_block h
  rw [gc_eq] at h
  have s1 : (#[ifv p] : Array Value).size = 1 := rfl
  have h0 := range_mid (A := #[]) (B := #[ifv p]) (o := 0) (by rw [Array.empty_append]; exact h) rfl
  have h1 := range_mid (A := #[ifv p]) (B := ev m k0) (o := 1) h rfl
  have h2 := range_mid (A := #[ifv p] ++ ev m k0) (B := ev m k1) (C := ev m b ++ (pt x y false ++ W4.cs (limb k))) (o := 1 + 6) (by rw [Array.append_assoc]; exact h) (by rw [Array.size_append, ev_size, s1])
  have h3 := range_mid (A := #[ifv p] ++ (ev m k0 ++ ev m k1)) (B := ev m b) (C := pt x y false ++ W4.cs (limb k)) (o := 1 + 2 * 6) (by rw [Array.append_assoc, Array.append_assoc]; exact h) (by rw [Array.size_append, Array.size_append, ev_size, ev_size, s1])
  have h4 := range_mid (A := #[ifv p] ++ (ev m k0 ++ (ev m k1 ++ ev m b))) (B := pt x y false) (C := W4.cs (limb k)) (o := 1 + 3 * 6) (by rw [Array.append_assoc, Array.append_assoc, Array.append_assoc]; exact h) (by rw [Array.size_append, Array.size_append, Array.size_append, ev_size, ev_size, ev_size, s1])
  have h5 := range_mid (A := #[ifv p] ++ (ev m k0 ++ (ev m k1 ++ (ev m b ++ pt x y false)))) (B := W4.cs (limb k)) (C := #[]) (o := 2 + 5 * 6) (by rw [Array.append_empty, Array.append_assoc, Array.append_assoc, Array.append_assoc, Array.append_assoc]; exact h) (by rw [Array.size_append, Array.size_append, Array.size_append, Array.size_append, ev_size, ev_size, ev_size, pt_size, s1])
  exact ⟨⟨h0 0 _ rfl, h1, h2, h3, hp.ok, hg, hp.plt⟩, ⟨h4, h5, hg⟩⟩

theorem build_gc {A B C D E : Array Value} (hA : A.size = 6) (hB : B.size = 6) (hC : C.size = 6) (hD : D.size = 2 * 6 + 1) (hE : E.size = 4) (p : Nat) (w : World) :
    (Instr.build 253 #[(0, ifv p), (1, .agg A), (2, .agg B), (3, .agg C), (4, .agg D), (5, .agg E)]).run Tryz.prog w = .ok (.agg (#[ifv p] ++ (A ++ (B ++ (C ++ (D ++ E)))))) w := by
  refine build_struct (fs := fsOf (Tryz.prog.underlying 253)) (z := #[] ++ (#[.nilIface] ++ (zn ++ (zn ++ (zn ++ ((zn ++ zn ++ #[.bool false]) ++ Array.replicate 4 (.int .u64 0))))))) (places := #[(0, 1), (1, 6), (1 + 6, 6), (1 + 2 * 6, 6), (1 + 3 * 6, 2 * 6 + 1), (2 + 5 * 6, 4)]) (by kernel_rfl) (by kernel_rfl) (by kernel_rfl) ?_
  have s1 : (#[ifv p] : Array Value).size = 1 := rfl
  have sd : (zn ++ zn ++ #[Value.bool false]).size = 2 * 6 + 1 := rfl
  rw [fill_cons (X := #[ifv p]) rfl (off := 0) (size := 1) rfl rfl rfl rfl, Array.empty_append]
  rw [fill_cons (X := A) rfl (off := 1) (size := 6) rfl hA rfl zn_size]
  rw [← Array.append_assoc (xs := #[ifv p]), fill_cons (X := B) rfl (off := 1 + 6) (size := 6) rfl hB (by rw [Array.size_append, hA, s1]) zn_size]
  rw [← Array.append_assoc (xs := #[ifv p] ++ A), fill_cons (X := C) rfl (off := 1 + 2 * 6) (size := 6) rfl hC (by rw [Array.size_append, Array.size_append, hA, hB, s1]) zn_size]
  rw [← Array.append_assoc (xs := #[ifv p] ++ A ++ B), fill_cons (X := D) rfl (off := 1 + 3 * 6) (size := 2 * 6 + 1) rfl hD (by rw [Array.size_append, Array.size_append, Array.size_append, hA, hB, hC, s1]) sd]
  have e : #[ifv p] ++ A ++ B ++ C ++ (D ++ Array.replicate 4 (Value.int .u64 0)) = (#[ifv p] ++ A ++ B ++ C ++ D) ++ (Array.replicate 4 (.int .u64 0) ++ #[]) := by rw [Array.append_empty, ← Array.append_assoc]
  rw [e, fill_cons (X := E) rfl (off := 2 + 5 * 6) (size := 4) rfl hE (by rw [Array.size_append, Array.size_append, Array.size_append, Array.size_append, hA, hB, hC, hD, s1]) (by simp), Array.append_empty]
  simp only [Array.append_assoc]
  rfl

theorem bd_gc (m p : Nat) (b x y : K) (k : Nat) (w : World) : (Instr.build 253 #[(0, ifv p), (1, .agg (ev m k0)), (2, .agg (ev m k1)), (3, .agg (ev m b)), (4, .agg (pt x y false)), (5, .agg (W4.cs (limb k)))]).run Tryz.prog w = .ok (.agg (gc m p b x y k)) w := by
  rw [gc_eq]
  exact build_gc (ev_size _ _) (ev_size _ _) (ev_size _ _) (pt_size _ _ _) (W4.cs_size _) p w

theorem yields_buildN {P : Program} {ops : Array Oper} {S : World → Prop} {op : Oper} {a : Act} (hw : Region.wanted op (yielded ops a.tmps) = true) (t : TypeId) (ps : Array (Nat × Operand)) (vs : Array (Nat × Value)) (ho : op.op = .build t ps) (hps : ps.map (fun x => (x.1, a.eval x.2)) = vs) {v : Value} (hb : ∀ w, (Instr.build t vs).run P w = .ok v w) : YieldsIf P ops S op v a :=
  .inl ⟨hw, fun w _ => by
    unfold execOp
    simp only [ho, hps, hb, Sem.run_bind, Sem.run_pure, Result.andThen]⟩

end Go.Proofs.YtppijhcfodccfaaGreat.P6

namespace Go.Proofs.YtppijhcfodccfaaGreat.P6
open Go.RowKit Go.Shelf

theorem underW4 : Tryz.prog.underlying 32 = some (.array 4 27) := by kernel_rfl

theorem infoW4 {C : Array Value} (h : C.size = 4) : (Tryz.prog.info? 32).map (·.size) = some C.size := by rw [h]; kernel_rfl

theorem at_worldK9 {K : Act → World → Prop} {a : Act} {w : World} (h : ∀ W, W = w → K a W) : K a w := h w rfl

set_option maxHeartbeats 4000000 in
set_option maxRecDepth 100000 in
theorem newGroup_any {w : World} {p m : Nat} (hG : FAt w p m) (b bx bY : K) (k : Nat) (h1 : Fits k1) (hb : Fits b) : Calls Tryz.prog 79 #[ifv p, .agg (te k1 b bx bY k)] w fun e w' => (∃ g, e = .returned (.pointer (some ⟨g, 0, none⟩)) ∧ w.heap.size ≤ g ∧ GAt w' g p m b ∧ GB w' g bx bY k) ∧ Below w.heap.size w w' := by
  have hp := hG.plt
  have HG9 := hideP hG
  clear hG
  go_enter Tryz.func79, Tryz.ntmps79
  refine wp_seqH (fun K0 HK0 => ?_)
  go_wp2_with fail
  refine HK0.out _ _ ?_
  clear HK0 K0
  refine wp_seqH (fun K0 HK0 => ?_)
  go_wp2_with fail
  refine HK0.out _ _ ?_
  clear HK0 K0
  refine at_world (fun W0 hW0 => ?_)
  have hb0 : W0.heap[w.heap.size]? = some (.cells (te k1 b bx bY k) 146 (0, 0)) := by
    rw [hW0]
    exact ((heap_old _ _ (by simp <;> omega)).trans (heap_new _ _))
  have hb1 : W0.heap[w.heap.size + 1]? = some (.cells (nv k0) 28 (0, 0)) := by
    rw [hW0, nv_zero]
    exact heap_new1 _ _ _
  have hbw : Below w.heap.size w W0 := by
    rw [hW0]
    repeat first | exact Below.refl _ _ | (refine Below.alloc ?_ (by simp <;> omega) _)
  clear hW0
  have HG := hideP (HG9.out.below hbw)
  clear HG9
  have HBW := hideP hbw
  clear hbw
  generalize hN : w.heap.size = N at *
  clear hN
  generalize hB1 : N + 1 = B1 at *
  have o1 : N < B1 := by omega
  clear hB1
  have H0 := hideP hb0
  have H1 := hideP hb1
  clear hb0 hb1
  refine wp_seqH (fun K1 HK1 => ?_)
  refine wp_region_heldS (S := fun V => Below W0.heap.size W0 V) (by kernel_rfl) (Below.refl _ _).drew (fun hS => ?_)
  refine wpAnyH_takeL (i := 0) (v := ?_) rfl (by kernel_rfl) (by kernel_rfl) (by kernel_rfl) (fun _ _ _ h => h) (Or.inl ⟨by kernel_rfl, ?_⟩) hS ?_
  rotate_left
  · intro V hV
    go_simp
    (try with_reducible rfl)
  simp only [put_list, List.set_cons_succ, List.set_cons_zero]
  refine wpAnyH_takeL (i := 1) (v := ?_) rfl (by kernel_rfl) (by kernel_rfl) (by kernel_rfl) (fun _ _ _ h => h) (Or.inl ⟨by kernel_rfl, ?_⟩) hS ?_
  rotate_left
  · intro V hV
    go_simp
    (try with_reducible rfl)
  simp only [put_list, List.set_cons_succ, List.set_cons_zero]
  refine wpAnyH_takeL (i := 2) (v := .agg (nv (k0))) rfl (by kernel_rfl) (by kernel_rfl) (by kernel_rfl) (fun _ _ _ h => h) (yields_loadC (by kernel_rfl) 28 _ rfl (B1) (0) rfl (nv (k0)) _ (fun V hV => rangeOf ((hV.block _ (lt_of_block H1.out)).trans H1.out)) underE rfl (infoE (nv_size _))) hS ?_
  simp only [put_list, List.set_cons_succ, List.set_cons_zero]
  refine wpAnyH_takeL (i := 4) (v := ?_) rfl (by kernel_rfl) (by kernel_rfl) (by kernel_rfl) (fun _ _ _ h => h) (Or.inl ⟨by kernel_rfl, ?_⟩) hS ?_
  rotate_left
  · intro V hV
    go_simp
    (try with_reducible rfl)
  simp only [put_list, List.set_cons_succ, List.set_cons_zero]
  refine wpAnyH_takeL (i := 5) (v := ?_) rfl (by kernel_rfl) (by kernel_rfl) (by kernel_rfl) (fun _ _ _ h => h) (Or.inl ⟨by kernel_rfl, ?_⟩) hS ?_
  rotate_left
  · intro V hV
    go_simp
    (try with_reducible rfl)
  simp only [put_list, List.set_cons_succ, List.set_cons_zero]
  refine wpAnyH_takeL (i := 6) (v := .agg (nv (k1))) rfl (by kernel_rfl) (by kernel_rfl) (by kernel_rfl) (fun _ _ _ h => h) (yields_loadC (by kernel_rfl) 28 _ rfl (N) (0) rfl (nv (k1)) _ (fun V hV => te_o ((hV.block _ (lt_of_block H0.out)).trans H0.out)) underE rfl (infoE (nv_size _))) hS ?_
  simp only [put_list, List.set_cons_succ, List.set_cons_zero]
  refine wpAnyH_takeL (i := 8) (v := ?_) rfl (by kernel_rfl) (by kernel_rfl) (by kernel_rfl) (fun _ _ _ h => h) (Or.inl ⟨by kernel_rfl, ?_⟩) hS ?_
  rotate_left
  · intro V hV
    go_simp
    (try with_reducible rfl)
  simp only [put_list, List.set_cons_succ, List.set_cons_zero]
  refine wpAnyH_takeL (i := 9) (v := ?_) rfl (by kernel_rfl) (by kernel_rfl) (by kernel_rfl) (fun _ _ _ h => h) (Or.inl ⟨by kernel_rfl, ?_⟩) hS ?_
  rotate_left
  · intro V hV
    go_simp
    (try with_reducible rfl)
  simp only [put_list, List.set_cons_succ, List.set_cons_zero]
  refine wpAnyH_takeL (i := 10) (v := .agg (nv (b))) rfl (by kernel_rfl) (by kernel_rfl) (by kernel_rfl) (fun _ _ _ h => h) (yields_loadC (by kernel_rfl) 28 _ rfl (N) (6) rfl (nv (b)) _ (fun V hV => te_b ((hV.block _ (lt_of_block H0.out)).trans H0.out)) underE rfl (infoE (nv_size _))) hS ?_
  simp only [put_list, List.set_cons_succ, List.set_cons_zero]
  refine wpAnyH_takeL (i := 12) (v := ?_) rfl (by kernel_rfl) (by kernel_rfl) (by kernel_rfl) (fun _ _ _ h => h) (Or.inl ⟨by kernel_rfl, ?_⟩) hS ?_
  rotate_left
  · intro V hV
    go_simp
    (try with_reducible rfl)
  simp only [put_list, List.set_cons_succ, List.set_cons_zero]
  refine wpAnyH_takeL (i := 13) (v := .agg (pt (bx) (bY) (false))) rfl (by kernel_rfl) (by kernel_rfl) (by kernel_rfl) (fun _ _ _ h => h) (yields_loadC (by kernel_rfl) 144 _ rfl (N) (12) rfl (pt (bx) (bY) (false)) _ (fun V hV => te_p ((hV.block _ (lt_of_block H0.out)).trans H0.out)) underPt rfl (infoPt (pt_size _ _ _))) hS ?_
  simp only [put_list, List.set_cons_succ, List.set_cons_zero]
  refine wpAnyH_takeL (i := 14) (v := ?_) rfl (by kernel_rfl) (by kernel_rfl) (by kernel_rfl) (fun _ _ _ h => h) (Or.inl ⟨by kernel_rfl, ?_⟩) hS ?_
  rotate_left
  · intro V hV
    go_simp
    (try with_reducible rfl)
  simp only [put_list, List.set_cons_succ, List.set_cons_zero]
  refine wpAnyH_takeL (i := 15) (v := .agg (W4.cs (limb k))) rfl (by kernel_rfl) (by kernel_rfl) (by kernel_rfl) (fun _ _ _ h => h) (yields_loadC (by kernel_rfl) 32 _ rfl (N) (25) rfl (W4.cs (limb k)) _ (fun V hV => te_k ((hV.block _ (lt_of_block H0.out)).trans H0.out)) underW4 rfl (infoW4 (W4.cs_size _))) hS ?_
  simp only [put_list, List.set_cons_succ, List.set_cons_zero]
  refine wpAnyH_ready (rs := [3]) (by kernel_rfl) (by simp) (AllReadyH.cons rfl (fun K hK => ?_) AllReadyH.nil)
  refine ite_wp (by kernel_rfl) ?_
  refine wp_invoke1D (.tmp 7) (.tmp 8) "In" _ 9 rfl rfl rfl rfl (cm_In p _ _) (c_In ((HG.out.below hS).ok) (k0) k0_fits) ?_
  intro x6 hbc
  refine hK.out _ _ (hS.trans (hbc.mono hS.size)) (fun hS => ?_)
  clear hK K hbc
  simp only [List.set_cons_succ, List.set_cons_zero]
  refine wpAnyH_ready (rs := [7]) (by kernel_rfl) (by simp) (AllReadyH.cons rfl (fun K hK => ?_) AllReadyH.nil)
  refine ite_wp (by kernel_rfl) ?_
  refine wp_invoke1D (.tmp 10) (.tmp 12) "In" _ 13 rfl rfl rfl rfl (cm_In p _ _) (c_In ((HG.out.below hS).ok) (k1) h1) ?_
  intro x7 hbc
  refine hK.out _ _ (hS.trans (hbc.mono hS.size)) (fun hS => ?_)
  clear hK K hbc
  simp only [List.set_cons_succ, List.set_cons_zero]
  refine wpAnyH_ready (rs := [11]) (by kernel_rfl) (by simp) (AllReadyH.cons rfl (fun K hK => ?_) AllReadyH.nil)
  refine ite_wp (by kernel_rfl) ?_
  refine wp_invoke1D (.tmp 14) (.tmp 16) "In" _ 17 rfl rfl rfl rfl (cm_In p _ _) (c_In ((HG.out.below hS).ok) (b) hb) ?_
  intro x8 hbc
  refine hK.out _ _ (hS.trans (hbc.mono hS.size)) (fun hS => ?_)
  clear hK K hbc
  simp only [List.set_cons_succ, List.set_cons_zero]
  refine wpAnyH_takeL (i := 16) (v := .agg (gc m p b bx bY k)) rfl (by kernel_rfl) (by kernel_rfl) (by kernel_rfl) (fun _ _ _ h => h) (yields_buildN (by kernel_rfl) 253 _ #[(0, ifv p), (1, .agg (ev m k0)), (2, .agg (ev m k1)), (3, .agg (ev m b)), (4, .agg (pt bx bY false)), (5, .agg (W4.cs (limb k)))] rfl (by simp only [List.map_toArray, List.map_cons, List.map_nil]; rfl) (fun w => bd_gc _ _ _ _ _ _ w)) hS ?_
  simp only [put_list, List.set_cons_succ, List.set_cons_zero]
  refine wpAnyH_ready (rs := [17]) (by kernel_rfl) (by simp) (AllReadyH.cons rfl (fun K hK => ?_) AllReadyH.nil)
  refine ite_wp (by kernel_rfl) ?_
  have HK := hideP hK
  clear hK
  go_simp
  refine at_worldK9 (fun x9 hx9 => ?_)
  have h9 := heap_new x8 (.cells (gc m p b bx bY k) 253 (0, 0))
  have l9 := hS.size
  have hS9 := hS.alloc hS.size (.cells (gc m p b bx bY k) 253 (0, 0))
  rw [← hx9] at h9 hS9
  clear hS hx9
  generalize x8.heap.size = L at *
  refine HK.out.out _ _ hS9 (fun hS => ?_)
  clear HK K hS9
  refine wpAnyH_takeL (i := 18) (v := ?_) rfl (by kernel_rfl) (by kernel_rfl) (by kernel_rfl) (fun _ _ _ h => h) (Or.inl ⟨by kernel_rfl, ?_⟩) hS ?_
  rotate_left
  · intro V hV
    go_simp
    (try with_reducible rfl)
  simp only [put_list, List.set_cons_succ, List.set_cons_zero]
  refine wpAnyH_done (by kernel_rfl) ?_ _
  (try simp only [put_none])
  refine HK1.out _ _ ?_
  clear HK1 K1
  refine wp_ret ?_
  have hlt := HG.out.plt
  have l0 := lt_of_block H1.out
  obtain ⟨m1, m2⟩ := made h9 (HG.out.below hS)
  exact bodyPost_ret_by (results_tmp rfl _ _ _) rfl ⟨⟨L, rfl, by omega, m1, m2⟩, HBW.out.trans (hS.mono (by omega))⟩

end Go.Proofs.YtppijhcfodccfaaGreat.P6
