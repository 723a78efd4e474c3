/-
  The square field's methods.
-/
import Derived.Test.YtppijhcfodccfaaGreatCurveNoneC39
import Derived.Test.YtppijhcfodccfaaGreatCurveNoneC29
import Derived.Test.YtppijhcfodccfaaGreatCurveNoneC04
import Derived.Test.YtppijhcfodccfaaGreatCurveNoneC23
namespace Go.Proofs.YtppijhcfodccfaaGreat.P6
open Go.RowKit Go.Shelf

theorem build_te {A B C D : Array Value} (hA : A.size = 6) (hB : B.size = 6) (hC : C.size = 2 * 6 + 1) (hD : D.size = 4) (w : World) :
    (Instr.build 146 #[(0, .agg A), (1, .agg B), (2, .agg C), (3, .agg D)]).run Tryz.prog w = .ok (.agg (A ++ (B ++ (C ++ D)))) w := by
  refine build_struct (fs := fsOf (Tryz.prog.underlying 146)) (z := #[] ++ (zn ++ (zn ++ ((zn ++ zn ++ #[.bool false]) ++ Array.replicate 4 (.int .u64 0))))) (places := #[(0, 6), (6, 6), (2 * 6, 2 * 6 + 1), (4 * 6 + 1, 4)]) (by kernel_rfl) (by kernel_rfl) (by kernel_rfl) ?_
  have sd : (zn ++ zn ++ #[Value.bool false]).size = 2 * 6 + 1 := rfl
  rw [fill_cons (X := A) rfl (off := 0) (size := 6) rfl hA rfl zn_size, Array.empty_append]
  rw [fill_cons (X := B) rfl (off := 6) (size := 6) rfl hB hA zn_size]
  rw [← Array.append_assoc (xs := A), fill_cons (X := C) rfl (off := 2 * 6) (size := 2 * 6 + 1) rfl hC (by rw [Array.size_append, hA, hB]) sd]
  have e : A ++ B ++ (C ++ Array.replicate 4 (Value.int .u64 0)) = (A ++ B ++ C) ++ (Array.replicate 4 (.int .u64 0) ++ #[]) := by rw [Array.append_empty, ← Array.append_assoc]
  rw [e, fill_cons (X := D) rfl (off := 4 * 6 + 1) (size := 4) rfl hD (by rw [Array.size_append, Array.size_append, hA, hB, hC]) (by simp), Array.append_empty]
  simp only [Array.append_assoc]
  rfl

theorem bd_te (o b x y : K) (k : Nat) (w : World) : (Instr.build 146 #[(0, .agg (nv o)), (1, .agg (nv b)), (2, .agg (pt x y false)), (3, .agg (W4.cs (limb k)))]).run Tryz.prog w = .ok (.agg (te o b x y k)) w := by
  rw [te_eq]
  exact build_te (nv_size _) (nv_size _) (pt_size _ _ _) (W4.cs_size _) w

set_option maxRecDepth 100000
theorem tb0 (w : World) : (Instr.build 28 #[(0, .int .u64 1)]).run Tryz.prog w = .ok (.agg (nv 1)) w := by
  rw [nv_eq]
  kernel_rfl

theorem tb1 (w : World) : (Instr.build 28 #[(0, .int .u64 4)]).run Tryz.prog w = .ok (.agg (nv 4)) w := by
  rw [nv_eq]
  kernel_rfl

theorem tb2 (w : World) : (Instr.build 28 #[(0, .int .u64 18103045581585958587), (1, .int .u64 7806400890582735599), (2, .int .u64 11623291730934869080), (3, .int .u64 14080658508445169925), (4, .int .u64 2780237799254240271), (5, .int .u64 1725392847304644500)]).run Tryz.prog w = .ok (.agg (nv 3685416753713387016781088315183077757961620795782546409894578378688607592378376318836054947676345821548104185464507)) w := by
  rw [nv_eq]
  kernel_rfl

theorem tb3 (w : World) : (Instr.build 28 #[(0, .int .u64 912580534683953121), (1, .int .u64 15005087156090211044), (2, .int .u64 61670280795567085), (3, .int .u64 18227722000993880822), (4, .int .u64 11573741888802228964), (5, .int .u64 627113611842199793)]).run Tryz.prog w = .ok (.agg (nv 1339506544944476473020471379941921221584933875938349620426543736416511423956333506472724655353366534992391756441569)) w := by
  rw [nv_eq]
  kernel_rfl

set_option maxHeartbeats 4000000 in
set_option maxRecDepth 100000 in
theorem terms_raw (w : World) : Calls Tryz.prog 80 #[] w fun e w' => e = .returned (.agg (te 1 4 3685416753713387016781088315183077757961620795782546409894578378688607592378376318836054947676345821548104185464507 1339506544944476473020471379941921221584933875938349620426543736416511423956333506472724655353366534992391756441569 nBlsR)) ∧ Below w.heap.size w w' := by
  go_enter Tryz.func80, Tryz.ntmps80
  refine wp_seqH (fun K0 HK0 => ?_)
  go_wp2_with fail
  refine HK0.out _ _ ?_
  clear HK0 K0
  refine at_world (fun W0 hW0 => ?_)
  have hbr : ∃ C : Array Value, W0.heap[w.heap.size]? = some (.cells C 146 (0, 0)) ∧ C.size = 4 * 6 + 5 := by
    rw [hW0]
    exact ⟨_, heap_new _ _, rfl⟩
  have hbw : Below w.heap.size w W0 := by
    rw [hW0]
    exact (Below.refl _ _).alloc (Nat.le_refl _) _
  clear hW0
  obtain ⟨C, hC, hs⟩ := hbr
  have HC := hideP hC
  have HBW := hideP hbw
  have hlt := lt_of_block hC
  clear hC hbw
  generalize w.heap.size = N at *
  refine wp_seqH (fun K1 HK1 => ?_)
  refine wp_region_list ?_
  refine wpList_oper rfl (fun K hK => ?_)
  refine wp_buildD 28 _ #[(0, .int .u64 1)] 1 rfl rfl (by simp only [List.map_toArray, List.map_cons, List.map_nil]; rfl) (v := .agg (nv 1)) (tb0 _) ?_
  refine hK _ _ ?_
  clear hK K
  simp only [List.set_cons_succ, List.set_cons_zero]
  refine wpList_oper rfl (fun K hK => ?_)
  refine wp_buildD 28 _ #[(0, .int .u64 4)] 2 rfl rfl (by simp only [List.map_toArray, List.map_cons, List.map_nil]; rfl) (v := .agg (nv 4)) (tb1 _) ?_
  refine hK _ _ ?_
  clear hK K
  simp only [List.set_cons_succ, List.set_cons_zero]
  refine wpList_oper rfl (fun K hK => ?_)
  refine wp_buildD 28 _ #[(0, .int .u64 18103045581585958587), (1, .int .u64 7806400890582735599), (2, .int .u64 11623291730934869080), (3, .int .u64 14080658508445169925), (4, .int .u64 2780237799254240271), (5, .int .u64 1725392847304644500)] 3 rfl rfl (by simp only [List.map_toArray, List.map_cons, List.map_nil]; rfl) (v := .agg (nv 3685416753713387016781088315183077757961620795782546409894578378688607592378376318836054947676345821548104185464507)) (tb2 _) ?_
  refine hK _ _ ?_
  clear hK K
  simp only [List.set_cons_succ, List.set_cons_zero]
  refine wpList_oper rfl (fun K hK => ?_)
  refine wp_buildD 28 _ #[(0, .int .u64 912580534683953121), (1, .int .u64 15005087156090211044), (2, .int .u64 61670280795567085), (3, .int .u64 18227722000993880822), (4, .int .u64 11573741888802228964), (5, .int .u64 627113611842199793)] 4 rfl rfl (by simp only [List.map_toArray, List.map_cons, List.map_nil]; rfl) (v := .agg (nv 1339506544944476473020471379941921221584933875938349620426543736416511423956333506472724655353366534992391756441569)) (tb3 _) ?_
  refine hK _ _ ?_
  clear hK K
  simp only [List.set_cons_succ, List.set_cons_zero]
  refine wpList_oper rfl (fun K hK => ?_)
  refine wp_buildD 144 _ #[(0, .agg (nv 3685416753713387016781088315183077757961620795782546409894578378688607592378376318836054947676345821548104185464507)), (1, .agg (nv 1339506544944476473020471379941921221584933875938349620426543736416511423956333506472724655353366534992391756441569))] 5 rfl rfl (by simp only [List.map_toArray, List.map_cons, List.map_nil]; rfl) (v := .agg (pt 3685416753713387016781088315183077757961620795782546409894578378688607592378376318836054947676345821548104185464507 1339506544944476473020471379941921221584933875938349620426543736416511423956333506472724655353366534992391756441569 false)) (bd_pt _ _ _) ?_
  refine hK _ _ ?_
  clear hK K
  simp only [List.set_cons_succ, List.set_cons_zero]
  refine wpList_oper rfl (fun K hK => ?_)
  refine wp_callD (av := #[]) _ _ 6 rfl rfl (by simp only [List.map_toArray, List.map_nil]) (enters_of Tryz.func161 (by kernel_rfl) rfl) (fBlsR_any _) ?_
  intro x1 hbc
  refine hK _ _ ?_
  clear hK K
  simp only [List.set_cons_succ, List.set_cons_zero]
  refine wpList_oper rfl (fun K hK => ?_)
  refine wp_buildD 146 _ #[(0, .agg (nv 1)), (1, .agg (nv 4)), (2, .agg (pt 3685416753713387016781088315183077757961620795782546409894578378688607592378376318836054947676345821548104185464507 1339506544944476473020471379941921221584933875938349620426543736416511423956333506472724655353366534992391756441569 false)), (3, .agg (W4.cs (limb nBlsR)))] 7 rfl rfl (by simp only [List.map_toArray, List.map_cons, List.map_nil]; rfl) (v := .agg (te 1 4 3685416753713387016781088315183077757961620795782546409894578378688607592378376318836054947676345821548104185464507 1339506544944476473020471379941921221584933875938349620426543736416511423956333506472724655353366534992391756441569 nBlsR)) (bd_te _ _ _ _ _ _) ?_
  refine hK _ _ ?_
  clear hK K
  simp only [List.set_cons_succ, List.set_cons_zero]
  have hQ := (KQ.start HC.out hs).call hbc
  refine wpList_store_midD rfl 146 (.tmp 0) (.tmp 7) rfl rfl N 0 (te 1 4 3685416753713387016781088315183077757961620795782546409894578378688607592378376318836054947676345821548104185464507 1339506544944476473020471379941921221584933875938349620426543736416511423956333506472724655353366534992391756441569 nBlsR) rfl rfl (hQ.there (te_size _ _ _ _ _)) (infoTe (te_size _ _ _ _ _)) (te_one _ _ _ _ _) ?_
  have g1 := hQ.put (C := te 1 4 3685416753713387016781088315183077757961620795782546409894578378688607592378376318836054947676345821548104185464507 1339506544944476473020471379941921221584933875938349620426543736416511423956333506472724655353366534992391756441569 nBlsR) (te_size _ _ _ _ _)
  have hS := hQ.store (C := te 1 4 3685416753713387016781088315183077757961620795782546409894578378688607592378376318836054947676345821548104185464507 1339506544944476473020471379941921221584933875938349620426543736416511423956333506472724655353366534992391756441569 nBlsR) (te_size _ _ _ _ _)
  generalize World.setCells _ N 0 (te 1 4 3685416753713387016781088315183077757961620795782546409894578378688607592378376318836054947676345821548104185464507 1339506544944476473020471379941921221584933875938349620426543736416511423956333506472724655353366534992391756441569 nBlsR).toList = x9 at g1 hS ⊢
  refine wpList_nil ?_
  refine HK1.out _ _ ?_
  refine wp_ret ?_
  exact bodyPost_ret_by (results_cell rfl rfl (loadC _ N 0 146 (te 1 4 3685416753713387016781088315183077757961620795782546409894578378688607592378376318836054947676345821548104185464507 1339506544944476473020471379941921221584933875938349620426543736416511423956333506472724655353366534992391756441569 nBlsR) _ (rangeOf g1) underTe rfl (infoTe (te_size _ _ _ _ _)))) rfl ⟨rfl, HBW.out.trans hS.below⟩

/-- The curve's number, and its base. -/
def cB : K := 4

def cX : K := 3685416753713387016781088315183077757961620795782546409894578378688607592378376318836054947676345821548104185464507

def cY : K := 1339506544944476473020471379941921221584933875938349620426543736416511423956333506472724655353366534992391756441569

theorem terms_any (w : World) : Calls Tryz.prog 80 #[] w fun e w' => e = .returned (.agg (te k1 cB cX cY nBlsR)) ∧ Below w.heap.size w w' := terms_raw w

end Go.Proofs.YtppijhcfodccfaaGreat.P6

namespace Go.Proofs.YtppijhcfodccfaaGreat.Q6
open Go.RowKit Go.Shelf

abbrev K := Nat × Nat

/-- The cells of an element, of a number. -/
noncomputable def ev (m : Nat) (x : K) : Array Value := Classical.choose (⟨_, rfl⟩ : ∃ C : Array Value, C = P6.ev m x.1 ++ P6.ev m x.2)

theorem ev_eq (m : Nat) (x : K) : ev m x = P6.ev m x.1 ++ P6.ev m x.2 := Classical.choose_spec (⟨_, rfl⟩ : ∃ C : Array Value, C = P6.ev m x.1 ++ P6.ev m x.2)

noncomputable def nv (x : K) : Array Value := Classical.choose (⟨_, rfl⟩ : ∃ C : Array Value, C = P6.nv x.1 ++ P6.nv x.2)

theorem nv_eq (x : K) : nv x = P6.nv x.1 ++ P6.nv x.2 := Classical.choose_spec (⟨_, rfl⟩ : ∃ C : Array Value, C = P6.nv x.1 ++ P6.nv x.2)

def Fits (x : K) : Prop := P6.Fits x.1 ∧ P6.Fits x.2

def k0 : K := (0, 0)

def k1 : K := (1, 0)

theorem ev_size (m : Nat) (x : K) : (ev m x).size = 2 * 6 := by rw [ev_eq, Array.size_append, P6.ev_size, P6.ev_size]

theorem nv_size (x : K) : (nv x).size = 2 * 6 := by rw [nv_eq, Array.size_append, P6.nv_size, P6.nv_size]

theorem all_app {A B : Array Value} (h1 : A.all (·.oneCell') = true) (h2 : B.all (·.oneCell') = true) : (A ++ B).all (·.oneCell') = true := by
  rw [Array.all_append, h1, h2]; rfl

theorem ev_one (m : Nat) (x : K) : (ev m x).all (·.oneCell') = true := by rw [ev_eq]; exact all_app (P6.ev_one _ _) (P6.ev_one _ _)

theorem nv_one (x : K) : (nv x).all (·.oneCell') = true := by rw [nv_eq]; exact all_app (P6.nv_one _) (P6.nv_one _)

theorem underQ : Tryz.prog.underlying 56 = some (.array 2 28) := by kernel_rfl

theorem infoQ {C : Array Value} (h : C.size = 2 * 6) : (Tryz.prog.info? 56).map (·.size) = some C.size := by rw [h]; kernel_rfl

section
variable {w : World} {b t m : Nat} {x : K}
theorem nv_0 (h : w.heap[b]? = some (.cells (nv x) t (0, 0))) : w.rangeAt b 0 (P6.nv x.1).toList := by
  refine range_mid (A := #[]) (C := P6.nv x.2) (t := t) ?_ rfl
  rw [h, nv_eq, Array.empty_append]

theorem nv_1 (h : w.heap[b]? = some (.cells (nv x) t (0, 0))) : w.rangeAt b 6 (P6.nv x.2).toList := by
  refine range_mid (A := P6.nv x.1) (C := #[]) (t := t) ?_ (P6.nv_size _)
  rw [h, nv_eq, Array.append_empty]

end

theorem build_arr {P : Program} {t e n s : Nat} {w : World} {z cells : Array Value} {parts : Array (Nat × Value)} (hz : (zeroValue t).run P w = .ok (.agg z) w) (hu : (underlying t).run P w = .ok (.array n e) w)
    (hp : (sizeOf e).run P w = .ok s w) (hf : Instr.fill (fun i => some (i * s, s)) z parts.toList = some cells) : (Instr.build t parts).run P w = .ok (.agg cells) w := by
  have hc : (Value.agg z).cells = z := rfl
  unfold Instr.build
  simp only [Sem.run_bind, hz, hu, hp, hc, Result.andThen, hf, Sem.run_pure]

theorem build_q {X Y : Array Value} (hX : X.size = 6) (hY : Y.size = 6) (w : World) : (Instr.build 56 #[(0, .agg X), (1, .agg Y)]).run Tryz.prog w = .ok (.agg (X ++ Y)) w := by
  refine build_arr (e := 28) (n := 2) (s := 6) (z := #[] ++ (Array.replicate 6 (.int .u64 0) ++ Array.replicate 6 (.int .u64 0))) (by kernel_rfl) (by kernel_rfl) (by kernel_rfl) ?_
  rw [fill_cons (X := X) rfl (off := 0) (size := 6) rfl hX rfl (by simp), Array.empty_append]
  have e : X ++ Array.replicate 6 (Value.int .u64 0) = X ++ (Array.replicate 6 (.int .u64 0) ++ #[]) := by rw [Array.append_empty]
  rw [e, fill_cons (X := Y) rfl (off := 6) (size := 6) rfl hY hX (by simp), Array.append_empty]
  rfl

theorem bd_e (m : Nat) (a b : Nat) (w : World) : (Instr.build 56 #[(0, .agg (P6.ev m a)), (1, .agg (P6.ev m b))]).run Tryz.prog w = .ok (.agg (ev m (a, b))) w := by
  rw [ev_eq]
  exact build_q (P6.ev_size _ _) (P6.ev_size _ _) w

theorem bd_n (a b : Nat) (w : World) : (Instr.build 56 #[(0, .agg (P6.nv a)), (1, .agg (P6.nv b))]).run Tryz.prog w = .ok (.agg (nv (a, b))) w := by
  rw [nv_eq]
  exact build_q (P6.nv_size _) (P6.nv_size _) w

abbrev FOK (w : World) (p m : Nat) : Prop := W6.Good w p m

/-- The ring that the field stands on. -/
structure RAt (w : World) (p m : Nat) : Prop where
  ok : FOK w p m
  plt : p < w.heap.size

theorem RAt.below {w w' : World} {p m : Nat} (h : RAt w p m) (hb : Below w.heap.size w w') : RAt w' p m := ⟨h.ok.of_same (hb.block _ h.plt), Nat.lt_of_lt_of_le h.plt hb.size⟩

theorem RAt.kq {W V : World} {R0 n ty p m : Nat} (h : RAt W p m) (hS : KQ W R0 n ty V) (h1 : p ≠ R0) : RAt V p m := ⟨h.ok.of_same (hS.same _ h.plt h1), Nat.lt_of_lt_of_le h.plt hS.size⟩

end Go.Proofs.YtppijhcfodccfaaGreat.Q6

namespace Go.Proofs.YtppijhcfodccfaaGreat.Q6
open Go.RowKit Go.Shelf

set_option maxHeartbeats 4000000 in
set_option maxRecDepth 100000 in
theorem qIn {w : World} {p m : Nat} (hG : RAt w p m) (x : K) (hx : Fits x) : Calls Tryz.prog 303 #[.agg #[.pointer (some ⟨p, 0, none⟩)], .agg (nv x)] w fun e w' => e = .returned (.agg (ev m (x))) ∧ Below w.heap.size w w' := by
  have hp := hG.plt
  have HG9 := hideP hG
  clear hG
  go_enter Tryz.func303, Tryz.ntmps303
  refine wp_seqH (fun K0 HK0 => ?_)
  go_wp2_with fail
  refine HK0.out _ _ ?_
  clear HK0 K0
  refine at_world (fun W0 hW0 => ?_)
  have hb0 : W0.heap[w.heap.size]? = some (.cells (#[.pointer (some ⟨p, 0, none⟩)]) 151 (0, 0)) := by
    rw [hW0]
    exact ((heap_old _ _ (by simp <;> omega)).trans ((heap_old _ _ (by simp <;> omega)).trans (heap_new _ _)))
  have hb1 : W0.heap[w.heap.size + 1]? = some (.cells (nv (x)) 56 (0, 0)) := by
    rw [hW0]
    exact ((heap_old _ _ (by simp <;> omega)).trans (heap_new1 _ _ _))
  have hbr : ∃ C : Array Value, W0.heap[w.heap.size + 1 + 1]? = some (.cells C 56 (0, 0)) ∧ C.size = 12 := by
    rw [hW0]
    exact ⟨_, heap_new2 _ _ _ _, rfl⟩
  have hbw : Below w.heap.size w W0 := by
    rw [hW0]
    repeat first | exact Below.refl _ _ | (refine Below.alloc ?_ (by simp <;> omega) _)
  clear hW0
  have HG := hideP (HG9.out.below hbw)
  clear HG9
  have HBW := hideP hbw
  clear hbw
  generalize hN : w.heap.size = N at *
  clear hN
  generalize hB1 : N + 1 = B1 at *
  generalize hB2 : B1 + 1 = B2 at *
  have o1 : N < B1 := by omega
  have o2 : B1 < B2 := by omega
  clear hB2
  clear hB1
  have H0 := hideP hb0
  clear hb0
  have H1 := hideP hb1
  clear hb1
  obtain ⟨Cr, hbr, s_B2⟩ := hbr
  have Hr := hideP hbr
  clear hbr
  refine wp_seqH (fun K1 HK1 => ?_)
  refine wp_region_heldS (S := fun V => KQ W0 B2 12 56 V) (by kernel_rfl) (KQ.init Hr.out s_B2) (fun hS => ?_)
  refine wpAnyH_takeL (i := 0) (v := ?_) rfl (by kernel_rfl) (by kernel_rfl) (by kernel_rfl) (fun _ _ _ h => h) (Or.inl ⟨by kernel_rfl, ?_⟩) hS ?_
  rotate_left
  · intro V hV
    go_simp
    (try with_reducible rfl)
  simp only [put_list, List.set_cons_succ, List.set_cons_zero]
  refine wpAnyH_takeL (i := 1) (v := .pointer (some ⟨p, 0, none⟩)) rfl (by kernel_rfl) (by kernel_rfl) (by kernel_rfl) (fun _ _ _ h => h) (Or.inl ⟨by kernel_rfl, ?_⟩) hS ?_
  · intro V hV
    have hf := blk_cell (hV.box H0.out (by omega)) (o := 0) rfl
    go_simp
    (try with_reducible rfl)
  simp only [put_list, List.set_cons_succ, List.set_cons_zero]
  refine wpAnyH_takeL (i := 2) (v := ?_) rfl (by kernel_rfl) (by kernel_rfl) (by kernel_rfl) (fun _ _ _ h => h) (Or.inl ⟨by kernel_rfl, ?_⟩) hS ?_
  rotate_left
  · intro V hV
    go_simp
    (try with_reducible rfl)
  simp only [put_list, List.set_cons_succ, List.set_cons_zero]
  refine wpAnyH_takeL (i := 3) (v := .agg (P6.nv (x.1))) rfl (by kernel_rfl) (by kernel_rfl) (by kernel_rfl) (fun _ _ _ h => h) (yields_loadC (by kernel_rfl) 28 _ rfl (B1) (0) rfl (P6.nv (x.1)) _ (fun V hV => nv_0 (hV.box H1.out (by omega))) P6.underE rfl (P6.infoE (P6.nv_size _))) hS ?_
  simp only [put_list, List.set_cons_succ, List.set_cons_zero]
  refine wpAnyH_takeL (i := 5) (v := ?_) rfl (by kernel_rfl) (by kernel_rfl) (by kernel_rfl) (fun _ _ _ h => h) (Or.inl ⟨by kernel_rfl, ?_⟩) hS ?_
  rotate_left
  · intro V hV
    go_simp
    (try with_reducible rfl)
  simp only [put_list, List.set_cons_succ, List.set_cons_zero]
  refine wpAnyH_takeL (i := 6) (v := .pointer (some ⟨p, 0, none⟩)) rfl (by kernel_rfl) (by kernel_rfl) (by kernel_rfl) (fun _ _ _ h => h) (Or.inl ⟨by kernel_rfl, ?_⟩) hS ?_
  · intro V hV
    have hf := blk_cell (hV.box H0.out (by omega)) (o := 0) rfl
    go_simp
    (try with_reducible rfl)
  simp only [put_list, List.set_cons_succ, List.set_cons_zero]
  refine wpAnyH_takeL (i := 7) (v := ?_) rfl (by kernel_rfl) (by kernel_rfl) (by kernel_rfl) (fun _ _ _ h => h) (Or.inl ⟨by kernel_rfl, ?_⟩) hS ?_
  rotate_left
  · intro V hV
    go_simp
    (try with_reducible rfl)
  simp only [put_list, List.set_cons_succ, List.set_cons_zero]
  refine wpAnyH_takeL (i := 8) (v := .agg (P6.nv (x.2))) rfl (by kernel_rfl) (by kernel_rfl) (by kernel_rfl) (fun _ _ _ h => h) (yields_loadC (by kernel_rfl) 28 _ rfl (B1) (6) rfl (P6.nv (x.2)) _ (fun V hV => nv_1 (hV.box H1.out (by omega))) P6.underE rfl (P6.infoE (P6.nv_size _))) hS ?_
  simp only [put_list, List.set_cons_succ, List.set_cons_zero]
  refine wpAnyH_ready (rs := [4]) (by kernel_rfl) (by simp) (AllReadyH.cons rfl (fun K hK => ?_) AllReadyH.nil)
  refine ite_wp (by kernel_rfl) ?_
  refine wp_call2D (.tmp 6) (.tmp 8) _ 9 rfl rfl rfl rfl (enters_of Tryz.func211 (by kernel_rfl) rfl) (P6.c_In ((HG.out.kq hS (by omega)).ok) (x.1) hx.1) ?_
  intro x5 hbc
  refine hK.out _ _ (hS.call hbc) (fun hS => ?_)
  clear hK K hbc
  simp only [List.set_cons_succ, List.set_cons_zero]
  refine wpAnyH_ready (rs := [9]) (by kernel_rfl) (by simp) (AllReadyH.cons rfl (fun K hK => ?_) AllReadyH.nil)
  refine ite_wp (by kernel_rfl) ?_
  refine wp_call2D (.tmp 11) (.tmp 13) _ 14 rfl rfl rfl rfl (enters_of Tryz.func211 (by kernel_rfl) rfl) (P6.c_In ((HG.out.kq hS (by omega)).ok) (x.2) hx.2) ?_
  intro x6 hbc
  refine hK.out _ _ (hS.call hbc) (fun hS => ?_)
  clear hK K hbc
  simp only [List.set_cons_succ, List.set_cons_zero]
  refine wpAnyH_takeL (i := 10) (v := .agg (ev m ((x.1, x.2)))) rfl (by kernel_rfl) (by kernel_rfl) (by kernel_rfl) (fun _ _ _ h => h) (yields_build2 (by kernel_rfl) 56 (.tmp 9) (.tmp 14) rfl rfl rfl (bd_e _ _ _)) hS ?_
  simp only [put_list, List.set_cons_succ, List.set_cons_zero]
  refine wpAnyH_ready (rs := [11]) (by kernel_rfl) (by simp) (AllReadyH.cons rfl (fun K hK => ?_) AllReadyH.nil)
  refine ite_wp (by kernel_rfl) ?_
  refine wp_store_midN 56 (.tmp 4) (.tmp 15) rfl rfl (B2) 0 (ev m ((x.1, x.2))) rfl rfl (hS.there (ev_size _ _)) (infoQ (ev_size _ _)) (ev_one _ _) ?_
  have g1 := hS.put (C := ev m ((x.1, x.2))) (ev_size _ _)
  have hS9 := hS.store (C := ev m ((x.1, x.2))) (ev_size _ _)
  clear hS
  generalize World.setCells _ (B2) 0 (ev m ((x.1, x.2))).toList = x7 at g1 hS9 ⊢
  refine hK.out _ _ hS9 (fun hS => ?_)
  clear hK K hS9
  refine wpAnyH_done (by kernel_rfl) ?_ _
  (try simp only [put_none])
  refine HK1.out _ _ ?_
  clear HK1 K1
  refine wp_ret ?_
  exact bodyPost_ret_by (results_cell rfl rfl (loadC _ B2 0 56 (ev m ((x.1, x.2))) _ (rangeOf g1) underQ rfl (infoQ (ev_size _ _)))) rfl ⟨rfl, HBW.out.trans (hS.below.mono (by omega))⟩

end Go.Proofs.YtppijhcfodccfaaGreat.Q6
