/- YtcceaokldphfgaaDiskDoesC46 -/
import Derived.Test.YtcceaokldphfgaaDiskDoesC45
namespace Go.Proofs.Ytcceaokldphfgaa
open Go.RowKit Go.Shelf

attribute [local go_sem] Oper.semAt_some

theorem Try.info9 : (Try.prog.info? 9).map (fun i => (i.zero, i.size, i.bytes)) = some (some (.string ByteArray.empty), 1, 16) := by kernel_rfl

/-- One more in a row whose slice lies in a box. -/
theorem box_push {W : World} {B b e t tb bytes n c : Nat} {z u : Value} {a : Option Addr} {L : List Value} (ht : Try.prog.underlying t = some (.slice e)) (hi : (Try.prog.info? e).map (fun i => (i.zero, i.size, i.bytes)) = some (some z, 1, bytes)) (hz : z.cells.size = 1) (hu : u.oneCell' = true) (hby : bytes ≤ 1000)
    (hbx : W.heap[b]? = some (.cells #[.slice a n c] tb (0, 0))) (hte : tb ≠ e) (hrow : W.ownsRow B e 1 (.slice a n c) n L) (hB : B ≤ W.heap.size) (hn : n ≤ 5000) :
    ∃ a3 c3 w3, (Builtin.append_ #[t, t] t #[.slice a n c, .slice (some ⟨W.heap.size, 0, none⟩) 1 1]).run Try.prog (W.alloc (.cells #[u] e)) = .ok (.slice a3 (n + 1) c3) w3 ∧ w3.heap[b]? = some (.cells #[.slice a n c] tb (0, 0)) ∧
      (w3.setCell ⟨b, 0, none⟩ (.slice a3 (n + 1) c3)).heap[b]? = some (.cells #[.slice a3 (n + 1) c3] tb (0, 0)) ∧ (w3.setCell ⟨b, 0, none⟩ (.slice a3 (n + 1) c3)).ownsRow B e 1 (.slice a3 (n + 1) c3) (n + 1) (L ++ [u]) ∧
      (∀ (k : Nat) (cur : Array Value) (t' : Nat), W.heap[k]? = some (.cells cur t' (0, 0)) → t' ≠ e → w3.heap[k]? = W.heap[k]? ∧ (k ≠ b → (w3.setCell ⟨b, 0, none⟩ (.slice a3 (n + 1) c3)).heap[k]? = W.heap[k]?)) ∧
      (∀ w, w.heap.size ≤ B → w.heap.size ≤ b → Below w.heap.size w W → Below w.heap.size w w3 ∧ Below w.heap.size w (w3.setCell ⟨b, 0, none⟩ (.slice a3 (n + 1) c3))) ∧ Oth W (w3.setCell ⟨b, 0, none⟩ (.slice a3 (n + 1) c3)) := by
  obtain ⟨a3, c3, w3, hrun, hown, hg⟩ := put_step (u := u) ht hi hz hu hrow hB (by have : (n + 1) * bytes ≤ 5001 * 1000 := Nat.mul_le_mul (by omega) hby; omega) (by omega)
  have hz3 := hg.by_.size
  have hsame : ∀ (k : Nat) (cur : Array Value) (t' : Nat), W.heap[k]? = some (.cells cur t' (0, 0)) → t' ≠ e → w3.heap[k]? = W.heap[k]? := fun k cur t' hk hne => hg.by_.block k (Array.getElem?_eq_some_iff.1 hk).1 (fun e' => by
    obtain ⟨cur2, h2, _⟩ := own_block hrow e'.symm
    rw [hk] at h2
    simp only [Option.some.injEq, Obj.cells.injEq] at h2
    exact hne h2.2.1)
  have hbx3 := (hsame b _ _ hbx hte).trans hbx
  have hset : ∀ k, k ≠ b → (w3.setCell ⟨b, 0, none⟩ (.slice a3 (n + 1) c3)).heap[k]? = w3.heap[k]? := fun k hk => Below.heap_setCell _ _ _ k hk
  refine ⟨a3, c3, w3, hrun, hbx3, ?_, ?_, fun k cur t' hk hne => ⟨hsame k cur t' hk hne, fun hkb => (hset k hkb).trans (hsame k cur t' hk hne)⟩, fun w hwB hwb hw => ?_, ?_⟩
  · have := blk_set (o := 0) hbx3 (.slice a3 (n + 1) c3)
    simpa using this
  · refine own_keep hown (fun k e' => hset k (fun e2 => ?_))
    subst e2
    obtain ⟨cur2, h2, _⟩ := own_block hown e'
    rw [hbx3] at h2
    simp only [Option.some.injEq, Obj.cells.injEq] at h2
    exact hte h2.2.1
  · have h3 : Below w.heap.size w w3 := hw.grown hg.by_ hw.size (fun k e' => Nat.le_trans hwB (hrow.lt k e').1)
    exact ⟨h3, h3.setCell (p := ⟨b, 0, none⟩) hwb _⟩
  · refine Oth.trans (B := w3) ⟨hz3, fun k hk hn => hg.by_.block k hk (fun e' => hn ?_)⟩ (Oth.setCell hbx3 _)
    obtain ⟨cur2, h2, _⟩ := own_block hrow e'.symm
    exact ⟨_, _, _, h2⟩

/-- Two boxes behind w, with rows of texts and of numbers. -/
structure EachM (w : World) (ns zs : List Value) (W : World) : Prop where
  ex : ∃ a c a2 c2, W.heap[w.heap.size]? = some (.cells #[.slice a ns.length c] 97 (0, 0)) ∧ W.heap[w.heap.size + 1]? = some (.cells #[.slice a2 zs.length c2] 22 (0, 0)) ∧ W.ownsRow w.heap.size 9 1 (.slice a ns.length c) ns.length ns ∧ W.ownsRow w.heap.size 3 1 (.slice a2 zs.length c2) zs.length zs
  below : Below w.heap.size w W

theorem EachM.same {w W W' : World} {ns zs : List Value} (h : EachM w ns zs W) (hb : Below w.heap.size w W') (hs : ∀ (k : Nat) (cur : Array Value) (t : Nat), W.heap[k]? = some (.cells cur t (0, 0)) → W'.heap[k]? = W.heap[k]?) : EachM w ns zs W' := by
  obtain ⟨⟨a, c, a2, c2, h1, h2, h3, h4⟩, _⟩ := h
  have hr : ∀ {e n : Nat} {v : Value} {L : List Value}, W.ownsRow w.heap.size e 1 v n L → W'.ownsRow w.heap.size e 1 v n L := fun hr => own_keep hr (fun k e => by
    obtain ⟨cur, hk, _⟩ := own_block hr e
    exact hs k _ _ hk)
  exact ⟨⟨a, c, a2, c2, (hs _ _ _ h1).trans h1, (hs _ _ _ h2).trans h2, hr h3, hr h4⟩, hb⟩

theorem EachM.still {w W W' : World} {ns zs : List Value} (h : EachM w ns zs W) (hb : Below W.heap.size W W') : EachM w ns zs W' :=
  h.same (h.below.trans (hb.mono h.below.size)) (fun k _ _ hk => hb.block k (Array.getElem?_eq_some_iff.1 hk).1)

def nmL {fs : List FRep} (pre : List (Of fs)) : List Value := pre.map fun x => .string x.1.a.name

def szL {fs : List FRep} (pre : List (Of fs)) : List Value := pre.map fun x => .int .i64 x.1.a.data.length

theorem eachM_own {w : World} {fs : List FRep} {B : Nat} (hB : w.heap.size ≤ B) : OwnFrom B (fun (pre : List (Of fs)) W => EachM w (nmL pre) (szL pre) W) := by
  intro pre W W' row h hg hr
  refine h.same (h.below.grown hg h.below.size (fun k e => Nat.le_trans hB (hr k e).1)) (fun k cur t hk => hg.block k (Array.getElem?_eq_some_iff.1 hk).1 (fun e => ?_))
  obtain ⟨_, o, ho, hcc⟩ := hr k e.symm
  rw [hk] at ho
  cases ho
  simp [Obj.isCells] at hcc

set_option maxHeartbeats 4000000 in
set_option maxRecDepth 100000 in
theorem eachT_in {w : World} {role : Role} {D : Nat} {s : DSt} (h : DiskOK w role D s) (hdd : s.dead = false) (n : Nat) (hn : 8 ≤ n) :
    CallsIn Fence.wide n Try.prog 25 #[.pointer (some ⟨D, 0, none⟩)] w fun e w' => e = .returned (.func (.func 53) #[] #[.pointer (some ⟨w.heap.size, 0, none⟩), .pointer (some ⟨w.heap.size + 1, 0, none⟩)]) ∧ Hid (EachM w (s.fs.map fun f => .string f.a.name) (s.fs.map fun f => .int .i64 f.a.data.length) w') := by
  have h1 : 1 ≤ n := by omega
  have hB00 : Below w.heap.size w ((w.alloc (.cells #[.slice none 0 0] 97)).alloc (.cells #[.slice none 0 0] 22)) := ((Below.refl _ w).alloc (Nat.le_refl _) _).alloc (by simp) _
  have hdead := dDead (h.still hB00) false hdd
  refine callsIn_of_wp_marks Try.func25 rfl trivial ?_ rfl
  simp only [Try.ntmps25, List.size_toArray, List.length_cons, List.length_nil, Nat.reduceAdd, Nat.reduceSub, Array.replicate_succ, Array.replicate_zero, List.push_toArray, List.append_toArray, List.nil_append, List.cons_append]
  gi_wp2_with (first | (refine ⟨trivial, ?_⟩; gi_at_call 20; refine (callsIn_wide.2 hdead).mono ?_; rintro e w' ⟨rfl, rfl⟩) | (refine ⟨trivial, ?_⟩; gi_at_call 51; refine (all_in _ _ _).mono ?_; rintro e w' ⟨rfl, rfl⟩))
  obtain ⟨W0, hW0⟩ : ∃ W0, ((w.alloc (.cells #[.slice none 0 0] 97)).alloc (.cells #[.slice none 0 0] 22)).alloc (.cells #[.pointer (some ⟨D, 0, none⟩)] 29) = W0 := ⟨_, rfl⟩
  have hsz : W0.heap.size = w.heap.size + 3 := by rw [← hW0]; simp
  have hB0 : Below w.heap.size w W0 := by rw [← hW0]; exact hB00.alloc (by simp; omega) _
  have hd0 := h.still hB0
  have hx0 : W0.heap[w.heap.size]? = some (.cells #[.slice none 0 0] 97 (0, 0)) := by
    rw [← hW0]
    exact (Below.heap_alloc _ _ _ (by simp; omega)).trans ((Below.heap_alloc _ _ _ (by simp)).trans (World.alloc_heap_new w _))
  have hx2 : W0.heap[w.heap.size + 1]? = some (.cells #[.slice none 0 0] 22 (0, 0)) := by
    rw [← hW0]
    refine (Below.heap_alloc _ _ _ (by simp)).trans ?_
    have := World.alloc_heap_new (w.alloc (.cells #[.slice none 0 0] 97)) (.cells #[.slice none 0 0] 22)
    rwa [World.size_alloc] at this
  have hx1 : W0.cell? ⟨w.heap.size + 1 + 1, 0, none⟩ = some (.pointer (some ⟨D, 0, none⟩)) := by
    rw [← hW0]
    have := (cell_new (W := (w.alloc (.cells #[.slice none 0 0] 97)).alloc (.cells #[.slice none 0 0] 22)) (.pointer (some ⟨D, 0, none⟩)) 29).1
    rwa [World.size_alloc, World.size_alloc] at this
  rw [hW0]
  clear hW0 hB00
  refine wpIn_rangeFunc_ownG rfl h1 (gf := 73) (lb := #[.pointer (some ⟨w.heap.size + 1 + 1, 0, none⟩)]) rfl trivial (enters_of Try.func73 (by kernel_rfl) rfl)
    (all_stops (n - 1) (by omega) (w.heap.size + 1 + 1) D s.filesV s.fs W0 h.few hx1 hd0.cells.2.2 hd0.rowI) KpR.trans (KpR.putObj (fun g e => (hd0.files.lt g e).2)) (Below.refl _ _) (fun _ => rfl)
    (fun pre W => EachM w (nmL pre) (szL pre) W)
    (fun _ _ _ => False)
    (eachM_own (by omega))
    (fun _ _ _ _ _ hs _ _ => hs)
    ⟨⟨none, 0, none, 0, hx0, hx2, World.ownsRow_nil _ _ _ _, World.ownsRow_nil _ _ _ _⟩, hB0⟩
    (fun x => { tmps := #[.pointer (some ⟨D, 0, none⟩), undef, .nilFunc, .pointer (some ⟨w.heap.size, 0, none⟩), .pointer (some ⟨w.heap.size + 1, 0, none⟩), ptrV x.1, .pointer (some ⟨D, 0, none⟩), .bool false, .bool true, .pointer (some ⟨D, 0, none⟩), .func (.func 73) #[] #[.pointer (some ⟨w.heap.size + 1 + 1, 0, none⟩)], ptrV x.1, undef, undef, undef, undef, undef, undef, undef, undef, undef, undef, undef, undef, undef, undef, undef, undef], defers := [] }) ?assign ?body ?done ?stop
  case assign =>
    intro l x W K hK
    gi_wp2
    exact hK
  case body =>
    rintro l pre x W hI hlt
    have hF := h.each x.1 x.2
    have hplt : x.1.p < w.heap.size := h.dom _ _ hF.rp
    obtain ⟨av, cv, hv, _⟩ := own_slice hF.odata
    have hlen : pre.length < 4096 := by have := h.few; omega
    have hcells : ∀ V, Below w.heap.size w V → V.cell? ⟨x.1.p, 0, none⟩ = some (.string x.1.a.name) ∧ V.cell? ⟨x.1.p, 3, none⟩ = some (.slice av x.1.a.data.length cv) := fun V hV => by
      have hFW : V.heap[x.1.p]? = _ := (hV.block _ hplt).trans hF.blk
      refine ⟨blk_cell hFW rfl, ?_⟩
      rw [← hv]
      exact blk_cell hFW rfl
    have hKR : ∀ V, Below w.heap.size w V → KpR s.filesV s.fs W V := fun V hV => KpR.of_same (fun g e => by
      have hg := (h.files.lt g e).2
      exact (hV.block g hg).trans (hI.below.block g hg).symm)
    have hnl : (nmL pre).length = pre.length := by simp [nmL]
    have hzl : (szL pre).length = pre.length := by simp [szL]
    -- the second region
    have HN7 : Hid (∀ W6, Hid (EachM w (nmL (pre ++ [x])) (szL pre) W6 ∧ Oth W W6) → Hid (W6.drew.cell? ⟨x.1.p, 3, none⟩ = some (.slice av x.1.a.data.length cv) ∧ (∃ a2 c2, W6.drew.cell? ⟨w.heap.size + 1, 0, none⟩ = some (.slice a2 pre.length c2) ∧ (W6.drew.alloc (.cells #[.int .i64 x.1.a.data.length] 3)).cell? ⟨x.1.p, 3, none⟩ = some (.slice av x.1.a.data.length cv) ∧ (W6.alloc (.cells #[.int .i64 x.1.a.data.length] 3)).cell? ⟨w.heap.size + 1, 0, none⟩ = some (.slice a2 pre.length c2) ∧
        ∃ a3 c3 w3, Hid ((Builtin.append_ #[22, 22] 22 #[.slice a2 pre.length c2, .slice (some ⟨W6.heap.size, 0, none⟩) 1 1]).run Try.prog (W6.drew.alloc (.cells #[.int .i64 x.1.a.data.length] 3)) = .ok (.slice a3 (pre.length + 1) c3) w3) ∧ w3.cell? ⟨x.1.p, 3, none⟩ = some (.slice av x.1.a.data.length cv) ∧ w3.cell? ⟨w.heap.size + 1, 0, none⟩ = some (.slice a2 pre.length c2) ∧ w3.frozen? ⟨w.heap.size + 1, 0, none⟩ = false ∧ (w3.setCell ⟨w.heap.size + 1, 0, none⟩ (.slice a3 (pre.length + 1) c3)).cell? ⟨x.1.p, 3, none⟩ = some (.slice av x.1.a.data.length cv) ∧
          Hid (KeepsFrom W0.heap.size W (w3.setCell ⟨w.heap.size + 1, 0, none⟩ (.slice a3 (pre.length + 1) c3)) ∧ KpR s.filesV s.fs W (w3.setCell ⟨w.heap.size + 1, 0, none⟩ (.slice a3 (pre.length + 1) c3)) ∧ EachM w (nmL (pre ++ [x])) (szL (pre ++ [x])) (w3.setCell ⟨w.heap.size + 1, 0, none⟩ (.slice a3 (pre.length + 1) c3)))))) := by
      intro W6 HE6
      obtain ⟨hE6, hO6⟩ := HE6.out
      have hEd : EachM w (nmL (pre ++ [x])) (szL pre) W6.drew := hE6.still (Below.refl _ _).drew
      obtain ⟨⟨a1, c1, a2, c2, e1, e2, e3, e4⟩, hbd⟩ := hEd
      rw [hzl] at e2 e4
      obtain ⟨a3, c3, w3, q1, q2, q3, q4, q5, q6, q7⟩ := box_push (u := .int .i64 x.1.a.data.length) Try.underlying22 Try.info3 rfl rfl (by omega) e2 (by omega) e4 hbd.size (by omega)
      obtain ⟨q8, q9⟩ := q6 w (Nat.le_refl _) (by omega) hbd
      have hba := hbd.alloc hbd.size (.cells #[.int .i64 x.1.a.data.length] 3)
      refine ⟨(hcells _ hbd).2, a2, c2, blk_cell e2 rfl, (hcells _ hba).2, blk_cell (show (W6.alloc (.cells #[.int .i64 x.1.a.data.length] 3)).heap[w.heap.size + 1]? = _ from (Below.heap_alloc W6 _ _ (Array.getElem?_eq_some_iff.1 e2).1).trans e2) rfl, a3, c3, w3, q1, (hcells _ q8).2, blk_cell q2 rfl, blk_free q2, (hcells _ q9).2, ?_, hKR _ q9, ?_⟩
      · exact (hO6.trans (Oth.trans (Oth.ofBelow (Below.refl _ _).drew) q7)).keeps _
      · have hr1 : (w3.setCell ⟨w.heap.size + 1, 0, none⟩ (.slice a3 (pre.length + 1) c3)).ownsRow w.heap.size 9 1 (.slice a1 (nmL (pre ++ [x])).length c1) (nmL (pre ++ [x])).length (nmL (pre ++ [x])) := own_keep e3 (fun k e => by
          obtain ⟨cur, hk, _⟩ := own_block e3 e
          exact (q5 k _ _ hk (by omega)).2 (fun e' => by rw [e', e2] at hk; simp at hk))
        have hzx : (szL (pre ++ [x])) = szL pre ++ [.int .i64 x.1.a.data.length] := by simp [szL]
        refine ⟨⟨a1, c1, a3, c3, ((q5 _ _ _ e1 (by omega)).2 (by omega)).trans e1, ?_, hr1, ?_⟩, q9⟩
        · rw [hzx, List.length_append, hzl]; exact q3
        · rw [hzx, List.length_append, hzl]; exact q4
    have hEd : EachM w (nmL pre) (szL pre) W.drew := hI.still (Below.refl _ _).drew
    obtain ⟨⟨a1, c1, a2, c2, e1, e2, e3, e4⟩, hbd⟩ := hEd
    rw [hnl] at e1 e3
    obtain ⟨a3, c3, w3, q1, q2, q3, q4, q5, q6, q7⟩ := box_push (u := .string x.1.a.name) Try.underlying97 Try.info9 rfl rfl (by omega) e1 (by omega) e3 hbd.size (by omega)
    obtain ⟨q8, q9⟩ := q6 w (Nat.le_refl _) (Nat.le_refl _) hbd
    have hba := hbd.alloc hbd.size (.cells #[.string x.1.a.name] 9)
    have hs6 := (hcells _ hbd).1
    have hb6 : W.drew.cell? ⟨w.heap.size, 0, none⟩ = some (.slice a1 pre.length c1) := blk_cell e1 rfl
    have z1 := (hcells _ hba).1
    have z4 : (W.alloc (.cells #[.string x.1.a.name] 9)).cell? ⟨w.heap.size, 0, none⟩ = some (.slice a1 pre.length c1) := blk_cell (show (W.alloc (.cells #[.string x.1.a.name] 9)).heap[w.heap.size]? = _ from (Below.heap_alloc W _ _ (Array.getElem?_eq_some_iff.1 e1).1).trans e1) rfl
    have HRN := hideP q1
    have z2 := (hcells _ q8).1
    have z5 : w3.cell? ⟨w.heap.size, 0, none⟩ = some (.slice a1 pre.length c1) := blk_cell q2 rfl
    have z6 : w3.frozen? ⟨w.heap.size, 0, none⟩ = false := blk_free q2
    have z3 := (hcells _ q9).1
    have HST : Hid (EachM w (nmL (pre ++ [x])) (szL pre) (w3.setCell ⟨w.heap.size, 0, none⟩ (.slice a3 (pre.length + 1) c3)) ∧ Oth W (w3.setCell ⟨w.heap.size, 0, none⟩ (.slice a3 (pre.length + 1) c3))) := by
      have hr2 : (w3.setCell ⟨w.heap.size, 0, none⟩ (.slice a3 (pre.length + 1) c3)).ownsRow w.heap.size 3 1 (.slice a2 (szL pre).length c2) (szL pre).length (szL pre) := own_keep e4 (fun k e => by
        obtain ⟨cur, hk, _⟩ := own_block e4 e
        exact (q5 k _ _ hk (by omega)).2 (fun e' => by rw [e', e1] at hk; simp at hk))
      have hnx : (nmL (pre ++ [x])) = nmL pre ++ [.string x.1.a.name] := by simp [nmL]
      refine ⟨⟨⟨a3, c3, a2, c2, ?_, ((q5 _ _ _ e2 (by omega)).2 (by omega)).trans e2, ?_, hr2⟩, q9⟩, Oth.trans (Oth.ofBelow (Below.refl _ _).drew) q7⟩
      · rw [hnx, List.length_append, hnl]; exact q3
      · rw [hnx, List.length_append, hnl]; exact q4
    simp only [ptrV]
    clear hI hF hplt hv hlt hcells hKR hnl hzl e1 e2 e3 e4 hbd q1 q2 q3 q4 q5 q6 q7 q8 q9 hba hx0 hx1 hx2 hd0 hB0 hdead hsz
    gi_wp2
    refine regionIn_held (S := fun V => V.cell? ⟨x.1.p, 0, none⟩ = some (.string x.1.a.name)) (by kernel_rfl) (fun ⟨_, _, h⟩ => h) (nd_of (by kernel_rfl)) hs6 (fun hS => ?_)
    refine wpAnyH_takeL (i := 1) (v := ?_) rfl (by kernel_rfl) (by kernel_rfl) (by kernel_rfl) (fun _ _ _ h => h) (Or.inl ⟨by kernel_rfl, ?_⟩) hS ?_
    rotate_left
    · intro V hV
      (try dsimp only at hV)
      go_simp
      (try with_reducible rfl)
    simp only [put_list, List.set_cons_succ, List.set_cons_zero]
    refine wpAnyH_takeL (i := 2) (v := ?_) rfl (by kernel_rfl) (by kernel_rfl) (by kernel_rfl) (fun _ _ _ h => h) (Or.inl ⟨by kernel_rfl, ?_⟩) hS ?_
    rotate_left
    · intro V hV
      (try dsimp only at hV)
      go_simp
      (try with_reducible rfl)
    simp only [put_list, List.set_cons_succ, List.set_cons_zero]
    refine wpAnyH_takeL (i := 3) (v := ?_) rfl (by kernel_rfl) (by kernel_rfl) (by kernel_rfl) (fun _ _ _ h => h) (Or.inl ⟨by kernel_rfl, ?_⟩) hS ?_
    rotate_left
    · intro V hV
      (try dsimp only at hV)
      go_simp
      (try with_reducible rfl)
    simp only [put_list, List.set_cons_succ, List.set_cons_zero]
    refine wpAnyH_takeL (i := 4) (v := ?_) rfl (by kernel_rfl) (by kernel_rfl) (by kernel_rfl) (fun _ _ _ h => h) (Or.inl ⟨by kernel_rfl, ?_⟩) hS ?_
    rotate_left
    · intro V hV
      (try dsimp only at hV)
      go_simp
      (try with_reducible rfl)
    simp only [put_list, List.set_cons_succ, List.set_cons_zero]
    refine wpAnyH_ready (rs := [0, 5]) (by kernel_rfl) (by simp) (AllReadyH.cons rfl (fun K hK => ?_) (AllReadyH.cons rfl (fun K hK => ?_) (AllReadyH.nil)))
    · go_simp
      refine hK.out _ _ (by (first | exact hS | exact z1 | exact z2 | exact z3)) (fun hS => ?_)
      clear hK K
      refine wpAnyH_ready (rs := [5]) (by kernel_rfl) (by simp) (AllReadyH.cons rfl (fun K hK => ?_) (AllReadyH.nil))
      go_simp
      refine hK.out _ _ (by (first | exact hS | exact z1 | exact z2 | exact z3)) (fun hS => ?_)
      clear hK K
      refine wpAnyH_ready (rs := [6]) (by kernel_rfl) (by simp) (AllReadyH.cons rfl (fun K hK => ?_) (AllReadyH.nil))
      rw [if_pos (by rfl)]
      refine Lib.wp_append_run _ _ _ 97 97 rfl _ _ rfl rfl _ _ HRN.out ?_
      refine hK.out _ _ (by (first | exact hS | exact z1 | exact z2 | exact z3)) (fun hS => ?_)
      clear hK K
      refine wpAnyH_ready (rs := [7]) (by kernel_rfl) (by simp) (AllReadyH.cons rfl (fun K hK => ?_) (AllReadyH.nil))
      go_simp
      refine hK.out _ _ (by (first | exact hS | exact z1 | exact z2 | exact z3)) (fun hS => ?_)
      clear hK K
      refine wpAnyH_done (by kernel_rfl) ?_ _
      clear hS z1 z2 z3 z4 z5 z6 HRN hb6
      have HNX := HN7.out _ HST
      clear HN7 HST
      generalize w3.setCell ⟨w.heap.size, 0, none⟩ (.slice a3 (pre.length + 1) c3) = W6 at *

      obtain ⟨hs7, a2, c2, hb7, z1, z4, a3, c3, w3, HRN, z2, z5, z6, z3, HFIN⟩ := HNX.out
      clear HNX
      gi_wp2
      refine regionIn_held (S := fun V => V.cell? ⟨x.1.p, 3, none⟩ = some (.slice av x.1.a.data.length cv)) (by kernel_rfl) (fun ⟨_, _, h⟩ => h) (nd_of (by kernel_rfl)) hs7 (fun hS => ?_)
      refine wpAnyH_takeL (i := 1) (v := ?_) rfl (by kernel_rfl) (by kernel_rfl) (by kernel_rfl) (fun _ _ _ h => h) (Or.inl ⟨by kernel_rfl, ?_⟩) hS ?_
      rotate_left
      · intro V hV
        (try dsimp only at hV)
        go_simp
        (try with_reducible rfl)
      simp only [put_list, List.set_cons_succ, List.set_cons_zero]
      refine wpAnyH_takeL (i := 2) (v := ?_) rfl (by kernel_rfl) (by kernel_rfl) (by kernel_rfl) (fun _ _ _ h => h) (Or.inl ⟨by kernel_rfl, ?_⟩) hS ?_
      rotate_left
      · intro V hV
        (try dsimp only at hV)
        go_simp
        (try with_reducible rfl)
      simp only [put_list, List.set_cons_succ, List.set_cons_zero]
      refine wpAnyH_takeL (i := 3) (v := ?_) rfl (by kernel_rfl) (by kernel_rfl) (by kernel_rfl) (fun _ _ _ h => h) (Or.inl ⟨by kernel_rfl, ?_⟩) hS ?_
      rotate_left
      · intro V hV
        (try dsimp only at hV)
        go_simp
        (try with_reducible rfl)
      simp only [put_list, List.set_cons_succ, List.set_cons_zero]
      refine wpAnyH_takeL (i := 4) (v := ?_) rfl (by kernel_rfl) (by kernel_rfl) (by kernel_rfl) (fun _ _ _ h => h) (Or.inl ⟨by kernel_rfl, ?_⟩) hS ?_
      rotate_left
      · intro V hV
        (try dsimp only at hV)
        go_simp
        (try with_reducible rfl)
      simp only [put_list, List.set_cons_succ, List.set_cons_zero]
      refine wpAnyH_takeL (i := 5) (v := ?_) rfl (by kernel_rfl) (by kernel_rfl) (by kernel_rfl) (fun _ _ _ h => h) (Or.inl ⟨by kernel_rfl, ?_⟩) hS ?_
      rotate_left
      · intro V hV
        (try dsimp only at hV)
        go_simp
        (try with_reducible rfl)
      simp only [put_list, List.set_cons_succ, List.set_cons_zero]
      refine wpAnyH_ready (rs := [0, 6]) (by kernel_rfl) (by simp) (AllReadyH.cons rfl (fun K hK => ?_) (AllReadyH.cons rfl (fun K hK => ?_) (AllReadyH.nil)))
      · go_simp
        refine hK.out _ _ (by (first | exact hS | exact z1 | exact z2 | exact z3)) (fun hS => ?_)
        clear hK K
        refine wpAnyH_ready (rs := [6]) (by kernel_rfl) (by simp) (AllReadyH.cons rfl (fun K hK => ?_) (AllReadyH.nil))
        go_simp
        refine hK.out _ _ (by (first | exact hS | exact z1 | exact z2 | exact z3)) (fun hS => ?_)
        clear hK K
        refine wpAnyH_ready (rs := [7]) (by kernel_rfl) (by simp) (AllReadyH.cons rfl (fun K hK => ?_) (AllReadyH.nil))
        rw [if_pos (by rfl)]
        refine Lib.wp_append_run _ _ _ 22 22 rfl _ _ rfl rfl _ _ HRN.out ?_
        refine hK.out _ _ (by (first | exact hS | exact z1 | exact z2 | exact z3)) (fun hS => ?_)
        clear hK K
        refine wpAnyH_ready (rs := [8]) (by kernel_rfl) (by simp) (AllReadyH.cons rfl (fun K hK => ?_) (AllReadyH.nil))
        go_simp
        refine hK.out _ _ (by (first | exact hS | exact z1 | exact z2 | exact z3)) (fun hS => ?_)
        clear hK K
        refine wpAnyH_done (by kernel_rfl) ?_ _
        clear hS z1 z2 z3 z4 z5 z6
        gi_wp2
        exact HFIN.out
      · go_simp
        refine hK.out _ _ (by (first | exact hS | exact z1 | exact z2 | exact z3)) (fun hS => ?_)
        clear hK K
        refine wpAnyH_ready (rs := [0]) (by kernel_rfl) (by simp) (AllReadyH.cons rfl (fun K hK => ?_) (AllReadyH.nil))
        go_simp
        refine hK.out _ _ (by (first | exact hS | exact z1 | exact z2 | exact z3)) (fun hS => ?_)
        clear hK K
        refine wpAnyH_ready (rs := [7]) (by kernel_rfl) (by simp) (AllReadyH.cons rfl (fun K hK => ?_) (AllReadyH.nil))
        rw [if_pos (by rfl)]
        refine Lib.wp_append_run _ _ _ 22 22 rfl _ _ rfl rfl _ _ HRN.out ?_
        refine hK.out _ _ (by (first | exact hS | exact z1 | exact z2 | exact z3)) (fun hS => ?_)
        clear hK K
        refine wpAnyH_ready (rs := [8]) (by kernel_rfl) (by simp) (AllReadyH.cons rfl (fun K hK => ?_) (AllReadyH.nil))
        go_simp
        refine hK.out _ _ (by (first | exact hS | exact z1 | exact z2 | exact z3)) (fun hS => ?_)
        clear hK K
        refine wpAnyH_done (by kernel_rfl) ?_ _
        clear hS z1 z2 z3 z4 z5 z6
        gi_wp2
        exact HFIN.out
    · go_simp
      refine hK.out _ _ (by (first | exact hS | exact z1 | exact z2 | exact z3)) (fun hS => ?_)
      clear hK K
      refine wpAnyH_ready (rs := [0]) (by kernel_rfl) (by simp) (AllReadyH.cons rfl (fun K hK => ?_) (AllReadyH.nil))
      go_simp
      refine hK.out _ _ (by (first | exact hS | exact z1 | exact z2 | exact z3)) (fun hS => ?_)
      clear hK K
      refine wpAnyH_ready (rs := [6]) (by kernel_rfl) (by simp) (AllReadyH.cons rfl (fun K hK => ?_) (AllReadyH.nil))
      rw [if_pos (by rfl)]
      refine Lib.wp_append_run _ _ _ 97 97 rfl _ _ rfl rfl _ _ HRN.out ?_
      refine hK.out _ _ (by (first | exact hS | exact z1 | exact z2 | exact z3)) (fun hS => ?_)
      clear hK K
      refine wpAnyH_ready (rs := [7]) (by kernel_rfl) (by simp) (AllReadyH.cons rfl (fun K hK => ?_) (AllReadyH.nil))
      go_simp
      refine hK.out _ _ (by (first | exact hS | exact z1 | exact z2 | exact z3)) (fun hS => ?_)
      clear hK K
      refine wpAnyH_done (by kernel_rfl) ?_ _
      clear hS z1 z2 z3 z4 z5 z6 HRN hb6
      have HNX := HN7.out _ HST
      clear HN7 HST
      generalize w3.setCell ⟨w.heap.size, 0, none⟩ (.slice a3 (pre.length + 1) c3) = W6 at *

      obtain ⟨hs7, a2, c2, hb7, z1, z4, a3, c3, w3, HRN, z2, z5, z6, z3, HFIN⟩ := HNX.out
      clear HNX
      gi_wp2
      refine regionIn_held (S := fun V => V.cell? ⟨x.1.p, 3, none⟩ = some (.slice av x.1.a.data.length cv)) (by kernel_rfl) (fun ⟨_, _, h⟩ => h) (nd_of (by kernel_rfl)) hs7 (fun hS => ?_)
      refine wpAnyH_takeL (i := 1) (v := ?_) rfl (by kernel_rfl) (by kernel_rfl) (by kernel_rfl) (fun _ _ _ h => h) (Or.inl ⟨by kernel_rfl, ?_⟩) hS ?_
      rotate_left
      · intro V hV
        (try dsimp only at hV)
        go_simp
        (try with_reducible rfl)
      simp only [put_list, List.set_cons_succ, List.set_cons_zero]
      refine wpAnyH_takeL (i := 2) (v := ?_) rfl (by kernel_rfl) (by kernel_rfl) (by kernel_rfl) (fun _ _ _ h => h) (Or.inl ⟨by kernel_rfl, ?_⟩) hS ?_
      rotate_left
      · intro V hV
        (try dsimp only at hV)
        go_simp
        (try with_reducible rfl)
      simp only [put_list, List.set_cons_succ, List.set_cons_zero]
      refine wpAnyH_takeL (i := 3) (v := ?_) rfl (by kernel_rfl) (by kernel_rfl) (by kernel_rfl) (fun _ _ _ h => h) (Or.inl ⟨by kernel_rfl, ?_⟩) hS ?_
      rotate_left
      · intro V hV
        (try dsimp only at hV)
        go_simp
        (try with_reducible rfl)
      simp only [put_list, List.set_cons_succ, List.set_cons_zero]
      refine wpAnyH_takeL (i := 4) (v := ?_) rfl (by kernel_rfl) (by kernel_rfl) (by kernel_rfl) (fun _ _ _ h => h) (Or.inl ⟨by kernel_rfl, ?_⟩) hS ?_
      rotate_left
      · intro V hV
        (try dsimp only at hV)
        go_simp
        (try with_reducible rfl)
      simp only [put_list, List.set_cons_succ, List.set_cons_zero]
      refine wpAnyH_takeL (i := 5) (v := ?_) rfl (by kernel_rfl) (by kernel_rfl) (by kernel_rfl) (fun _ _ _ h => h) (Or.inl ⟨by kernel_rfl, ?_⟩) hS ?_
      rotate_left
      · intro V hV
        (try dsimp only at hV)
        go_simp
        (try with_reducible rfl)
      simp only [put_list, List.set_cons_succ, List.set_cons_zero]
      refine wpAnyH_ready (rs := [0, 6]) (by kernel_rfl) (by simp) (AllReadyH.cons rfl (fun K hK => ?_) (AllReadyH.cons rfl (fun K hK => ?_) (AllReadyH.nil)))
      · go_simp
        refine hK.out _ _ (by (first | exact hS | exact z1 | exact z2 | exact z3)) (fun hS => ?_)
        clear hK K
        refine wpAnyH_ready (rs := [6]) (by kernel_rfl) (by simp) (AllReadyH.cons rfl (fun K hK => ?_) (AllReadyH.nil))
        go_simp
        refine hK.out _ _ (by (first | exact hS | exact z1 | exact z2 | exact z3)) (fun hS => ?_)
        clear hK K
        refine wpAnyH_ready (rs := [7]) (by kernel_rfl) (by simp) (AllReadyH.cons rfl (fun K hK => ?_) (AllReadyH.nil))
        rw [if_pos (by rfl)]
        refine Lib.wp_append_run _ _ _ 22 22 rfl _ _ rfl rfl _ _ HRN.out ?_
        refine hK.out _ _ (by (first | exact hS | exact z1 | exact z2 | exact z3)) (fun hS => ?_)
        clear hK K
        refine wpAnyH_ready (rs := [8]) (by kernel_rfl) (by simp) (AllReadyH.cons rfl (fun K hK => ?_) (AllReadyH.nil))
        go_simp
        refine hK.out _ _ (by (first | exact hS | exact z1 | exact z2 | exact z3)) (fun hS => ?_)
        clear hK K
        refine wpAnyH_done (by kernel_rfl) ?_ _
        clear hS z1 z2 z3 z4 z5 z6
        gi_wp2
        exact HFIN.out
      · go_simp
        refine hK.out _ _ (by (first | exact hS | exact z1 | exact z2 | exact z3)) (fun hS => ?_)
        clear hK K
        refine wpAnyH_ready (rs := [0]) (by kernel_rfl) (by simp) (AllReadyH.cons rfl (fun K hK => ?_) (AllReadyH.nil))
        go_simp
        refine hK.out _ _ (by (first | exact hS | exact z1 | exact z2 | exact z3)) (fun hS => ?_)
        clear hK K
        refine wpAnyH_ready (rs := [7]) (by kernel_rfl) (by simp) (AllReadyH.cons rfl (fun K hK => ?_) (AllReadyH.nil))
        rw [if_pos (by rfl)]
        refine Lib.wp_append_run _ _ _ 22 22 rfl _ _ rfl rfl _ _ HRN.out ?_
        refine hK.out _ _ (by (first | exact hS | exact z1 | exact z2 | exact z3)) (fun hS => ?_)
        clear hK K
        refine wpAnyH_ready (rs := [8]) (by kernel_rfl) (by simp) (AllReadyH.cons rfl (fun K hK => ?_) (AllReadyH.nil))
        go_simp
        refine hK.out _ _ (by (first | exact hS | exact z1 | exact z2 | exact z3)) (fun hS => ?_)
        clear hK K
        refine wpAnyH_done (by kernel_rfl) ?_ _
        clear hS z1 z2 z3 z4 z5 z6
        gi_wp2
        exact HFIN.out
  case done =>
    rintro D' ys W hD rfl hI hK
    have HE : Hid (EachM w (s.fs.map fun f => .string f.a.name) (s.fs.map fun f => .int .i64 f.a.data.length) (W.putObj D' (.deferred none))) := by
      have e1 : nmL s.fs.attach = s.fs.map fun f => .string f.a.name := by
        unfold nmL
        conv => rhs; rw [← List.attach_map_subtype_val s.fs]
        rw [List.map_map]
        rfl
      have e2 : szL s.fs.attach = s.fs.map fun f => .int .i64 f.a.data.length := by
        unfold szL
        conv => rhs; rw [← List.attach_map_subtype_val s.fs]
        rw [List.map_map]
        rfl
      rw [e1, e2] at hI
      refine hI.same (hI.below.trans (belowK_b (w := w) (Nat.le_refl _) W D' _ _ (by omega) hK rfl rfl)) (fun k cs t hc => (grownBy_putObj' W D' _).block k (Array.getElem?_eq_some_iff.1 hc).1 (fun e => by
        cases e
        rw [hc] at hK
        cases hK))
    clear hI
    gi_wp2
    refine ⟨by simp, .inl ⟨_, _, rfl, run_takeDeferred hK, ?_⟩⟩
    exact ⟨_, results_tmp rfl _ _ _, rfl, HE⟩
  case stop =>
    rintro D c pre W _ _ h _
    exact h.elim

end Go.Proofs.Ytcceaokldphfgaa
