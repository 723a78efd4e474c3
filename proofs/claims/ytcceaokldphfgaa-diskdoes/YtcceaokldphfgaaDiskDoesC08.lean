/- YtcceaokldphfgaaDiskDoesC08 -/
import Derived.Test.YtcceaokldphfgaaDiskDoesC07
namespace Go.Proofs.Ytcceaokldphfgaa
open Go.RowKit Go.Shelf

attribute [local go_sem] Oper.semAt_some

/-- The number of Keep that change i takes. -/
def keepAt (l : List Int) (i : Nat) : Int := if l.length = 0 then 0 else l[i % l.length]?.getD 0

theorem keepAt_I64 {l : List Int} (h : ∀ x ∈ l, I64 x) (i : Nat) : I64 (keepAt l i) := by
  unfold keepAt
  split
  · exact ⟨by omega, by omega⟩
  · cases e : l[i % l.length]? with
    | none => exact ⟨by simp, by simp⟩
    | some x => exact h x (List.mem_of_getElem? e)

set_option maxHeartbeats 400000 in
set_option maxRecDepth 100000 in
theorem keep_any {w : World} {role : Role} {D : Nat} {s : DSt} (h : DiskOK w role D s) (i : Nat) (hi : i ≤ 4611686018427387903) :
    Calls Try.prog 74 #[.pointer (some ⟨D, 0, none⟩), .int .i64 i] w fun e w' => e = .returned (.int .i64 (keepAt s.keep i)) ∧ ∃ nq, w' = w.drewN nq := by
  have hc : w.cell? ⟨D, 3, none⟩ = some s.keepV := blk_cell h.blk rfl
  have hl := h.keep.len
  rcases h.keep.rd with ⟨e, e0⟩ | ⟨b, o, c, e, hlt, hr⟩
  · rw [e] at hc
    have HK : Hid (keepAt s.keep i = 0) := by show _ = _; rw [e0]; rfl
    clear h hl e0 e
    go_enter Try.func74, Try.ntmps74
    go_wp2
    go_ret
    exact ⟨by rw [HK.out]; rfl, 0, rfl⟩
  · rw [e] at hc
    by_cases h0 : s.keep.length = 0
    · have HK : Hid (keepAt s.keep i = 0) := by show _ = _; unfold keepAt; rw [if_pos h0]
      rw [h0] at hc
      clear h hl e hr
      go_enter Try.func74, Try.ntmps74
      go_wp2
      go_ret
      exact ⟨by rw [HK.out]; rfl, 0, rfl⟩
    · have hm : i % s.keep.length < s.keep.length := Nat.mod_lt _ (by omega)
      have hx := hr (i % s.keep.length) s.keep[i % s.keep.length] (by simp [hm])
      have HK : Hid (keepAt s.keep i = s.keep[i % s.keep.length]) := by show _ = _; unfold keepAt; rw [if_neg h0]; simp [hm]
      obtain ⟨x, hxx⟩ : ∃ x, s.keep[i % s.keep.length] = x := ⟨_, rfl⟩
      rw [hxx] at hx HK
      obtain ⟨n, hn⟩ : ∃ n, n = s.keep.length := ⟨_, rfl⟩
      rw [← hn] at hc hl h0 hm hx
      have hb : ((n : Int) == 0) = false := by simp; omega
      have hm1 := Int.emod_nonneg (i : Int) (show (n : Int) ≠ 0 by omega)
      have hm2 := Int.emod_lt_of_pos (i : Int) (show (0 : Int) < (n : Int) by omega)
      clear h e hr hxx hn
      go_enter Try.func74, Try.ntmps74
      go_wp2
      go_quiet (fail)
      go_wp2
      go_ret
      exact ⟨by rw [HK.out]; rfl, _, rfl⟩

/-- What survives of a file's changes, the first of them being number i. -/
def survAll (keep : List Int) : Nat → List Chg → List UInt8 → List UInt8
  | _, [], xs => xs
  | i, c :: cs, xs => survAll keep (i + 1) cs (surviveC c (keepAt keep i) xs)

theorem survAll_snoc (keep : List Int) : ∀ (cs : List Chg) (i : Nat) (c : Chg) (xs : List UInt8), survAll keep i (cs ++ [c]) xs = surviveC c (keepAt keep (i + cs.length)) (survAll keep i cs xs)
  | [], i, c, xs => by simp [survAll]
  | d :: cs, i, c, xs => by
    simp only [List.cons_append, survAll, List.length_cons]
    rw [survAll_snoc keep cs (i + 1) c]
    congr 2
    omega

/-- A file behind a death. -/
def dieA (keep : List Int) (nx : Nat) (a : AFile) : AFile := { name := a.name, safe := survAll keep nx a.chs a.safe, chs := [], data := survAll keep nx a.chs a.safe }

def dieStep (keep : List Int) (st : Nat × List AFile) (i : Nat) : Nat × List AFile :=
  match st.2[i]? with
  | some a => (st.1 + a.chs.length, st.2.set i (dieA keep st.1 a))
  | none => st

def dieAll (keep : List Int) : Nat → List AFile → List AFile
  | _, [] => []
  | nx, a :: l => dieA keep nx a :: dieAll keep (nx + a.chs.length) l

/-- Where a file stands among those of the disk. -/
def posOf (fs : List FRep) (x : Of fs) : Nat := (fs.map (·.p)).idxOf x.1.p

theorem Stp.grown {r r' : Role} {w W W' : World} {row : Option Nat} (h : Stp r r' w W) (hg : W.grownBy W' row) (hr : ∀ k, row = some k → w.heap.size ≤ k) : Stp r r' w W' :=
  ⟨hg.os.trans h.os, hg.tape.trans h.tape, hg.output.trans h.output, Nat.le_trans h.size hg.size, h.ext,
   fun k hk hn => (hg.block k (Nat.lt_of_lt_of_le hk h.size) (fun e => by have := hr k e.symm; omega)).trans (h.keep k hk hn),
   fun k hk hn => (hg.block k (Nat.lt_of_lt_of_le hk h.size) (fun e => by have := hr k e.symm; omega)).trans (h.others k hk hn)⟩

/-- The disk while it is dying: what stands in memory when the files pre have been gone over. -/
structure Dying (w0 : World) (role0 : Role) (D Bx : Nat) (s : DSt) (pre : List (Of s.fs)) (W : World) : Prop where
  ex : ∃ role s', DiskOK W role D s' ∧ Stp role0 role w0 W ∧ s' = { s with fs := s'.fs } ∧ s'.fs.map (·.p) = s.fs.map (·.p) ∧ role Bx = none ∧ role (Bx + 1) = none ∧
    ∃ nx : Nat, (nx, s'.fs.map (·.a)) = (pre.map (posOf s.fs)).foldl (dieStep s.keep) (0, s.fs.map (·.a)) ∧ nx + nchs s'.fs = nchs s.fs ∧
      W.heap[Bx + 1]? = some (.cells #[.int .i64 nx] 3 (0, 0))
  box : W.heap[Bx]? = some (.cells #[.pointer (some ⟨D, 0, none⟩)] 29 (0, 0))

theorem dying_own {w0 : World} {role0 : Role} {D Bx : Nat} {s : DSt} {B : Nat} (hB : w0.heap.size ≤ B) : OwnFrom B (Dying w0 role0 D Bx s) := by
  intro pre W W' row h hg hr
  have hn : ∀ r, row = some r → ¬ isC W r := by
    rintro r e ⟨cs, t, fr, hc⟩
    obtain ⟨_, o, ho, hcc⟩ := hr r e
    rw [hc] at ho
    cases ho
    simp [Obj.isCells] at hcc
  have hkeep : ∀ (k : Nat) (cs : Array Value) (t : Nat), W.heap[k]? = some (.cells cs t (0, 0)) → W'.heap[k]? = some (.cells cs t (0, 0)) := fun k cs t hk =>
    (hg.block k (Array.getElem?_eq_some_iff.1 hk).1 (fun e => hn k e.symm ⟨_, _, _, hk⟩)).trans hk
  obtain ⟨role, s', hd, hst, e1, e2, r1, r2, nx, e3, e4, hc⟩ := h.ex
  exact ⟨⟨role, s', hd.grown hg hn, hst.grown hg (fun k e => Nat.le_trans hB (hr k e).1), e1, e2, r1, r2, nx, e3, e4, hkeep _ _ _ hc⟩, hkeep _ _ _ h.box⟩

/-- The same inside a file: j of its changes have been gone over. -/
structure Inner (w0 : World) (role0 : Role) (D Bx : Nat) (s : DSt) (i : Nat) (f : FRep) (nx : Nat) (W : World) (j : Nat) (wr : World) : Prop where
  ex : ∃ role v, DiskOK wr role D { s with fs := s.fs.set i { f with safeV := v, a := { f.a with safe := survAll s.keep nx (f.a.chs.take j) f.a.safe } } } ∧ Stp role0 role w0 wr ∧ role Bx = none ∧ role (Bx + 1) = none
  box : wr.heap[Bx]? = some (.cells #[.pointer (some ⟨D, 0, none⟩)] 29 (0, 0))
  next : wr.heap[Bx + 1]? = some (.cells #[.int .i64 ((nx + j : Nat) : Int)] 3 (0, 0))
  oth : Oth W wr

theorem nilAhead_ws (x y : Value) (w : World) : (nilAhead 252 106 (.agg #[x, y]) "cairn/disk.survive").run Try.prog w = .ok (some false) w := by kernel_rfl

theorem method_ws (x y : Value) (w : World) : (method 252 106 (.agg #[x, y]) "cairn/disk.survive").run Try.prog w = .ok (108, .agg #[x, y]) w := by kernel_rfl

theorem nilAhead_cs (x : Value) (w : World) : (nilAhead 252 109 (.agg #[x]) "cairn/disk.survive").run Try.prog w = .ok (some false) w := by kernel_rfl

theorem method_cs (x : Value) (w : World) : (method 252 109 (.agg #[x]) "cairn/disk.survive").run Try.prog w = .ok (112, .agg #[x]) w := by kernel_rfl

/-- What stands behind 'f.safe = c.survive(..)'. -/
def SafeDone (w : World) (role : Role) (D i : Nat) (s : DSt) (f : FRep) (xs : List UInt8) (b : Nat) (x : Value) (t : Nat) (e : Ending) (w1 : World) : Prop :=
  ∃ a n k, e = .returned (.slice a n k) ∧ w1.cell? ⟨f.p, 1, none⟩ = some f.safeV ∧ w1.frozen? ⟨f.p, 1, none⟩ = false ∧
    (w1.setCell ⟨f.p, 1, none⟩ (.slice a n k)).cell? ⟨b, 0, none⟩ = some x ∧ (w1.setCell ⟨f.p, 1, none⟩ (.slice a n k)).frozen? ⟨b, 0, none⟩ = false ∧
    Hid (∀ b, role b = none → b < w.heap.size → w1.heap[b]? = w.heap[b]? ∧ (w1.setCell ⟨f.p, 1, none⟩ (.slice a n k)).heap[b]? = w.heap[b]?) ∧
    Hid (∃ role', DiskOK (w1.setCell ⟨f.p, 1, none⟩ (.slice a n k)) role' D { s with fs := s.fs.set i { f with safeV := .slice a n k, a := { f.a with safe := xs } } } ∧ Stp role role' w (w1.setCell ⟨f.p, 1, none⟩ (.slice a n k)) ∧
      (w1.setCell ⟨f.p, 1, none⟩ (.slice a n k)).heap[b]? = some (.cells #[x] t (0, 0)))

theorem safe_done {w w1 : World} {role : Role} {D i : Nat} {s : DSt} {f : FRep} {v : Value} {xs : List UInt8} {b t : Nat} {x : Value} (h : DiskOK w role D s) (hi : s.fs[i]? = some f) (hg : Grew w w1 f.safeV v) (ho : w1.ownsRow 0 5 1 v xs.length (xs.map byteV)) (hx : xs.length ≤ 268435456)
    (hb : role b = none) (hbb : w.heap[b]? = some (.cells #[x] t (0, 0))) : SafeDone w role D i s f xs b x t (.returned v) w1 := by
  have hF := h.each f (List.mem_of_getElem? hi)
  have hp := h.dom _ _ hF.rp
  obtain ⟨a, k, rfl, _⟩ := own_slice ho
  have hbl : w1.heap[f.p]? = some (.cells #[.string f.a.name, f.safeV, f.chV, f.dataV] 87 (0, 0)) := (hg.by_.block _ hp (fun e => by have := hF.rsafe _ e.symm; rw [hF.rp] at this; cases this)).trans hF.blk
  obtain ⟨h1, h2⟩ := h.putSafe hi hg ho hx
  have hbb2 := (h2.keep b (Array.getElem?_eq_some_iff.1 hbb).1 (.inl hb)).trans hbb
  refine ⟨a, _, k, rfl, blk_cell hbl rfl, blk_free hbl, blk_cell hbb2 rfl, blk_free hbb2, fun b' hb' hlt => ?_, _, h1, h2, hbb2⟩
  refine ⟨hg.by_.block b' hlt (fun e => ?_), h2.keep b' hlt (.inl hb')⟩
  have := hF.rsafe _ e.symm
  rw [hb'] at this
  cases this

theorem length_surviveC {w : World} {role : Role} {c : Chg} {cv : Value} {xs : List UInt8} (k : Int) (h : ChgAt w role c cv) (hx : xs.length ≤ 268435456) : (surviveC c k xs).length ≤ 268435456 := by
  cases c with
  | inl q =>
    obtain ⟨bv, _, _, _, hb⟩ := h
    simp only [surviveC]
    split
    · rw [length_applyW]; omega
    · split
      · exact hx
      · rw [length_applyW]; simp; omega
  | inr long =>
    obtain ⟨_, hb⟩ := h
    simp only [surviveC]
    split
    · rw [length_applyT]; exact hb
    · exact hx

theorem survive_write {w : World} {role : Role} {D i : Nat} {s : DSt} {f : FRep} {at_ : Nat} {l : List UInt8} {bv : Value} {b t : Nat} {x : Value} {k : Int} (h : DiskOK w role D s) (hi : s.fs[i]? = some f) (hc : ChgAt w role (.inl (at_, l)) (.iface 106 (.agg #[.int .i64 at_, bv]))) (hk : I64 k)
    (hb : role b = none) (hbb : w.heap[b]? = some (.cells #[x] t (0, 0))) :
    Calls Try.prog 108 #[.agg #[.int .i64 at_, bv], f.safeV, .int .i64 k] w (SafeDone w role D i s f (surviveC (.inl (at_, l)) k f.a.safe) b x t) := by
  have hF := h.each f (List.mem_of_getElem? hi)
  have hl := length_surviveC k hc hF.lsafe
  obtain ⟨bv', e, hrd, hro, hbd⟩ := hc
  cases e
  refine (surviveW_any f.safeV bv at_ l k f.a.safe w hF.osafe hrd (fun a n c e => (ne_of_ro hF hro a n c e).2) hbd hF.lsafe hk).mono ?_
  rintro e w1 ⟨v, rfl, ho, hg⟩
  exact safe_done h hi hg ho hl hb hbb

theorem survive_cut {w : World} {role : Role} {D i : Nat} {s : DSt} {f : FRep} {long : Nat} {b t : Nat} {x : Value} {k : Int} (h : DiskOK w role D s) (hi : s.fs[i]? = some f) (hc : ChgAt w role (.inr long) (.iface 109 (.agg #[.int .i64 long]))) (hk : I64 k)
    (hb : role b = none) (hbb : w.heap[b]? = some (.cells #[x] t (0, 0))) :
    Calls Try.prog 112 #[.agg #[.int .i64 long], f.safeV, .int .i64 k] w (SafeDone w role D i s f (surviveC (.inr long) k f.a.safe) b x t) := by
  have hF := h.each f (List.mem_of_getElem? hi)
  have hl := length_surviveC k hc hF.lsafe
  refine (surviveT_any f.safeV long k f.a.safe w hF.osafe hc.2 hF.lsafe hk).mono ?_
  rintro e w1 ⟨v, rfl, ho, hg⟩
  exact safe_done h hi hg ho hl hb hbb

theorem posOf_spec {fs : List FRep} (x : Of fs) : (fs.map (·.p))[posOf fs x]? = some x.1.p := by
  have hm : x.1.p ∈ fs.map (·.p) := List.mem_map.2 ⟨x.1, x.2, rfl⟩
  unfold posOf
  have hlt := List.idxOf_lt_length_iff.2 hm
  rw [List.getElem?_eq_getElem hlt, List.getElem_idxOf hlt]

theorem Stp.poke {r r' : Role} {w W : World} {b o : Nat} (h : Stp r r' w W) (hb : w.heap.size ≤ b) (v : Value) : Stp r r' w (W.setCell ⟨b, o, none⟩ v) := by
  have hz : (W.setCell ⟨b, o, none⟩ v).heap.size = W.heap.size := by simp [World.setCell]
  refine ⟨h.os, h.tape, h.output, by rw [hz]; exact h.size, h.ext, fun k hk hn => (Below.heap_setCell W _ v k (fun e => ?_)).trans (h.keep k hk hn), fun k hk hn => (Below.heap_setCell W _ v k (fun e => ?_)).trans (h.others k hk hn)⟩
  · have : k = b := e
    omega
  · have : k = b := e
    omega

theorem Stp.of_drewN {r r' : Role} {w w' : World} {nq : Nat} (h : Stp r r' (w.drewN nq) w') : Stp r r' w w' := ⟨h.os, h.tape, h.output, h.size, h.ext, h.keep, h.others⟩

/-- One change more has been gone over. -/
theorem inner_next {w0 W wr W2 : World} {role0 role2 : Role} {D Bx i nx j m nq : Nat} {s1 : DSt} {f : FRep} {sv v2 : Value} {c : Chg} {kk : Int}
    (hin : Inner w0 role0 D Bx s1 i f nx W j wr) (hst2 : Stp role0 role2 w0 wr) (r3 : role2 Bx = none) (r4 : role2 (Bx + 1) = none) (hBx : w0.heap.size ≤ Bx) (hm : m = nx + j) (hc : f.a.chs[j]? = some c) (hkk : kk = keepAt s1.keep m)
    (HS : ∃ role', DiskOK W2 role' D { ({ s1 with fs := s1.fs.set i { f with safeV := sv, a := { f.a with safe := survAll s1.keep nx (f.a.chs.take j) f.a.safe } } } : DSt) with fs := (s1.fs.set i { f with safeV := sv, a := { f.a with safe := survAll s1.keep nx (f.a.chs.take j) f.a.safe } }).set i { ({ f with safeV := sv, a := { f.a with safe := survAll s1.keep nx (f.a.chs.take j) f.a.safe } } : FRep) with safeV := v2, a := { ({ f with safeV := sv, a := { f.a with safe := survAll s1.keep nx (f.a.chs.take j) f.a.safe } } : FRep).a with safe := surviveC c kk (survAll s1.keep nx (f.a.chs.take j) f.a.safe) } } } ∧
      Stp role2 role' (wr.drewN nq) W2 ∧ W2.heap[Bx + 1]? = some (.cells #[.int .i64 m] 3 (0, 0))) :
    Inner w0 role0 D Bx s1 i f nx W (j + 1) (W2.setCell ⟨Bx + 1, 0, none⟩ (.int .i64 ((m : Int) + 1))) := by
  obtain ⟨role', hd, hs, hb⟩ := HS
  have hlt : Bx + 1 < wr.heap.size := (Array.getElem?_eq_some_iff.1 hin.next).1
  have e3 : role' Bx = none := (hs.ext Bx (by show Bx < wr.heap.size; omega)).trans r3
  have e4 : role' (Bx + 1) = none := (hs.ext (Bx + 1) hlt).trans r4
  refine ⟨⟨role', v2, ?_, (hst2.trans hs.of_drewN).poke (by omega) _, e3, e4⟩, ?_, ?_, ?_⟩
  · have hd2 := hd.poke (o := 0) e4 (.int .i64 ((m : Int) + 1))
    simp only [List.set_set] at hd2
    have e : survAll s1.keep nx (f.a.chs.take (j + 1)) f.a.safe = surviveC c kk (survAll s1.keep nx (f.a.chs.take j) f.a.safe) := by
      obtain ⟨hj, hcj⟩ := List.getElem?_eq_some_iff.1 hc
      rw [List.take_succ_eq_append_getElem hj, hcj, survAll_snoc, hkk, hm]
      simp [Nat.min_eq_left (Nat.le_of_lt hj)]
    rw [e]
    exact hd2
  · have h1 : W2.heap[Bx]? = wr.heap[Bx]? := hs.keep Bx (by show Bx < wr.heap.size; omega) (.inl r3)
    exact (Below.heap_setCell W2 _ _ Bx (fun e => by have : Bx = Bx + 1 := e; omega)).trans (h1.trans hin.box)
  · have := blk_set (o := 0) hb (.int .i64 ((m : Int) + 1))
    rw [this, hm]
    simp
    omega
  · exact (hin.oth.trans hs.of_drewN.oth).trans (Oth.setCell hb _)

theorem Rd.of_own {w : World} {v : Value} {l : List UInt8} (h : w.ownsRow 0 5 1 v l.length (l.map byteV)) : Rd w v l := by
  rcases h.2 with ⟨rfl, h0⟩ | ⟨g, cap, cur, rfl, _, hg, hn, _, _, ht⟩
  · have e : l = [] := List.eq_nil_of_length_eq_zero h0
    subst e
    exact ⟨none, 0, rfl, Nat.le_refl _, fun j x hx => by simp at hx⟩
  · refine ⟨some ⟨g, 0, none⟩, cap, rfl, hn, fun j x hx => ⟨_, rfl, ?_⟩⟩
    rw [Addr.add_lit, Nat.zero_add]
    refine blk_cell hg ?_
    have hj := (List.getElem?_eq_some_iff.1 hx).1
    have e : (l.map byteV)[j]? = some (byteV x) := by simp [hx]
    rw [← ht, List.getElem?_take, if_pos (by omega)] at e
    simpa using e

theorem hideP {p : Prop} (h : p) : Hid p := h

theorem pos_attach {fs : List FRep} (hn : (fs.map (·.p)).Nodup) : fs.attach.map (posOf fs) = List.range fs.length := by
  apply List.ext_getElem
  · simp
  · intro i h1 h2
    have hi : i < fs.length := by simpa using h2
    simp only [List.getElem_map, List.getElem_attach, List.getElem_range]
    unfold posOf
    have h3 : i < (fs.map (·.p)).length := by simpa using hi
    have h4 := hn.idxOf_getElem i h3
    simpa using h4

theorem dieAll_append (keep : List Int) : ∀ (a b : List AFile) (nx : Nat), dieAll keep nx (a ++ b) = dieAll keep nx a ++ dieAll keep (nx + (a.map (·.chs.length)).sum) b
  | [], b, nx => by simp [dieAll]
  | x :: a, b, nx => by
    simp only [List.cons_append, dieAll, List.map_cons, List.sum_cons]
    rw [dieAll_append keep a b]
    simp [Nat.add_assoc]

theorem length_dieAll (keep : List Int) : ∀ (l : List AFile) (nx : Nat), (dieAll keep nx l).length = l.length
  | [], _ => rfl
  | _ :: l, nx => by simp [dieAll, length_dieAll keep l]

theorem fold_range (keep : List Int) (l : List AFile) : ∀ k, k ≤ l.length → (List.range k).foldl (dieStep keep) (0, l) = (((l.take k).map (·.chs.length)).sum, dieAll keep 0 (l.take k) ++ l.drop k)
  | 0, _ => by simp [dieAll]
  | k + 1, hk => by
    rw [List.range_succ, List.foldl_append, fold_range keep l k (by omega)]
    have hlt : k < l.length := by omega
    simp only [List.foldl_cons, List.foldl_nil, dieStep]
    have hld : (dieAll keep 0 (l.take k)).length = k := by rw [length_dieAll]; simp; omega
    have hget : (dieAll keep 0 (l.take k) ++ l.drop k)[k]? = some l[k] := by
      rw [List.getElem?_append_right (by omega), hld]
      simp [hlt]
    simp only [hget]
    rw [List.take_succ_eq_append_getElem hlt]
    congr 1
    · simp only [List.map_append, List.sum_append, List.map_cons, List.map_nil, List.sum_cons, List.sum_nil, Nat.add_zero]
    · rw [List.set_append_right _ _ (by omega), hld, dieAll_append, List.drop_eq_getElem_cons hlt]
      simp only [Nat.sub_self, dieAll, Nat.zero_add, List.append_assoc, List.set_cons_zero, List.cons_append, List.nil_append]

theorem fold_all (keep : List Int) (fs : List FRep) (hn : (fs.map (·.p)).Nodup) : (fs.attach.map (posOf fs)).foldl (dieStep keep) (0, fs.map (·.a)) = (((fs.map (·.a)).map (·.chs.length)).sum, dieAll keep 0 (fs.map (·.a))) := by
  rw [pos_attach hn]
  have := fold_range keep (fs.map (·.a)) fs.length (by simp)
  rw [this, List.take_of_length_le (by simp), List.drop_eq_nil_of_le (by simp), List.append_nil]

theorem own_base {w : World} {base e n : Nat} {v : Value} {xs : List Value} (h : w.ownsRow base e 1 v n xs) : w.ownsRow 0 e 1 v n xs := by
  obtain ⟨hl, h | ⟨g, cap, cur, rfl, hb, hr⟩⟩ := h
  · exact ⟨hl, .inl h⟩
  · exact ⟨hl, .inr ⟨g, cap, cur, rfl, Nat.zero_le _, hr⟩⟩

theorem Oth.keeps {W W' : World} (h : Oth W W') (B : Nat) : KeepsFrom B W W' :=
  ⟨h.size, fun k o _ hk ho => (h.same k (Array.getElem?_eq_some_iff.1 hk).1 (fun ⟨cs, t, fr, hc⟩ => by rw [hc] at hk; cases hk; simp [Obj.isCells] at ho)).trans hk⟩

theorem RowI.of_ptr {W : World} {v : Value} {fs fs' : List FRep} (h : RowI W v fs) (e : fs'.map (·.p) = fs.map (·.p)) : RowI W v fs' := by
  have hl : fs'.length = fs.length := by have := congrArg List.length e; simpa using this
  rcases h with ⟨rfl, rfl⟩ | ⟨g, c, rfl, hr⟩
  · exact .inl ⟨rfl, List.eq_nil_of_length_eq_zero (by simpa using hl)⟩
  · refine .inr ⟨g, c, by rw [hl], fun j f hf => ?_⟩
    have h1 : (fs'.map (·.p))[j]? = some f.p := by simp [hf]
    rw [e, List.getElem?_map, Option.map_eq_some_iff] at h1
    obtain ⟨f2, h2, h3⟩ := h1
    have := hr j f2 h2
    rw [this]
    simp [ptrV, h3]

/-- A file has been gone over. -/
theorem die_file {w0 W wr w2 : World} {role0 : Role} {B D Bx i nx : Nat} {s s1 : DSt} {f : FRep} {pre : List (Of s.fs)} {x : Of s.fs} {l : List UInt8}
    (hin : Inner w0 role0 D Bx s1 i f nx W f.a.chs.length wr) (hf : s1.fs[i]? = some f)
    (HE : s1 = { s with fs := s1.fs } ∧ s1.fs.map (·.p) = s.fs.map (·.p) ∧ (nx, s1.fs.map (·.a)) = (pre.map (posOf s.fs)).foldl (dieStep s.keep) (0, s.fs.map (·.a)) ∧ nx + nchs s1.fs = nchs s.fs ∧ f.p = x.1.p ∧ i = posOf s.fs x)
    (hl : l = survAll s1.keep nx f.a.chs f.a.safe)
    (hb : Below (wr.setCell ⟨f.p, 2, none⟩ (.slice none 0 0)).heap.size (wr.setCell ⟨f.p, 2, none⟩ (.slice none 0 0)) w2)
    (ho : w2.ownsRow (wr.setCell ⟨f.p, 2, none⟩ (.slice none 0 0)).heap.size 5 1 (.slice (some ⟨(wr.setCell ⟨f.p, 2, none⟩ (.slice none 0 0)).heap.size, 0, none⟩) l.length l.length) l.length (l.map byteV)) :
    KeepsFrom B W (w2.setCell ⟨f.p, 3, none⟩ (.slice (some ⟨(wr.setCell ⟨f.p, 2, none⟩ (.slice none 0 0)).heap.size, 0, none⟩) l.length l.length)) ∧ KpR s.filesV s.fs W (w2.setCell ⟨f.p, 3, none⟩ (.slice (some ⟨(wr.setCell ⟨f.p, 2, none⟩ (.slice none 0 0)).heap.size, 0, none⟩) l.length l.length)) ∧
      Dying w0 role0 D Bx s (pre ++ [x]) (w2.setCell ⟨f.p, 3, none⟩ (.slice (some ⟨(wr.setCell ⟨f.p, 2, none⟩ (.slice none 0 0)).heap.size, 0, none⟩) l.length l.length)) := by
  obtain ⟨e1, e2, e3, e4, e5, e6⟩ := HE
  obtain ⟨role2, sv, hd2, hst2, r3, r4⟩ := hin.ex
  have hilt : i < s1.fs.length := (List.getElem?_eq_some_iff.1 hf).1
  rw [List.take_length, ← hl] at hd2
  have hi2 : (s1.fs.set i { f with safeV := sv, a := { f.a with safe := l } })[i]? = some { f with safeV := sv, a := { f.a with safe := l } } := by simp [hilt]
  have hF2 := hd2.each _ (List.mem_of_getElem? hi2)
  -- its changes are let go
  have hg1 : Grew wr wr f.chV (.slice none 0 0) := ⟨World.grownBy.refl _ _, fun k e => by simp [Value.ownBlock] at e⟩
  obtain ⟨hd3, hs3⟩ := hd2.putChs (cs := []) (vals := []) hi2 hg1 (World.ownsRow_nil _ _ _ _) (fun j c h => by simp at h) (by have h := hd2.nch; simp only [List.length_nil] at h ⊢; omega)
  simp only [List.set_set] at hd3
  generalize hW1 : wr.setCell ⟨f.p, 2, none⟩ (.slice none 0 0) = W1 at *
  generalize hr3 : extR role2 wr W1 (5, f.p) = role3 at *
  have hi3 : (s1.fs.set i { f with safeV := sv, chV := .slice none 0 0, a := { f.a with safe := l, chs := [] } })[i]? = some { f with safeV := sv, chV := .slice none 0 0, a := { f.a with safe := l, chs := [] } } := by simp [hilt]
  -- its data are what is safe
  have hg2 : Grew W1 w2 f.dataV (.slice (some ⟨W1.heap.size, 0, none⟩) l.length l.length) :=
    ⟨⟨hb.os, hb.tape, hb.output, hb.size, fun k hk _ => hb.block k hk⟩, fun k e => .inr (by simp only [Value.ownBlock, Option.some.injEq] at e; omega)⟩
  obtain ⟨hd4, hs4⟩ := hd3.putData hi3 hg2 (own_base ho) hF2.lsafe
  simp only [List.set_set] at hd4
  generalize hW4 : w2.setCell ⟨f.p, 3, none⟩ (.slice (some ⟨W1.heap.size, 0, none⟩) l.length l.length) = W4 at *
  generalize hr4 : extR role3 W1 W4 (4, f.p) = role4 at *
  have hst := (hst2.trans hs3).trans hs4
  have hlt1 : Bx + 1 < wr.heap.size := (Array.getElem?_eq_some_iff.1 hin.next).1
  have hlt3 : wr.heap.size ≤ W1.heap.size := hs3.size
  have q3 : role3 Bx = none := (hs3.ext Bx (by omega)).trans r3
  have q4 : role3 (Bx + 1) = none := (hs3.ext (Bx + 1) hlt1).trans r4
  have t3 : role4 Bx = none := (hs4.ext Bx (by omega)).trans q3
  have t4 : role4 (Bx + 1) = none := (hs4.ext (Bx + 1) (by omega)).trans q4
  have hkeep : s1.keep = s.keep := by rw [e1]
  have ha : (s1.fs.map (·.a))[i]? = some f.a := by simp [hf]
  have hmp : ∀ g : FRep, g.p = f.p → (s1.fs.set i g).map (·.p) = s.fs.map (·.p) := fun g hg => (map_set_same (fun f : FRep => f.p) s1.fs i f g hf hg).trans e2
  refine ⟨((hin.oth.trans hs3.oth).trans hs4.oth).keeps _, fun _ => ?_, ⟨role4, _, hd4, hst, ?_, ?_, t3, t4, nx + f.a.chs.length, ?_, ?_, ?_⟩, ?_⟩
  · have h1 := hd4.rowI
    simp only at h1
    have e7 : s1.filesV = s.filesV := by rw [e1]
    rw [e7] at h1
    refine h1.of_ptr (Eq.symm (hmp _ ?_))
    rfl
  · rw [e1]
  · refine hmp _ ?_
    rfl
  · rw [List.map_append, List.foldl_append, ← e3, List.map_cons, List.map_nil, List.foldl_cons, List.foldl_nil, ← e6]
    simp only [dieStep, ha]
    simp only [List.map_set, dieA, ← hkeep, ← hl]
  · have := nchs_set (f' := { f with safeV := sv, chV := .slice none 0 0, dataV := .slice (some ⟨W1.heap.size, 0, none⟩) l.length l.length, a := { f.a with safe := l, chs := [], data := l } }) hf
    simp only [List.length_nil] at this
    simp only
    omega
  · have h1 := (hs4.keep (Bx + 1) (by omega) (.inl q4)).trans ((hs3.keep (Bx + 1) hlt1 (.inl r4)).trans hin.next)
    exact h1
  · exact (hs4.keep Bx (by omega) (.inl q3)).trans ((hs3.keep Bx (by omega) (.inl r3)).trans hin.box)

set_option maxHeartbeats 4000000 in
set_option maxRecDepth 100000 in
theorem die_in {w : World} {role : Role} {D : Nat} {s : DSt} (h : DiskOK w role D s) (n : Nat) (hn : 8 ≤ n) :
    CallsIn Fence.wide n Try.prog 56 #[.pointer (some ⟨D, 0, none⟩)] w fun e w' => (∃ v, e = .returned v) ∧ ∃ role' s', DiskOK w' role' D s' ∧ Stp role role' w w' ∧
      s' = { s with dead := true, fs := s'.fs } ∧ s'.fs.map (·.a) = dieAll s.keep 0 (s.fs.map (·.a)) := by
  have h1 : 1 ≤ n := by omega
  refine callsIn_of_wp_marks Try.func56 rfl trivial ?_ rfl
  simp only [Try.ntmps56, List.size_toArray, List.length_cons, List.length_nil, Nat.reduceAdd, Nat.reduceSub, Array.replicate_succ, Array.replicate_zero, List.push_toArray, List.append_toArray, List.nil_append, List.cons_append]
  gi_wp2_with (refine ⟨trivial, ?_⟩; gi_at_call 51; refine (all_in _ _ _).mono ?_; rintro e w' ⟨rfl, rfl⟩)
  obtain ⟨W0, hW0⟩ : ∃ W0, ((w.alloc (.cells #[.pointer (some ⟨D, 0, none⟩)] 29)).alloc (.cells #[.int .i64 0] 3)).alloc (.cells #[.pointer (some ⟨D, 0, none⟩)] 29) = W0 := ⟨_, rfl⟩
  have hsz : W0.heap.size = w.heap.size + 3 := by rw [← hW0]; simp
  have hB0 : Below w.heap.size w W0 := by rw [← hW0]; exact (((Below.refl _ w).alloc (Nat.le_refl _) _).alloc (by simp) _).alloc (by simp; omega) _
  have hd0 := h.still hB0
  have hro0 : ∀ k, w.heap.size ≤ k → role k = none := fun k hk => by
    cases e : role k with
    | none => rfl
    | some q => have := h.dom k q e; omega
  have hx0 : W0.heap[w.heap.size]? = some (.cells #[.pointer (some ⟨D, 0, none⟩)] 29 (0, 0)) := by
    rw [← hW0]
    exact (Below.heap_alloc _ _ _ (by simp; omega)).trans ((Below.heap_alloc _ _ _ (by simp)).trans (World.alloc_heap_new w _))
  have hx1 : W0.heap[w.heap.size + 1]? = some (.cells #[.int .i64 0] 3 (0, 0)) := by
    rw [← hW0]
    refine (Below.heap_alloc _ _ _ (by simp)).trans ?_
    have := World.alloc_heap_new (w.alloc (.cells #[.pointer (some ⟨D, 0, none⟩)] 29)) (.cells #[.int .i64 0] 3)
    rwa [World.size_alloc] at this
  have hx2 : W0.cell? ⟨w.heap.size + 1 + 1, 0, none⟩ = some (.pointer (some ⟨D, 0, none⟩)) := by
    rw [← hW0]
    have := (cell_new (W := (w.alloc (.cells #[.pointer (some ⟨D, 0, none⟩)] 29)).alloc (.cells #[.int .i64 0] 3)) (.pointer (some ⟨D, 0, none⟩)) 29).1
    rwa [World.size_alloc, World.size_alloc] at this
  rw [hW0]
  clear hW0
  refine wpIn_rangeFunc_ownG rfl h1 (gf := 73) (lb := #[.pointer (some ⟨w.heap.size + 1 + 1, 0, none⟩)]) rfl trivial (enters_of Try.func73 (by kernel_rfl) rfl)
    (all_stops (n - 1) (by omega) (w.heap.size + 1 + 1) D s.filesV s.fs W0 h.few hx2 hd0.cells.2.2 hd0.rowI) KpR.trans (KpR.putObj (fun g e => (hd0.files.lt g e).2)) (Below.refl _ _) (fun _ => rfl)
    (Dying w role D w.heap.size s)
    (fun _ _ _ => False)
    (dying_own (by omega))
    (fun _ _ _ _ _ hs _ _ => hs)
    ⟨⟨role, s, hd0, Stp.still hB0, rfl, rfl, hro0 _ (Nat.le_refl _), hro0 _ (by omega), 0, rfl, by simp, hx1⟩, hx0⟩
    (fun x => { tmps := #[.pointer (some ⟨D, 0, none⟩), .pointer (some ⟨w.heap.size, 0, none⟩), .pointer (some ⟨w.heap.size + 1, 0, none⟩), ptrV x.1, undef, undef, .pointer (some ⟨D, 0, none⟩), .func (.func 73) #[] #[.pointer (some ⟨w.heap.size + 1 + 1, 0, none⟩)], ptrV x.1, undef, undef, undef, undef, undef, undef, undef, undef, undef, undef, undef, undef, undef, undef, undef, undef, undef, undef, undef, undef, undef, undef, undef, undef, undef, undef, undef, undef, undef, undef, undef, undef, undef, undef, undef, undef, undef, undef, undef, undef, undef], defers := [] }) ?assign ?body ?done ?stop
  case assign =>
    intro l x W K hK
    gi_wp2
    exact hK
  case body =>
    rintro l pre x W hDy hlt
    obtain ⟨role1, s1, hd1, hst1, e1, e2, r1, r2, nx, e3, e4, hnext⟩ := hDy.ex
    have hbox := hDy.box
    have hpos := posOf_spec x
    rw [← e2, List.getElem?_map, Option.map_eq_some_iff] at hpos
    obtain ⟨f, hf, hfp⟩ := hpos
    obtain ⟨i, hi⟩ : ∃ i, i = posOf s.fs x := ⟨_, rfl⟩
    rw [← hi] at hf
    have hF := hd1.each f (List.mem_of_getElem? hf)
    have hch : W.cell? ⟨f.p, 2, none⟩ = some f.chV := blk_cell hF.blk rfl
    obtain ⟨vals, hvals, _⟩ := hF.och
    obtain ⟨ac, kc, hcv, _⟩ := own_slice hvals
    have hchl : f.a.chs.length ≤ nchs s1.fs := by
      have := nchs_set (f' := { f with a := { f.a with chs := [] } }) hf
      simp only [List.length_nil] at this
      omega
    have hops := hd1.iO
    have hnch := hd1.nch
    have hnxl : nx + f.a.chs.length ≤ 1099511627776 := by
      have h4 := h.iO
      have h5 := h.nch
      omega
    simp only [ptrV]
    rw [← hfp]
    have HD1 : Hid (DiskOK W role1 D s1) := hd1
    have HF : Hid (s1.fs[i]? = some f) := hf
    have hin0 : Inner w role D w.heap.size s1 i f nx W 0 W := by
      refine ⟨⟨role1, f.safeV, ?_, hst1, r1, r2⟩, hbox, hnext, Oth.refl _⟩
      have e : s1.fs.set i { f with safeV := f.safeV, a := { f.a with safe := survAll s1.keep nx (f.a.chs.take 0) f.a.safe } } = s1.fs := by
        obtain ⟨h1, h2⟩ := List.getElem?_eq_some_iff.1 hf
        simp only [List.take_zero, survAll]
        rw [← h2, List.set_getElem_self]
      rw [e]
      exact hd1
    rw [hcv] at hch
    have HE : Hid (s1 = { s with fs := s1.fs } ∧ s1.fs.map (·.p) = s.fs.map (·.p) ∧ (nx, s1.fs.map (·.a)) = (pre.map (posOf s.fs)).foldl (dieStep s.keep) (0, s.fs.map (·.a)) ∧ nx + nchs s1.fs = nchs s.fs ∧ f.p = x.1.p ∧ i = posOf s.fs x ∧ f.chV = .slice ac f.a.chs.length kc) := ⟨e1, e2, e3, e4, hfp, hi, hcv⟩
    clear hd1 hf hF hvals hnext hbox hDy e1 e2 e3 e4 hfp hi hcv r1 r2 hst1 hchl hops hnch
    gi_wp2
    gi_loopw [5, 14] (fun _ q wr => ∃ j : Nat, j ≤ f.a.chs.length ∧ q = .int .i64 j ∧ Hid (Inner w role D w.heap.size s1 i f nx W j wr)) (fun _ q _ => f.a.chs.length - (intOf q).toNat)
    case atStart => exact ⟨0, Nat.zero_le _, rfl, hin0⟩
    case round =>
      obtain ⟨j, hj, rfl, hin⟩ := hrel
      by_cases hjl : j < f.a.chs.length
      · obtain ⟨role2, sv, hd2, hst2, r3, r4⟩ := hin.out.ex
        have hbox2 := hin.out.box
        have hnx2 := hin.out.next
        have hF2i : (s1.fs.set i { f with safeV := sv, a := { f.a with safe := survAll s1.keep nx (f.a.chs.take j) f.a.safe } })[i]? = some { f with safeV := sv, a := { f.a with safe := survAll s1.keep nx (f.a.chs.take j) f.a.safe } } := by
          simp [(List.getElem?_eq_some_iff.1 HF.out).1]
        have hF2 := hd2.each _ (List.mem_of_getElem? hF2i)
        obtain ⟨vals, hvals, hat⟩ := hF2.och
        obtain ⟨cv, hcvj, hcat⟩ := hat j f.a.chs[j] (by simp [hjl])
        obtain ⟨g, hg, hgc⟩ : ∃ g, ac = some ⟨g, 0, none⟩ ∧ wr.cell? ⟨g, j, none⟩ = some cv := by
          have e := HE.out.2.2.2.2.2.2
          simp only [e] at hvals
          rcases hvals.2 with ⟨_, e0⟩ | ⟨g, cap, cur, e0, _, hgg, _, _, _, ht⟩
          · exact absurd hjl (by omega)
          · simp only [Value.slice.injEq] at e0
            refine ⟨g, e0.1, blk_cell hgg ?_⟩
            rw [← ht, List.getElem?_take] at hcvj
            split at hcvj
            · simpa using hcvj
            · cases hcvj
        subst hg
        obtain ⟨c, hcc⟩ : ∃ c, c = f.a.chs[j] := ⟨_, rfl⟩
        rw [← hcc] at hcat
        have HC : Hid (c = f.a.chs[j]) := hcc
        obtain ⟨m, hm⟩ : ∃ m, m = nx + j := ⟨_, rfl⟩
        have hml : m ≤ 1099511627776 := by omega
        have HM : Hid (m = nx + j) := hm
        rw [← hm] at hnx2
        have hI : I64 (keepAt s1.keep m) := keepAt_I64 (fun x hx => hd2.keep.each x hx) m
        have hkeep := keep_any hd2.drew m (by omega)
        simp only at hkeep
        obtain ⟨kk, hkk⟩ : ∃ kk, kk = keepAt s1.keep m := ⟨_, rfl⟩
        rw [← hkk] at hI hkeep
        have HK : Hid (kk = keepAt s1.keep m) := hkk
        have hb1 : wr.cell? ⟨w.heap.size, 0, none⟩ = some (.pointer (some ⟨D, 0, none⟩)) := blk_cell hbox2 rfl
        have hb2 : wr.cell? ⟨w.heap.size + 1, 0, none⟩ = some (.int .i64 m) := blk_cell hnx2 rfl
        have hb3 : wr.frozen? ⟨w.heap.size + 1, 0, none⟩ = false := blk_free hnx2
        have hs1 : wr.cell? ⟨f.p, 1, none⟩ = some sv := blk_cell hF2.blk rfl
        cases c with
        | inl q =>
          obtain ⟨at_, l'⟩ := q
          obtain ⟨bv, e, _⟩ := id hcat
          subst e
          have hsur := fun nq => survive_write (b := w.heap.size + 1) (t := 3) (x := .int .i64 m) (hd2.drewN nq) hF2i hcat hI r4 hnx2
          have HSU : Hid (∀ nq, Calls Try.prog 108 #[.agg #[.int .i64 at_, bv], sv, .int .i64 kk] (wr.drewN nq) (SafeDone (wr.drewN nq) role2 D i { s1 with fs := s1.fs.set i { f with safeV := sv, a := { f.a with safe := survAll s1.keep nx (f.a.chs.take j) f.a.safe } } } { f with safeV := sv, a := { f.a with safe := survAll s1.keep nx (f.a.chs.take j) f.a.safe } } (surviveC (.inl (at_, l')) kk (survAll s1.keep nx (f.a.chs.take j) f.a.safe)) (w.heap.size + 1) (.int .i64 m) 3)) := hsur
          have HD2 : Hid (DiskOK wr role2 D { s1 with fs := s1.fs.set i { f with safeV := sv, a := { f.a with safe := survAll s1.keep nx (f.a.chs.take j) f.a.safe } } }) := hd2
          have HKE : Hid (Calls Try.prog 74 #[.pointer (some ⟨D, 0, none⟩), .int .i64 m] wr.drew fun e w' => e = .returned (.int .i64 kk) ∧ ∃ nq, w' = wr.drew.drewN nq) := hkeep
          have HR3 : Hid (role2 w.heap.size = none) := r3
          have HR4 : Hid (role2 (w.heap.size + 1) = none) := r4
          have HST2 : Hid (Stp role role2 w wr) := hst2
          have HIN : Hid (Inner w role D w.heap.size s1 i f nx W j wr) := hin
          have HL : Hid (w.heap.size < wr.heap.size ∧ w.heap.size + 1 < wr.heap.size ∧ wr.heap[w.heap.size]? = some (.cells #[.pointer (some ⟨D, 0, none⟩)] 29 (0, 0)) ∧ wr.heap[w.heap.size + 1]? = some (.cells #[.int .i64 m] 3 (0, 0))) := ⟨(Array.getElem?_eq_some_iff.1 hbox2).1, (Array.getElem?_eq_some_iff.1 hnx2).1, hbox2, hnx2⟩
          have hna := nilAhead_ws (.int .i64 at_) bv
          have hme := method_ws (.int .i64 at_) bv
          clear hsur hd2 hkeep hkk hcc hm hat hvals hcvj hF2 hF2i hcat hnx2 hbox2 hin hst2 r3 r4
          have hn2 : 1 ≤ n - 1 - 1 := by omega
          gi_wp2
          refine regionIn_held (S := fun V => V.cell? ⟨w.heap.size, 0, none⟩ = some (.pointer (some ⟨D, 0, none⟩)) ∧ V.cell? ⟨w.heap.size + 1, 0, none⟩ = some (.int .i64 m)) (by kernel_rfl) (fun ⟨_, _, h⟩ => h) (nd_of (by kernel_rfl)) ⟨hb1, hb2⟩ (fun hS => ?_)
          refine wpAnyH_take (i := 0) (v := ?_) rfl (by kernel_rfl) (by kernel_rfl) (by kernel_rfl) (fun _ _ _ h => h) (Or.inl ⟨by rfl, ?_⟩) hS ?_
          rotate_left
          · intro V hV
            (try dsimp only at hV)
            go_simp
            (try with_reducible rfl)
          simp only [Act.put, List.setIfInBounds_toArray]
          refine wpAnyH_take (i := 1) (v := ?_) rfl (by kernel_rfl) (by kernel_rfl) (by kernel_rfl) (fun _ _ _ h => h) (Or.inl ⟨by rfl, ?_⟩) hS ?_
          rotate_left
          · intro V hV
            (try dsimp only at hV)
            go_simp
            (try with_reducible rfl)
          simp only [Act.put]
          refine wpAnyH_take (i := 2) (v := ?_) rfl (by kernel_rfl) (by kernel_rfl) (by kernel_rfl) (fun _ _ _ h => h) (Or.inl ⟨by rfl, ?_⟩) hS ?_
          rotate_left
          · intro V hV
            (try dsimp only at hV)
            go_simp
            (try with_reducible rfl)
          simp only [Act.put]
          refine wpAnyH_take (i := 3) (v := ?_) rfl (by kernel_rfl) (by kernel_rfl) (by kernel_rfl) (fun _ _ _ h => h) (Or.inl ⟨by rfl, ?_⟩) hS ?_
          rotate_left
          · intro V hV
            (try dsimp only at hV)
            go_simp
            (try with_reducible rfl)
          simp only [Act.put]
          refine wpAnyH_take (i := 4) (v := ?_) rfl (by kernel_rfl) (by kernel_rfl) (by kernel_rfl) (fun _ _ _ h => h) (Or.inl ⟨by rfl, ?_⟩) hS ?_
          rotate_left
          · intro V hV
            (try dsimp only at hV)
            go_simp
            (try with_reducible rfl)
          simp only [Act.put]
          refine wpAnyH_take (i := 6) (v := ?_) rfl (by kernel_rfl) (by kernel_rfl) (by kernel_rfl) (fun _ _ _ h => h) (Or.inl ⟨by rfl, ?_⟩) hS ?_
          rotate_left
          · intro V hV
            (try dsimp only at hV)
            go_simp
            (try with_reducible rfl)
          simp only [Act.put]
          refine wpAnyH_take (i := 7) (v := ?_) rfl (by kernel_rfl) (by kernel_rfl) (by kernel_rfl) (fun _ _ _ h => h) (Or.inl ⟨by rfl, ?_⟩) hS ?_
          rotate_left
          · intro V hV
            (try dsimp only at hV)
            go_simp
            (try with_reducible rfl)
          simp only [Act.put]
          refine wpAnyH_take (i := 9) (v := ?_) rfl (by kernel_rfl) (by kernel_rfl) (by kernel_rfl) (fun _ _ _ h => h) (Or.inl ⟨by rfl, ?_⟩) hS ?_
          rotate_left
          · intro V hV
            (try dsimp only at hV)
            go_simp
            (try with_reducible rfl)
          simp only [Act.put]
          refine wpAnyH_take (i := 10) (v := ?_) rfl (by kernel_rfl) (by kernel_rfl) (by kernel_rfl) (fun _ _ _ h => h) (Or.inl ⟨by rfl, ?_⟩) hS ?_
          rotate_left
          · intro V hV
            (try dsimp only at hV)
            go_simp
            (try with_reducible rfl)
          simp only [Act.put]
          refine wpAnyH_take (i := 11) (v := ?_) rfl (by kernel_rfl) (by kernel_rfl) (by kernel_rfl) (fun _ _ _ h => h) (Or.inl ⟨by rfl, ?_⟩) hS ?_
          rotate_left
          · intro V hV
            (try dsimp only at hV)
            go_simp
            (try with_reducible rfl)
          simp only [Act.put]
          refine wpAnyH_ready (rs := [5, 8]) (by kernel_rfl) (by simp) ?_
          refine AllReadyH.cons rfl (fun K hK => ?_) (AllReadyH.cons rfl (fun K hK => ?_) AllReadyH.nil)
          · go_simp
            refine hK.out _ _ hS (fun hS => ?_)
            refine wpAnyH_ready (rs := [8]) (by kernel_rfl) (by simp) (AllReadyH.cons rfl (fun K hK => ?_) AllReadyH.nil)
            · go_simp
              refine HKE.out.mono ?_
              rintro e w' ⟨rfl, nq, rfl⟩
              refine hK.out _ _ hS (fun hS => ?_)
              refine wpAnyH_ready (rs := [12]) (by kernel_rfl) (by simp) (AllReadyH.cons rfl (fun K hK => ?_) AllReadyH.nil)
              go_simp
              refine (HSU.out _).mono ?_
              rintro e w4 ⟨a4, n4, k4, rfl, p1, p2, p3, p4, HB, HS⟩
              refine hK.out _ _ ⟨(blk_cell ((HB.out _ HR3.out (by exact HL.out.1)).1.trans HL.out.2.2.1) rfl), (blk_cell ((HB.out _ HR4.out (by exact HL.out.2.1)).1.trans HL.out.2.2.2) rfl)⟩ (fun hS => ?_)
              refine wpAnyH_take (i := 13) (v := ?_) rfl (by kernel_rfl) (by kernel_rfl) (by kernel_rfl) (fun _ _ _ h => h) (Or.inl ⟨by rfl, ?_⟩) hS ?_
              rotate_left
              · intro V hV
                (try dsimp only at hV)
                go_simp
                (try with_reducible rfl)
              simp only [Act.put]
              refine wpAnyH_take (i := 14) (v := ?_) rfl (by kernel_rfl) (by kernel_rfl) (by kernel_rfl) (fun _ _ _ h => h) (Or.inl ⟨by rfl, ?_⟩) hS ?_
              rotate_left
              · intro V hV
                (try dsimp only at hV)
                go_simp
                (try with_reducible rfl)
              simp only [Act.put]
              refine wpAnyH_ready (rs := [15]) (by kernel_rfl) (by simp) (AllReadyH.cons rfl (fun K hK => ?_) AllReadyH.nil)
              go_simp
              refine hK.out _ _ ⟨(blk_cell ((HB.out _ HR3.out (by exact HL.out.1)).2.trans HL.out.2.2.1) rfl), p3⟩ (fun hS => wpAnyH_done (by kernel_rfl) ?_ _)
              have HST : Hid (Inner w role D w.heap.size s1 i f nx W (j + 1) ((w4.setCell ⟨f.p, 1, none⟩ (.slice a4 n4 k4)).setCell ⟨w.heap.size + 1, 0, none⟩ (.int .i64 ((m : Int) + 1)))) := inner_next HIN.out HST2.out HR3.out HR4.out (Nat.le_refl _) HM.out (by rw [HC.out]; simp [hjl]) HK.out HS.out
              clear HS HB p1 p2 hS hK
              gi_wp2
              go_roundw
              case rel => exact ⟨j + 1, by omega, by go_num, HST⟩
              case measure => simp [intOf]; omega
          · go_simp
            refine HKE.out.mono ?_
            rintro e w' ⟨rfl, nq, rfl⟩
            refine hK.out _ _ hS (fun hS => ?_)
            refine wpAnyH_ready (rs := [5]) (by kernel_rfl) (by simp) (AllReadyH.cons rfl (fun K hK => ?_) AllReadyH.nil)
            · go_simp
              refine hK.out _ _ hS (fun hS => ?_)
              refine wpAnyH_ready (rs := [12]) (by kernel_rfl) (by simp) (AllReadyH.cons rfl (fun K hK => ?_) AllReadyH.nil)
              go_simp
              refine (HSU.out _).mono ?_
              rintro e w4 ⟨a4, n4, k4, rfl, p1, p2, p3, p4, HB, HS⟩
              refine hK.out _ _ ⟨(blk_cell ((HB.out _ HR3.out (by exact HL.out.1)).1.trans HL.out.2.2.1) rfl), (blk_cell ((HB.out _ HR4.out (by exact HL.out.2.1)).1.trans HL.out.2.2.2) rfl)⟩ (fun hS => ?_)
              refine wpAnyH_take (i := 13) (v := ?_) rfl (by kernel_rfl) (by kernel_rfl) (by kernel_rfl) (fun _ _ _ h => h) (Or.inl ⟨by rfl, ?_⟩) hS ?_
              rotate_left
              · intro V hV
                (try dsimp only at hV)
                go_simp
                (try with_reducible rfl)
              simp only [Act.put]
              refine wpAnyH_take (i := 14) (v := ?_) rfl (by kernel_rfl) (by kernel_rfl) (by kernel_rfl) (fun _ _ _ h => h) (Or.inl ⟨by rfl, ?_⟩) hS ?_
              rotate_left
              · intro V hV
                (try dsimp only at hV)
                go_simp
                (try with_reducible rfl)
              simp only [Act.put]
              refine wpAnyH_ready (rs := [15]) (by kernel_rfl) (by simp) (AllReadyH.cons rfl (fun K hK => ?_) AllReadyH.nil)
              go_simp
              refine hK.out _ _ ⟨(blk_cell ((HB.out _ HR3.out (by exact HL.out.1)).2.trans HL.out.2.2.1) rfl), p3⟩ (fun hS => wpAnyH_done (by kernel_rfl) ?_ _)
              have HST : Hid (Inner w role D w.heap.size s1 i f nx W (j + 1) ((w4.setCell ⟨f.p, 1, none⟩ (.slice a4 n4 k4)).setCell ⟨w.heap.size + 1, 0, none⟩ (.int .i64 ((m : Int) + 1)))) := inner_next HIN.out HST2.out HR3.out HR4.out (Nat.le_refl _) HM.out (by rw [HC.out]; simp [hjl]) HK.out HS.out
              clear HS HB p1 p2 hS hK
              gi_wp2
              go_roundw
              case rel => exact ⟨j + 1, by omega, by go_num, HST⟩
              case measure => simp [intOf]; omega
        | inr lg =>
          obtain ⟨e, _⟩ := id hcat
          subst e
          have hsur := fun nq => survive_cut (b := w.heap.size + 1) (t := 3) (x := .int .i64 m) (hd2.drewN nq) hF2i hcat hI r4 hnx2
          have HSU : Hid (∀ nq, Calls Try.prog 112 #[.agg #[.int .i64 lg], sv, .int .i64 kk] (wr.drewN nq) (SafeDone (wr.drewN nq) role2 D i { s1 with fs := s1.fs.set i { f with safeV := sv, a := { f.a with safe := survAll s1.keep nx (f.a.chs.take j) f.a.safe } } } { f with safeV := sv, a := { f.a with safe := survAll s1.keep nx (f.a.chs.take j) f.a.safe } } (surviveC (.inr lg) kk (survAll s1.keep nx (f.a.chs.take j) f.a.safe)) (w.heap.size + 1) (.int .i64 m) 3)) := hsur
          have HD2 : Hid (DiskOK wr role2 D { s1 with fs := s1.fs.set i { f with safeV := sv, a := { f.a with safe := survAll s1.keep nx (f.a.chs.take j) f.a.safe } } }) := hd2
          have HKE : Hid (Calls Try.prog 74 #[.pointer (some ⟨D, 0, none⟩), .int .i64 m] wr.drew fun e w' => e = .returned (.int .i64 kk) ∧ ∃ nq, w' = wr.drew.drewN nq) := hkeep
          have HR3 : Hid (role2 w.heap.size = none) := r3
          have HR4 : Hid (role2 (w.heap.size + 1) = none) := r4
          have HST2 : Hid (Stp role role2 w wr) := hst2
          have HIN : Hid (Inner w role D w.heap.size s1 i f nx W j wr) := hin
          have HL : Hid (w.heap.size < wr.heap.size ∧ w.heap.size + 1 < wr.heap.size ∧ wr.heap[w.heap.size]? = some (.cells #[.pointer (some ⟨D, 0, none⟩)] 29 (0, 0)) ∧ wr.heap[w.heap.size + 1]? = some (.cells #[.int .i64 m] 3 (0, 0))) := ⟨(Array.getElem?_eq_some_iff.1 hbox2).1, (Array.getElem?_eq_some_iff.1 hnx2).1, hbox2, hnx2⟩
          have hna := nilAhead_cs (.int .i64 lg)
          have hme := method_cs (.int .i64 lg)
          clear hsur hd2 hkeep hkk hcc hm hat hvals hcvj hF2 hF2i hcat hnx2 hbox2 hin hst2 r3 r4
          have hn2 : 1 ≤ n - 1 - 1 := by omega
          gi_wp2
          refine regionIn_held (S := fun V => V.cell? ⟨w.heap.size, 0, none⟩ = some (.pointer (some ⟨D, 0, none⟩)) ∧ V.cell? ⟨w.heap.size + 1, 0, none⟩ = some (.int .i64 m)) (by kernel_rfl) (fun ⟨_, _, h⟩ => h) (nd_of (by kernel_rfl)) ⟨hb1, hb2⟩ (fun hS => ?_)
          refine wpAnyH_take (i := 0) (v := ?_) rfl (by kernel_rfl) (by kernel_rfl) (by kernel_rfl) (fun _ _ _ h => h) (Or.inl ⟨by rfl, ?_⟩) hS ?_
          rotate_left
          · intro V hV
            (try dsimp only at hV)
            go_simp
            (try with_reducible rfl)
          simp only [Act.put, List.setIfInBounds_toArray]
          refine wpAnyH_take (i := 1) (v := ?_) rfl (by kernel_rfl) (by kernel_rfl) (by kernel_rfl) (fun _ _ _ h => h) (Or.inl ⟨by rfl, ?_⟩) hS ?_
          rotate_left
          · intro V hV
            (try dsimp only at hV)
            go_simp
            (try with_reducible rfl)
          simp only [Act.put]
          refine wpAnyH_take (i := 2) (v := ?_) rfl (by kernel_rfl) (by kernel_rfl) (by kernel_rfl) (fun _ _ _ h => h) (Or.inl ⟨by rfl, ?_⟩) hS ?_
          rotate_left
          · intro V hV
            (try dsimp only at hV)
            go_simp
            (try with_reducible rfl)
          simp only [Act.put]
          refine wpAnyH_take (i := 3) (v := ?_) rfl (by kernel_rfl) (by kernel_rfl) (by kernel_rfl) (fun _ _ _ h => h) (Or.inl ⟨by rfl, ?_⟩) hS ?_
          rotate_left
          · intro V hV
            (try dsimp only at hV)
            go_simp
            (try with_reducible rfl)
          simp only [Act.put]
          refine wpAnyH_take (i := 4) (v := ?_) rfl (by kernel_rfl) (by kernel_rfl) (by kernel_rfl) (fun _ _ _ h => h) (Or.inl ⟨by rfl, ?_⟩) hS ?_
          rotate_left
          · intro V hV
            (try dsimp only at hV)
            go_simp
            (try with_reducible rfl)
          simp only [Act.put]
          refine wpAnyH_take (i := 6) (v := ?_) rfl (by kernel_rfl) (by kernel_rfl) (by kernel_rfl) (fun _ _ _ h => h) (Or.inl ⟨by rfl, ?_⟩) hS ?_
          rotate_left
          · intro V hV
            (try dsimp only at hV)
            go_simp
            (try with_reducible rfl)
          simp only [Act.put]
          refine wpAnyH_take (i := 7) (v := ?_) rfl (by kernel_rfl) (by kernel_rfl) (by kernel_rfl) (fun _ _ _ h => h) (Or.inl ⟨by rfl, ?_⟩) hS ?_
          rotate_left
          · intro V hV
            (try dsimp only at hV)
            go_simp
            (try with_reducible rfl)
          simp only [Act.put]
          refine wpAnyH_take (i := 9) (v := ?_) rfl (by kernel_rfl) (by kernel_rfl) (by kernel_rfl) (fun _ _ _ h => h) (Or.inl ⟨by rfl, ?_⟩) hS ?_
          rotate_left
          · intro V hV
            (try dsimp only at hV)
            go_simp
            (try with_reducible rfl)
          simp only [Act.put]
          refine wpAnyH_take (i := 10) (v := ?_) rfl (by kernel_rfl) (by kernel_rfl) (by kernel_rfl) (fun _ _ _ h => h) (Or.inl ⟨by rfl, ?_⟩) hS ?_
          rotate_left
          · intro V hV
            (try dsimp only at hV)
            go_simp
            (try with_reducible rfl)
          simp only [Act.put]
          refine wpAnyH_take (i := 11) (v := ?_) rfl (by kernel_rfl) (by kernel_rfl) (by kernel_rfl) (fun _ _ _ h => h) (Or.inl ⟨by rfl, ?_⟩) hS ?_
          rotate_left
          · intro V hV
            (try dsimp only at hV)
            go_simp
            (try with_reducible rfl)
          simp only [Act.put]
          refine wpAnyH_ready (rs := [5, 8]) (by kernel_rfl) (by simp) ?_
          refine AllReadyH.cons rfl (fun K hK => ?_) (AllReadyH.cons rfl (fun K hK => ?_) AllReadyH.nil)
          · go_simp
            refine hK.out _ _ hS (fun hS => ?_)
            refine wpAnyH_ready (rs := [8]) (by kernel_rfl) (by simp) (AllReadyH.cons rfl (fun K hK => ?_) AllReadyH.nil)
            · go_simp
              refine HKE.out.mono ?_
              rintro e w' ⟨rfl, nq, rfl⟩
              refine hK.out _ _ hS (fun hS => ?_)
              refine wpAnyH_ready (rs := [12]) (by kernel_rfl) (by simp) (AllReadyH.cons rfl (fun K hK => ?_) AllReadyH.nil)
              go_simp
              refine (HSU.out _).mono ?_
              rintro e w4 ⟨a4, n4, k4, rfl, p1, p2, p3, p4, HB, HS⟩
              refine hK.out _ _ ⟨(blk_cell ((HB.out _ HR3.out (by exact HL.out.1)).1.trans HL.out.2.2.1) rfl), (blk_cell ((HB.out _ HR4.out (by exact HL.out.2.1)).1.trans HL.out.2.2.2) rfl)⟩ (fun hS => ?_)
              refine wpAnyH_take (i := 13) (v := ?_) rfl (by kernel_rfl) (by kernel_rfl) (by kernel_rfl) (fun _ _ _ h => h) (Or.inl ⟨by rfl, ?_⟩) hS ?_
              rotate_left
              · intro V hV
                (try dsimp only at hV)
                go_simp
                (try with_reducible rfl)
              simp only [Act.put]
              refine wpAnyH_take (i := 14) (v := ?_) rfl (by kernel_rfl) (by kernel_rfl) (by kernel_rfl) (fun _ _ _ h => h) (Or.inl ⟨by rfl, ?_⟩) hS ?_
              rotate_left
              · intro V hV
                (try dsimp only at hV)
                go_simp
                (try with_reducible rfl)
              simp only [Act.put]
              refine wpAnyH_ready (rs := [15]) (by kernel_rfl) (by simp) (AllReadyH.cons rfl (fun K hK => ?_) AllReadyH.nil)
              go_simp
              refine hK.out _ _ ⟨(blk_cell ((HB.out _ HR3.out (by exact HL.out.1)).2.trans HL.out.2.2.1) rfl), p3⟩ (fun hS => wpAnyH_done (by kernel_rfl) ?_ _)
              have HST : Hid (Inner w role D w.heap.size s1 i f nx W (j + 1) ((w4.setCell ⟨f.p, 1, none⟩ (.slice a4 n4 k4)).setCell ⟨w.heap.size + 1, 0, none⟩ (.int .i64 ((m : Int) + 1)))) := inner_next HIN.out HST2.out HR3.out HR4.out (Nat.le_refl _) HM.out (by rw [HC.out]; simp [hjl]) HK.out HS.out
              clear HS HB p1 p2 hS hK
              gi_wp2
              go_roundw
              case rel => exact ⟨j + 1, by omega, by go_num, HST⟩
              case measure => simp [intOf]; omega
          · go_simp
            refine HKE.out.mono ?_
            rintro e w' ⟨rfl, nq, rfl⟩
            refine hK.out _ _ hS (fun hS => ?_)
            refine wpAnyH_ready (rs := [5]) (by kernel_rfl) (by simp) (AllReadyH.cons rfl (fun K hK => ?_) AllReadyH.nil)
            · go_simp
              refine hK.out _ _ hS (fun hS => ?_)
              refine wpAnyH_ready (rs := [12]) (by kernel_rfl) (by simp) (AllReadyH.cons rfl (fun K hK => ?_) AllReadyH.nil)
              go_simp
              refine (HSU.out _).mono ?_
              rintro e w4 ⟨a4, n4, k4, rfl, p1, p2, p3, p4, HB, HS⟩
              refine hK.out _ _ ⟨(blk_cell ((HB.out _ HR3.out (by exact HL.out.1)).1.trans HL.out.2.2.1) rfl), (blk_cell ((HB.out _ HR4.out (by exact HL.out.2.1)).1.trans HL.out.2.2.2) rfl)⟩ (fun hS => ?_)
              refine wpAnyH_take (i := 13) (v := ?_) rfl (by kernel_rfl) (by kernel_rfl) (by kernel_rfl) (fun _ _ _ h => h) (Or.inl ⟨by rfl, ?_⟩) hS ?_
              rotate_left
              · intro V hV
                (try dsimp only at hV)
                go_simp
                (try with_reducible rfl)
              simp only [Act.put]
              refine wpAnyH_take (i := 14) (v := ?_) rfl (by kernel_rfl) (by kernel_rfl) (by kernel_rfl) (fun _ _ _ h => h) (Or.inl ⟨by rfl, ?_⟩) hS ?_
              rotate_left
              · intro V hV
                (try dsimp only at hV)
                go_simp
                (try with_reducible rfl)
              simp only [Act.put]
              refine wpAnyH_ready (rs := [15]) (by kernel_rfl) (by simp) (AllReadyH.cons rfl (fun K hK => ?_) AllReadyH.nil)
              go_simp
              refine hK.out _ _ ⟨(blk_cell ((HB.out _ HR3.out (by exact HL.out.1)).2.trans HL.out.2.2.1) rfl), p3⟩ (fun hS => wpAnyH_done (by kernel_rfl) ?_ _)
              have HST : Hid (Inner w role D w.heap.size s1 i f nx W (j + 1) ((w4.setCell ⟨f.p, 1, none⟩ (.slice a4 n4 k4)).setCell ⟨w.heap.size + 1, 0, none⟩ (.int .i64 ((m : Int) + 1)))) := inner_next HIN.out HST2.out HR3.out HR4.out (Nat.le_refl _) HM.out (by rw [HC.out]; simp [hjl]) HK.out HS.out
              clear HS HB p1 p2 hS hK
              gi_wp2
              go_roundw
              case rel => exact ⟨j + 1, by omega, by go_num, HST⟩
              case measure => simp [intOf]; omega
      · have hjn : j = f.a.chs.length := by omega
        subst hjn
        obtain ⟨role2, sv, hd2, hst2, r3, r4⟩ := hin.out.ex
        have hF2i : (s1.fs.set i { f with safeV := sv, a := { f.a with safe := survAll s1.keep nx (f.a.chs.take f.a.chs.length) f.a.safe } })[i]? = some { f with safeV := sv, a := { f.a with safe := survAll s1.keep nx (f.a.chs.take f.a.chs.length) f.a.safe } } := by
          simp [(List.getElem?_eq_some_iff.1 HF.out).1]
        have hF2 := hd2.each _ (List.mem_of_getElem? hF2i)
        obtain ⟨l', hl'⟩ : ∃ l', l' = survAll s1.keep nx f.a.chs f.a.safe := ⟨_, rfl⟩
        have hbk := hF2.blk
        have hc2 : wr.cell? ⟨f.p, 2, none⟩ = some f.chV := blk_cell hbk rfl
        have hf2 : wr.frozen? ⟨f.p, 2, none⟩ = false := blk_free hbk
        have hbk2 := blk_set (o := 2) hbk (.slice none 0 0)
        have hc1 : (wr.setCell ⟨f.p, 2, none⟩ (.slice none 0 0)).cell? ⟨f.p, 1, none⟩ = some sv := blk_cell hbk2 rfl
        have hos : (wr.setCell ⟨f.p, 2, none⟩ (.slice none 0 0)).ownsRow 0 5 1 sv l'.length (l'.map byteV) := by
          have h1 := hF2.osafe
          simp only [List.take_length, ← hl'] at h1
          exact own_same h1 (fun k e _ => Below.heap_setCell wr _ _ k (fun e' => by
            have h2 := hF2.rsafe k e
            have h3 := hF2.rp
            have : k = f.p := e'
            subst this
            rw [h3] at h2
            simp at h2))
        have hll : l'.length ≤ 268435456 := by
          have h1 := hF2.lsafe
          simp only [List.take_length, ← hl'] at h1
          exact h1
        have hcp := copyBytes_any sv l' (wr.setCell ⟨f.p, 2, none⟩ (.slice none 0 0)) (Rd.of_own hos) (by omega)
        have hdone := fun w2 hb ho => die_file (B := W0.heap.size) (w2 := w2) (x := x) (pre := pre) hin.out HF.out ⟨HE.out.1, HE.out.2.1, HE.out.2.2.1, HE.out.2.2.2.1, HE.out.2.2.2.2.1, HE.out.2.2.2.2.2.1⟩ hl' hb ho
        have HCP : Hid (Calls Try.prog 46 #[sv] (wr.setCell ⟨f.p, 2, none⟩ (.slice none 0 0)) fun e w' => e = .returned (.slice (some ⟨(wr.setCell ⟨f.p, 2, none⟩ (.slice none 0 0)).heap.size, 0, none⟩) l'.length l'.length) ∧ w'.ownsRow (wr.setCell ⟨f.p, 2, none⟩ (.slice none 0 0)).heap.size 5 1 (.slice (some ⟨(wr.setCell ⟨f.p, 2, none⟩ (.slice none 0 0)).heap.size, 0, none⟩) l'.length l'.length) l'.length (l'.map byteV) ∧ Below (wr.setCell ⟨f.p, 2, none⟩ (.slice none 0 0)).heap.size (wr.setCell ⟨f.p, 2, none⟩ (.slice none 0 0)) w') := hcp
        have HBK : Hid ((wr.setCell ⟨f.p, 2, none⟩ (.slice none 0 0)).heap[f.p]? = some (.cells (#[.string f.a.name, sv, f.chV, f.dataV].setIfInBounds 2 (.slice none 0 0)) 87 (0, 0))) := hbk2
        have hn2 : 1 ≤ n - 1 - 1 := by omega
        have HDN : Hid (∀ w2 hb ho, _) := hdone
        clear hdone hcp hos hbk2 hbk hF2 hF2i hd2 hst2 r3 r4 hl' hin
        gi_wp2_with fail
        refine ⟨trivial, ?_⟩
        refine (CallsIn.inRound l (callsIn_wide.2 HCP.out)).mono ?_
        rintro e w2 ⟨rfl, ho2, hb2⟩
        have hb3 := (hb2.block f.p (by simpa [World.setCell] using (Array.getElem?_eq_some_iff.1 HBK.out).1)).trans HBK.out
        have hc3 : w2.cell? ⟨f.p, 3, none⟩ = some f.dataV := blk_cell hb3 rfl
        have hf3 : w2.frozen? ⟨f.p, 3, none⟩ = false := blk_free hb3
        have hfin := HDN.out w2 hb2 ho2
        rw [show (wr.setCell ⟨f.p, 2, none⟩ (.slice none 0 0)).heap.size = wr.heap.size from by simp [World.setCell]] at hfin
        have HFIN := hideP hfin
        clear hfin hb3 hb2 ho2
        gi_wp2
        exact HFIN.out
  case done =>
    rintro D' ys W hD rfl hDy hK
    obtain ⟨role1, s1, hd1, hst1, e1, e2, r1, r2, nx, e3, e4, hnext⟩ := hDy.ex
    have hcb : W.cell? ⟨w.heap.size, 0, none⟩ = some (.pointer (some ⟨D, 0, none⟩)) := blk_cell hDy.box rfl
    have hcd : W.cell? ⟨D, 1, none⟩ = some (.bool s1.dead) := blk_cell hd1.blk rfl
    have hfd : W.frozen? ⟨D, 1, none⟩ = false := blk_free hd1.blk
    have hfin : ∃ role' s', DiskOK ((W.setCell ⟨D, 1, none⟩ (.bool true)).putObj D' (.deferred none)) role' D s' ∧ Stp role role' w ((W.setCell ⟨D, 1, none⟩ (.bool true)).putObj D' (.deferred none)) ∧ s' = { s with dead := true, fs := s'.fs } ∧ s'.fs.map (·.a) = dieAll s.keep 0 (s.fs.map (·.a)) := by
      obtain ⟨q1, q2⟩ := hd1.setHead (s' := { s1 with dead := true }) (o := 1) (v := .bool true) rfl ⟨rfl, rfl, rfl, rfl⟩ ⟨rfl, rfl, rfl, rfl⟩ hd1.iC hd1.iR hd1.iO hd1.nch
      have hK2 := (KeepsOthers.setCell W ⟨D, 1, none⟩ (.bool true)).same D' _ hK rfl
      refine ⟨role1, { s1 with dead := true }, q1.grown (grownBy_putObj' _ D' _) (fun r e => ?_), (hst1.trans q2).grown (grownBy_putObj' _ D' _) (fun k e => ?_), ?_, ?_⟩
      · cases e
        rintro ⟨cs, t, fr, hc⟩
        rw [hc] at hK2
        cases hK2
      · cases e
        omega
      · rw [e1]
      · have := fold_all s.keep s.fs h.nodup
        rw [← e3] at this
        exact (Prod.mk.inj this).2
    have HFIN := hideP hfin
    have hK' := (KeepsOthers.setCell W ⟨D, 1, none⟩ (.bool true)).same D' _ hK rfl
    clear hfin e1 e2 e3 e4 hd1 hst1 r1 r2 hnext hDy
    gi_wp2
    refine ⟨by simp, .inl ⟨_, _, rfl, run_takeDeferred hK', ?_⟩⟩
    exact ⟨_, results_none rfl _ _ _, ⟨_, rfl⟩, HFIN.out⟩
  case stop =>
    rintro D c pre W _ _ h _
    exact h.elim

end Go.Proofs.Ytcceaokldphfgaa
