/- YtcceaokldphfgaaDiskDoesC05 -/
import Derived.Test.YtcceaokldphfgaaDiskDoesC04
import Derived.RangeFuncNested
import Derived.RangeFuncBound
import Derived.RangeFuncCalls
import Derived.RangeFuncLeaves
import Derived.RangeFuncBox
import Derived.Shelf.Abstract
import Derived.Shelf.RegionOpen
import Derived.WalkKit
import Derived.OwnWalkIn
import Derived.TacticsInMore
import Derived.LoopNIn
import Derived.LoopIn
namespace Go.Proofs.Ytcceaokldphfgaa
open Go.RowKit

theorem cmp_zero : ∀ (a b : List UInt8), Lib.compareBytes a b = 0 ↔ a = b
  | [], [] => by simp [Lib.compareBytes]
  | [], _ :: _ => by simp [Lib.compareBytes]
  | _ :: _, [] => by simp [Lib.compareBytes]
  | a :: as', b :: bs => by
    have ih := cmp_zero as' bs
    simp only [Lib.compareBytes, List.cons.injEq]
    by_cases h1 : a < b
    · simp only [h1, if_true]
      constructor
      · intro h; omega
      · rintro ⟨rfl, _⟩; exact absurd h1 (UInt8.lt_irrefl _)
    · by_cases h2 : b < a
      · simp only [h1, h2, if_true, if_false]
        constructor
        · intro h; omega
        · rintro ⟨rfl, _⟩; exact absurd h2 (UInt8.lt_irrefl _)
      · simp only [h1, h2, if_false]
        have e : a = b := by
          have h1' := UInt8.not_lt.1 h1
          have h2' := UInt8.not_lt.1 h2
          exact UInt8.le_antisymm h2' h1'
        simp [e, ih]

theorem cmp_trans : ∀ (a b c : List UInt8), Lib.compareBytes a b < 0 → Lib.compareBytes b c < 0 → Lib.compareBytes a c < 0
  | [], [], _, h, _ => by simp [Lib.compareBytes] at h
  | [], _ :: _, [], _, h => by simp [Lib.compareBytes] at h
  | [], _ :: _, _ :: _, _, _ => by simp [Lib.compareBytes]
  | _ :: _, [], _, h, _ => by simp [Lib.compareBytes] at h
  | _ :: _, _ :: _, [], _, h => by simp [Lib.compareBytes] at h
  | a :: as', b :: bs, c :: cs, h, k => by
    have ih := cmp_trans as' bs cs
    simp only [Lib.compareBytes] at h k ⊢
    simp only [UInt8.lt_iff_toNat_lt] at h k ⊢
    by_cases h1 : a.toNat < b.toNat
    · by_cases k1 : b.toNat < c.toNat
      · rw [if_pos (by omega)]; omega
      · by_cases k2 : c.toNat < b.toNat
        · rw [if_neg k1, if_pos k2] at k; omega
        · rw [if_pos (by omega)]; omega
    · by_cases h2 : b.toNat < a.toNat
      · rw [if_neg h1, if_pos h2] at h; omega
      · rw [if_neg h1, if_neg h2] at h
        by_cases k1 : b.toNat < c.toNat
        · rw [if_pos (by omega)]; omega
        · by_cases k2 : c.toNat < b.toNat
          · rw [if_neg k1, if_pos k2] at k; omega
          · rw [if_neg k1, if_neg k2] at k
            rw [if_neg (by omega), if_neg (by omega)]
            exact ih h k

theorem cmpS_zero {a b : ByteArray} : cmpS a b = 0 ↔ a = b := by
  unfold cmpS
  rw [cmp_zero]
  constructor
  · intro h
    cases a; cases b
    simp only at h
    congr 1
    exact Array.toList_inj.1 h
  · rintro rfl; rfl

theorem cmpS_trans {a b c : ByteArray} (h : cmpS a b < 0) (k : cmpS b c < 0) : cmpS a c < 0 := cmp_trans _ _ _ h k

/-- The files as the search reads them. -/
def rowL (fs : List FRep) : List (Nat × ByteArray) := fs.map fun f => (f.p, f.a.name)

theorem rowL_at {fs : List FRep} {j : Nat} {q : Nat × ByteArray} (h : (rowL fs)[j]? = some q) : ∃ f, fs[j]? = some f ∧ q = (f.p, f.a.name) := by
  unfold rowL at h
  rw [List.getElem?_map, Option.map_eq_some_iff] at h
  obtain ⟨f, hf, rfl⟩ := h
  exact ⟨f, hf, rfl⟩

theorem sorted_at {fs : List FRep} (hs : fs.Pairwise (fun f g => cmpS f.a.name g.a.name < 0)) {j k : Nat} {f g : FRep} (hf : fs[j]? = some f) (hg : fs[k]? = some g) (h : j < k) : cmpS f.a.name g.a.name < 0 := by
  obtain ⟨h1, rfl⟩ := List.getElem?_eq_some_iff.1 hf
  obtain ⟨h2, rfl⟩ := List.getElem?_eq_some_iff.1 hg
  exact List.pairwise_iff_getElem.1 hs j k h1 h2 h

theorem steady_of {fs : List FRep} (hs : fs.Pairwise (fun f g => cmpS f.a.name g.a.name < 0)) (t : ByteArray) : Steady (rowL fs) t := by
  intro j k q r hq hr hjk hlt
  obtain ⟨f, hf, rfl⟩ := rowL_at hq
  obtain ⟨g, hg, rfl⟩ := rowL_at hr
  rcases Nat.eq_or_lt_of_le hjk with rfl | h
  · rw [hf] at hg; cases hg; exact hlt
  · exact cmpS_trans (sorted_at hs hf hg h) hlt

theorem unlike_of {fs : List FRep} (hs : fs.Pairwise (fun f g => cmpS f.a.name g.a.name < 0)) (t : ByteArray) :
    ∀ (j k : Nat) (q r : Nat × ByteArray), (rowL fs)[j]? = some q → (rowL fs)[k]? = some r → cmpS r.2 t = 0 → j < k → cmpS q.2 t < 0 := by
  intro j k q r hq hr h0 hjk
  obtain ⟨f, hf, rfl⟩ := rowL_at hq
  obtain ⟨g, hg, rfl⟩ := rowL_at hr
  have e := cmpS_zero.1 h0
  simp only at e ⊢
  rw [← e]
  exact sorted_at hs hf hg hjk

theorem DiskOK.row {w : World} {role : Role} {D : Nat} {s : DSt} (h : DiskOK w role D s) : RowOf w s.filesV (rowL s.fs) := by
  rcases h.files.2 with ⟨e, h0⟩ | ⟨g, cap, cur, e, hb, hg, hn, hm, hz, ht⟩
  · exact .inl ⟨e, by simp [rowL, List.eq_nil_of_length_eq_zero h0]⟩
  · refine .inr ⟨g, cap, by simp [rowL, e], fun j q hq => ?_⟩
    obtain ⟨f, hf, rfl⟩ := rowL_at hq
    have hj := (List.getElem?_eq_some_iff.1 hf).1
    refine ⟨?_, blk_cell (h.each f (List.mem_of_getElem? hf)).blk rfl⟩
    have h1 : (s.fs.map ptrV)[j]? = some (ptrV f) := by simp [hf]
    rw [← ht, List.getElem?_take, if_pos (by omega)] at h1
    refine blk_cell hg ?_
    simpa [ptrV] using h1

/-- The file of that name. -/
def findF (fs : List FRep) (t : ByteArray) : Option FRep := fs.find? fun f => cmpS f.a.name t == 0

def fileV : Option FRep → Value
  | some f => ptrV f
  | none => .pointer none

theorem find_stands {fs : List FRep} (hs : fs.Pairwise (fun f g => cmpS f.a.name g.a.name < 0)) {t : ByteArray} {i : Nat} (h : Stands (rowL fs) t i) :
    (thereAt (rowL fs) t i = true ∧ ∃ f, fs[i]? = some f ∧ f.a.name = t ∧ findF fs t = some f) ∨ (thereAt (rowL fs) t i = false ∧ findF fs t = none) := by
  have hfm : foundAt (rowL fs) t = (findF fs t).map (·.p) := by
    unfold foundAt findF rowL
    rw [List.find?_map]
    simp only [Option.map_map]
    rfl
  cases ht : thereAt (rowL fs) t i
  · right
    refine ⟨rfl, ?_⟩
    have := found_not h (unlike_of hs t) ht
    rw [hfm] at this
    simpa using this
  · left
    obtain ⟨q, hq, h0, _⟩ := found_there h ht
    obtain ⟨f, hf, rfl⟩ := rowL_at hq
    refine ⟨rfl, f, hf, cmpS_zero.1 h0, ?_⟩
    unfold findF
    have hlt : i < fs.length := (List.getElem?_eq_some_iff.1 hf).1
    rw [List.find?_eq_some_iff_getElem]
    refine ⟨by simpa using h0, i, hlt, (List.getElem?_eq_some_iff.1 hf).2, fun j hj => ?_⟩
    have := h.below j (fs[j].p, fs[j].a.name) (by unfold rowL; rw [List.getElem?_map, List.getElem?_eq_getElem (by omega)]; rfl) hj
    simp only at this
    simp; omega

theorem DiskOK.cells {w : World} {role : Role} {D : Nat} {s : DSt} (h : DiskOK w role D s) :
    w.cell? ⟨D, 0, none⟩ = some (.bool true) ∧ w.cell? ⟨D, 1, none⟩ = some (.bool s.dead) ∧ w.cell? ⟨D, 8, none⟩ = some s.filesV :=
  ⟨blk_cell h.blk rfl, blk_cell h.blk rfl, blk_cell h.blk rfl⟩

theorem dPlace {w : World} {role : Role} {D : Nat} {s : DSt} (h : DiskOK w role D s) (t : ByteArray) :
    Calls Try.prog 76 #[.pointer (some ⟨D, 0, none⟩), .string t] w fun e w' =>
      (∃ i : Nat, e = .returned (.tuple #[.int .i64 i, .bool (thereAt (rowL s.fs) t i)]) ∧ Stands (rowL s.fs) t i) ∧ w' = w :=
  place_any D s.filesV (rowL s.fs) t w (by have := h.few; simp [rowL]; omega) (steady_of h.sorted t) h.row h.cells.2.2

set_option maxHeartbeats 400000 in
set_option maxRecDepth 100000 in
theorem dFind {w : World} {role : Role} {D : Nat} {s : DSt} (h : DiskOK w role D s) (t : ByteArray) :
    Calls Try.prog 59 #[.pointer (some ⟨D, 0, none⟩), .string t] w fun e w' => e = .returned (fileV (findF s.fs t)) ∧ w' = w := by
  have hp := dPlace h t
  have hc := h.cells.2.2
  have hp2 : Calls Try.prog 76 #[.pointer (some ⟨D, 0, none⟩), .string t] w fun e w' =>
      (∃ i : Nat, ((e = .returned (.tuple #[.int .i64 i, .bool true]) ∧ ∃ g c f, s.filesV = .slice (some ⟨g, 0, none⟩) s.fs.length c ∧ i < s.fs.length ∧ w'.cell? ⟨g, i, none⟩ = some (ptrV f) ∧ Hid (findF s.fs t = some f)) ∨
        (e = .returned (.tuple #[.int .i64 i, .bool false]) ∧ Hid (findF s.fs t = none)))) ∧ w' = w := by
    refine hp.mono ?_
    rintro e w' ⟨⟨i, rfl, hst⟩, rfl⟩
    refine ⟨⟨i, ?_⟩, rfl⟩
    rcases find_stands h.sorted hst with ⟨ht, f, hf, _, he⟩ | ⟨ht, he⟩
    · left
      have hlt : i < s.fs.length := (List.getElem?_eq_some_iff.1 hf).1
      refine ⟨by rw [ht], ?_⟩
      rcases h.row with ⟨_, e0⟩ | ⟨g, c, e1, hr⟩
      · simp [rowL] at e0; rw [e0] at hlt; simp at hlt
      · exact ⟨g, c, f, by simpa [rowL] using e1, hlt, (hr i (f.p, f.a.name) (by simp [rowL, hf])).1, he⟩
    · exact .inr ⟨by rw [ht], he⟩
  clear hp
  have few := h.few
  clear h
  obtain ⟨fv, hfv⟩ : ∃ fv, fv = s.filesV := ⟨_, rfl⟩
  rw [← hfv] at hc hp2
  clear hfv
  have h2 : Calls Try.prog 59 #[.pointer (some ⟨D, 0, none⟩), .string t] w fun e w' => (∃ o, e = .returned (fileV o) ∧ Hid (findF s.fs t = o)) ∧ w' = w := by
    go_enter Try.func59, Try.ntmps59
    go_wp2_with fail
    refine hp2.mono ?_
    rintro e w' ⟨⟨i, ⟨rfl, g, c, f, rfl, hlt, hcell, hfind⟩ | ⟨rfl, hfind⟩⟩, rfl⟩
    · simp only [ptrV] at hcell
      go_wp2
      go_ret
      exact ⟨⟨some f, rfl, hfind⟩, rfl⟩
    · go_wp2
      go_ret
      exact ⟨⟨none, rfl, hfind⟩, rfl⟩
  refine h2.mono ?_
  rintro e w' ⟨⟨o, rfl, ho⟩, rfl⟩
  exact ⟨by rw [ho.out], rfl⟩

end Go.Proofs.Ytcceaokldphfgaa

namespace Go.Proofs.Ytcceaokldphfgaa
open Go.RowKit Go.Shelf

attribute [local go_sem] Oper.semAt_some

/-- A file among those of a disk. -/
abbrev Of (fs : List FRep) := { f : FRep // f ∈ fs }

/-- The files' row as the iterator reads it. -/
def RowI (W : World) (v : Value) (fs : List FRep) : Prop :=
  (v = .slice none 0 0 ∧ fs = []) ∨ ∃ g c, v = .slice (some ⟨g, 0, none⟩) fs.length c ∧ ∀ j f, fs[j]? = some f → W.cell? ⟨g, j, none⟩ = some (ptrV f)

/-- What a round keeps for the iterator: the files' row. -/
def KpR (v : Value) (fs : List FRep) (W W' : World) : Prop := RowI W v fs → RowI W' v fs

theorem KpR.of_same {v : Value} {fs : List FRep} {W W' : World} (h : ∀ g, v.ownBlock = some g → W'.heap[g]? = W.heap[g]?) : KpR v fs W W' := by
  rintro (⟨rfl, rfl⟩ | ⟨g, c, rfl, hr⟩)
  · exact .inl ⟨rfl, rfl⟩
  · exact .inr ⟨g, c, rfl, fun j f hf => (World.cell?_of_block (w := W) (a := ⟨g, j, none⟩) (h g rfl)).trans (hr j f hf)⟩

set_option maxHeartbeats 1000000 in
set_option maxRecDepth 100000 in
theorem all_in (n : Nat) (p0 : Option Addr) (w : World) :
    CallsIn Fence.wide n Try.prog 51 #[.pointer p0] w fun e w' => e = .returned (.func (.func 73) #[] #[.pointer (some ⟨w.heap.size, 0, none⟩)]) ∧ w' = w.alloc (.cells #[.pointer p0] 29) := by
  refine callsIn_of_wp Try.func51 rfl trivial ?_ rfl
  simp only [Try.ntmps51, List.size_toArray, List.length_cons, List.length_nil, Nat.reduceAdd, Nat.reduceSub, Array.replicate_succ, Array.replicate_zero, List.push_toArray, List.append_toArray, List.nil_append, List.cons_append]
  gi_wp2
  go_ret
  exact ⟨rfl, rfl⟩

set_option maxHeartbeats 1000000 in
set_option maxRecDepth 100000 in
theorem all1_some (n : Nat) (hn : 1 ≤ n) (l Bn D g c : Nat) (fs : List FRep) (J Jx : List (Of fs) → World → Prop) (hlen : fs.length ≤ 4096)
    (hY : ∀ pre x W, J pre W → pre.length < fs.length → YieldAt Fence.wide (n - 1) Try.prog l #[ptrV x.1] W fun e W' =>
      (e = .returned (.bool true) ∧ J (pre ++ [x]) W' ∧ KpR (.slice (some ⟨g, 0, none⟩) fs.length c) fs W W') ∨ (e = .returned (.bool false) ∧ Jx (pre ++ [x]) W'))
    (W : World) (hBn : W.cell? ⟨Bn, 0, none⟩ = some (.pointer (some ⟨D, 0, none⟩))) (hD : W.cell? ⟨D, 8, none⟩ = some (.slice (some ⟨g, 0, none⟩) fs.length c))
    (hr : ∀ j f, fs[j]? = some f → W.cell? ⟨g, j, none⟩ = some (ptrV f)) (h0 : J [] W) :
    CallsIn Fence.wide n Try.prog 73 #[.func (.yield l) #[] #[], .pointer (some ⟨Bn, 0, none⟩)] W fun e W' => (∃ v, e = .returned v) ∧
      ((∃ ys, ys = fs.attach ∧ J ys W') ∨ (∃ pre, pre <+: fs.attach ∧ Jx pre W')) := by
  have HR : Hid (∀ j f, fs[j]? = some f → W.cell? ⟨g, j, none⟩ = some (ptrV f)) := hr
  clear hr
  have HY : Hid (∀ pre x W, J pre W → pre.length < fs.length → YieldAt Fence.wide (n - 1) Try.prog l #[ptrV x.1] W fun e W' =>
      (e = .returned (.bool true) ∧ J (pre ++ [x]) W' ∧ KpR (.slice (some ⟨g, 0, none⟩) fs.length c) fs W W') ∨ (e = .returned (.bool false) ∧ Jx (pre ++ [x]) W')) := hY
  clear hY
  refine callsIn_of_wp Try.func73 rfl trivial ?_ rfl
  simp only [Try.ntmps73, List.size_toArray, List.length_cons, List.length_nil, Nat.reduceAdd, Nat.reduceSub, Array.replicate_succ, Array.replicate_zero, List.push_toArray, List.append_toArray, List.nil_append, List.cons_append]
  gi_wp2
  gi_loopw [4, 12] (fun _ i wr => ∃ k : Nat, k ≤ fs.length ∧ i = .int .i64 k ∧ J (fs.attach.take k) wr ∧ Hid (∀ j f, fs[j]? = some f → wr.cell? ⟨g, j, none⟩ = some (ptrV f))) (fun _ i _ => fs.length - (intOf i).toNat)
  case atStart => exact ⟨0, Nat.zero_le _, rfl, by simpa using h0, HR⟩
  case round =>
    obtain ⟨k, hk, rfl, hJ, hR⟩ := hrel
    by_cases hlt : k < fs.length
    · have hka : k < fs.attach.length := by simpa using hlt
      obtain ⟨x, hx⟩ : ∃ x, fs.attach[k] = x := ⟨_, rfl⟩
      have hxk : fs[k]? = some x.1 := by rw [← hx]; simp [hlt]
      have hc := hR.out k x.1 hxk
      have hsn : fs.attach.take (k + 1) = fs.attach.take k ++ [x] := by rw [List.take_succ_eq_append_getElem hka, hx]
      have HSN : Hid (fs.attach.take (k + 1) = fs.attach.take k ++ [x]) := hsn
      obtain ⟨fn, tmps, assign, body, hy, hRd⟩ := HY.out (fs.attach.take k) x wr hJ (by simp; omega)
      have HRd := hRd
      simp only [ptrV] at hc hy
      clear hsn hx hxk hJ
      gi_wp2
      refine hRd.mono ?_
      rintro e W3 (⟨rfl, hJ3, hk3⟩ | ⟨rfl, hJx3⟩)
      · have HR3 : Hid (∀ j f, fs[j]? = some f → W3.cell? ⟨g, j, none⟩ = some (ptrV f)) := by
          rcases hk3 (.inr ⟨g, c, rfl, hR.out⟩) with ⟨e, _⟩ | ⟨g', c', e, hr'⟩
          · cases e
          · cases e; exact hr'
        have HJ3 : Hid (J (fs.attach.take k ++ [x]) W3) := hJ3
        clear hJ3 hk3 HRd hRd
        gi_wp2
        go_roundw
        case rel => exact ⟨k + 1, by omega, by go_num, by rw [HSN.out]; exact HJ3.out, HR3⟩
        case measure => simp [intOf]; omega
      · gi_wp2
        refine bodyPost_ret (results_none rfl _ _ _) rfl ?_
        exact ⟨⟨_, rfl⟩, .inr ⟨_, by rw [← HSN.out]; exact List.take_prefix _ _, hJx3⟩⟩
    · have hkl : k = fs.length := by omega
      subst hkl
      have HJ : Hid (J (fs.attach.take fs.length) wr) := hJ
      clear hJ
      gi_wp2
      go_end0
      exact ⟨⟨_, rfl⟩, .inl ⟨_, by rw [List.take_of_length_le (by simp)], HJ.out⟩⟩

set_option maxHeartbeats 1000000 in
set_option maxRecDepth 100000 in
theorem all1_nil (n : Nat) (l Bn D : Nat) (W : World) (hBn : W.cell? ⟨Bn, 0, none⟩ = some (.pointer (some ⟨D, 0, none⟩))) (hD : W.cell? ⟨D, 8, none⟩ = some (.slice none 0 0)) :
    CallsIn Fence.wide n Try.prog 73 #[.func (.yield l) #[] #[], .pointer (some ⟨Bn, 0, none⟩)] W fun e W' => (∃ v, e = .returned v) ∧ W' = W := by
  refine callsIn_of_wp Try.func73 rfl trivial ?_ rfl
  simp only [Try.ntmps73, List.size_toArray, List.length_cons, List.length_nil, Nat.reduceAdd, Nat.reduceSub, Array.replicate_succ, Array.replicate_zero, List.push_toArray, List.append_toArray, List.nil_append, List.cons_append]
  gi_wp2
  gi_loopw [4, 12] (fun _ i wr => i = .int .i64 0 ∧ wr = W) (fun _ _ _ => 0)
  case atStart => exact ⟨rfl, rfl⟩
  case round =>
    obtain ⟨rfl, rfl⟩ := hrel
    gi_wp2
    go_end0
    exact ⟨⟨_, rfl⟩, rfl⟩

/-- The disk's iterator, for whatever loop body that keeps the files' row. -/
theorem all_stops (n : Nat) (hn : 1 ≤ n) (Bn D : Nat) (v : Value) (fs : List FRep) (w : World) (hlen : fs.length ≤ 4096) (hBn : w.cell? ⟨Bn, 0, none⟩ = some (.pointer (some ⟨D, 0, none⟩))) (hD : w.cell? ⟨D, 8, none⟩ = some v) (hr : RowI w v fs) :
    SeqStopsK Fence.wide n Try.prog 73 #[.pointer (some ⟨Bn, 0, none⟩)] (fun x : Of fs => #[ptrV x.1]) (KpR v fs) (fun ys => ys = fs.attach) (fun pre => pre <+: fs.attach) fs.length w := by
  intro l J Jx W hW _ _ hY h0
  have hBn' := (hW.cell (p := ⟨Bn, 0, none⟩) (World.block_lt_of_cell? w _ hBn)).trans hBn
  have hD' := (hW.cell (p := ⟨D, 8, none⟩) (World.block_lt_of_cell? w _ hD)).trans hD
  rcases hr with ⟨rfl, rfl⟩ | ⟨g, c, rfl, hr⟩
  · refine (all1_nil n l Bn D W hBn' hD').mono ?_
    rintro e W' ⟨hv, rfl⟩
    exact ⟨hv, .inl ⟨[], rfl, h0⟩⟩
  · exact all1_some n hn l Bn D g c fs J Jx hlen hY W hBn' hD' (fun j f hf => (hW.cell (p := ⟨g, j, none⟩) (World.block_lt_of_cell? w _ (hr j f hf))).trans (hr j f hf)) h0

theorem KpR.trans {v : Value} {fs : List FRep} {A B C : World} (h : KpR v fs A B) (k : KpR v fs B C) : KpR v fs A C := fun hr => k (h hr)

theorem KpR.putObj {v : Value} {fs : List FRep} {w : World} (hv : ∀ g, v.ownBlock = some g → g < w.heap.size) (W : World) (l : Nat) (o o' : Obj) (hl : w.heap.size ≤ l) (_ : W.heap[l]? = some o) (_ : o.isCells = false) (_ : o.isWalk = false) : KpR v fs W (W.putObj l o') :=
  KpR.of_same (fun g e => World.putObj_heap_other (fun e' => by have := hv g e; omega))

theorem DiskOK.rowI {w : World} {role : Role} {D : Nat} {s : DSt} (h : DiskOK w role D s) : RowI w s.filesV s.fs := by
  rcases h.files.2 with ⟨e, h0⟩ | ⟨g, cap, cur, e, hb, hg, hn, hm, hz, ht⟩
  · exact .inl ⟨e, List.eq_nil_of_length_eq_zero h0⟩
  · refine .inr ⟨g, cap, e, fun j f hf => ?_⟩
    have hj := (List.getElem?_eq_some_iff.1 hf).1
    have h1 : (s.fs.map ptrV)[j]? = some (ptrV f) := by simp [hf]
    rw [← ht, List.getElem?_take, if_pos (by omega)] at h1
    exact blk_cell hg (by simpa using h1)

end Go.Proofs.Ytcceaokldphfgaa
