/-
  A ring that nobody made.
-/
import Derived.Test.YtiekipkmfopdoaaMay
namespace Go.Proofs.Ytiekipkmfopdoaa.W4
open Go.RowKit Go.Shelf

/-- A ring that nobody made: none, or one of noughts. -/
def NM (w : World) (v : Value) : Prop := v = .pointer none ∨ ∃ p, v = .pointer (some ⟨p, 0, none⟩) ∧ RingAt w p 0 0 0 0

theorem NM.below {w w' : World} {v : Value} (h : NM w v) (hb : Below w.heap.size w w') : NM w' v := by
  rcases h with h | ⟨p, h, hr⟩
  · exact Or.inl h
  · exact Or.inr ⟨p, h, hr.below hb⟩

theorem isMade_none {w : World} {v : Value} (h : NM w v) : Calls Try.prog 76 #[v] w fun e w' => e = .returned (.bool false) ∧ w = w' := by
  rcases h with rfl | ⟨p, rfl, hr⟩
  · exact isMade_nil
  · refine (isMade_at hr).mono ?_
    rintro e w' ⟨rfl, rfl⟩
    exact ⟨rfl, rfl⟩

set_option maxHeartbeats 1000000 in
set_option maxRecDepth 100000 in
theorem modulusN (v : Value) (w : World) (hn : NM w v) : Calls Try.prog 28 #[v] w fun e w' => e = .returned (.agg (cs (fun _ => 0))) ∧ Below w.heap.size w w' := by
  have HIS := hideP (fun w (h : NM w v) => isMade_none h)
  have HN := hideP hn
  clear hn
  go_enter Try.func28, Try.ntmps28
  refine wp_seqH (fun K0 HK0 => ?_)
  go_wp2_with fail
  refine HK0.out _ _ ?_
  refine at_world (fun W0 hW0 => ?_)
  have hD : W0.heap[w.heap.size]? = some (.cells (cs (fun _ => 0)) 24 (0, 0)) := by
    rw [hW0]
    exact heap_new _ _ 
  have HBW : Hid (Below w.heap.size w W0) := by
    show Below _ _ _
    rw [hW0]
    repeat first | exact Below.refl _ _ | (refine Below.alloc ?_ (by simp <;> omega) _)
  clear hW0
  have HD := hideP hD
  have HN0 := hideP (HN.out.below HBW.out)
  clear hD
  refine wp_seqH (fun K1 HK1 => ?_)
  refine wp_seqH (fun K2 HK2 => ?_)
  go_wp2_with (go_at_call 76; refine (HIS.out _ HN0.out).mono ?_; rintro e w' ⟨rfl, rfl⟩)
  refine HK2.out _ _ ?_
  refine wp_cond_false rfl (wp_skip ?_)
  refine HK1.out _ _ ?_
  refine endRowQ (fun _ _ h => h) rfl rfl rfl (by decide) (by show 9 < 10; decide) rfl under rfl (info _) (one _) (rangeOf HD.out) (there_cs HD.out _) ?_
  intro wS hBut
  exact ⟨rfl, HBW.out.trans (hBut.below.mono (by omega))⟩
set_option maxHeartbeats 1000000 in
set_option maxRecDepth 100000 in
theorem inN (v : Value) (x : Nat → Nat) (w : World) (hn : NM w v) : Calls Try.prog 32 #[v, .agg (cs x)] w fun e w' => e = .returned (.agg (cs (fun _ => 0))) ∧ Below w.heap.size w w' := by
  have HIS := hideP (fun w (h : NM w v) => isMade_none h)
  have HN := hideP hn
  clear hn
  rw [show cs x = #[.int .u64 (x 0), .int .u64 (x 1), .int .u64 (x 2), .int .u64 (x 3)] from rfl]
  go_enter Try.func32, Try.ntmps32
  refine wp_seqH (fun K0 HK0 => ?_)
  go_wp2_with fail
  refine HK0.out _ _ ?_
  refine at_world (fun W0 hW0 => ?_)
  have hD : W0.heap[w.heap.size + 1]? = some (.cells (cs (fun _ => 0)) 24 (0, 0)) := by
    rw [hW0]
    exact heap_new1 _ _ _ 
  have HBW : Hid (Below w.heap.size w W0) := by
    show Below _ _ _
    rw [hW0]
    repeat first | exact Below.refl _ _ | (refine Below.alloc ?_ (by simp <;> omega) _)
  clear hW0
  have HD := hideP hD
  have HN0 := hideP (HN.out.below HBW.out)
  clear hD
  refine wp_seqH (fun K1 HK1 => ?_)
  refine wp_seqH (fun K2 HK2 => ?_)
  go_wp2_with (go_at_call 76; refine (HIS.out _ HN0.out).mono ?_; rintro e w' ⟨rfl, rfl⟩)
  refine HK2.out _ _ ?_
  refine wp_cond_false rfl (wp_skip ?_)
  refine HK1.out _ _ ?_
  refine endRowQ (fun _ _ h => h) rfl rfl rfl (by decide) (by show 14 < 15; decide) rfl under rfl (info _) (one _) (rangeOf HD.out) (there_cs HD.out _) ?_
  intro wS hBut
  exact ⟨rfl, HBW.out.trans (hBut.below.mono (by omega))⟩
set_option maxHeartbeats 1000000 in
set_option maxRecDepth 100000 in
theorem outN (v : Value) (x : Nat → Nat) (w : World) (hn : NM w v) : Calls Try.prog 35 #[v, .agg (cs x)] w fun e w' => e = .returned (.agg (cs (fun _ => 0))) ∧ Below w.heap.size w w' := by
  have HIS := hideP (fun w (h : NM w v) => isMade_none h)
  have HN := hideP hn
  clear hn
  rw [show cs x = #[.int .u64 (x 0), .int .u64 (x 1), .int .u64 (x 2), .int .u64 (x 3)] from rfl]
  go_enter Try.func35, Try.ntmps35
  refine wp_seqH (fun K0 HK0 => ?_)
  go_wp2_with fail
  refine HK0.out _ _ ?_
  refine at_world (fun W0 hW0 => ?_)
  have hD : W0.heap[w.heap.size + 1]? = some (.cells (cs (fun _ => 0)) 24 (0, 0)) := by
    rw [hW0]
    exact heap_new1 _ _ _ 
  have HBW : Hid (Below w.heap.size w W0) := by
    show Below _ _ _
    rw [hW0]
    repeat first | exact Below.refl _ _ | (refine Below.alloc ?_ (by simp <;> omega) _)
  clear hW0
  have HD := hideP hD
  have HN0 := hideP (HN.out.below HBW.out)
  clear hD
  refine wp_seqH (fun K1 HK1 => ?_)
  refine wp_seqH (fun K2 HK2 => ?_)
  go_wp2_with (go_at_call 76; refine (HIS.out _ HN0.out).mono ?_; rintro e w' ⟨rfl, rfl⟩)
  refine HK2.out _ _ ?_
  refine wp_cond_false rfl (wp_skip ?_)
  refine HK1.out _ _ ?_
  refine endRowQ (fun _ _ h => h) rfl rfl rfl (by decide) (by show 11 < 12; decide) rfl under rfl (info _) (one _) (rangeOf HD.out) (there_cs HD.out _) ?_
  intro wS hBut
  exact ⟨rfl, HBW.out.trans (hBut.below.mono (by omega))⟩
set_option maxHeartbeats 1000000 in
set_option maxRecDepth 100000 in
theorem addN (v : Value) (x : Nat → Nat) (y : Nat → Nat) (w : World) (hn : NM w v) : Calls Try.prog 36 #[v, .agg (cs x), .agg (cs y)] w fun e w' => e = .returned (.agg (cs (fun _ => 0))) ∧ Below w.heap.size w w' := by
  have HIS := hideP (fun w (h : NM w v) => isMade_none h)
  have HN := hideP hn
  clear hn
  rw [show cs x = #[.int .u64 (x 0), .int .u64 (x 1), .int .u64 (x 2), .int .u64 (x 3)] from rfl]
  rw [show cs y = #[.int .u64 (y 0), .int .u64 (y 1), .int .u64 (y 2), .int .u64 (y 3)] from rfl]
  go_enter Try.func36, Try.ntmps36
  refine wp_seqH (fun K0 HK0 => ?_)
  go_wp2_with fail
  refine HK0.out _ _ ?_
  refine at_world (fun W0 hW0 => ?_)
  have hD : W0.heap[w.heap.size + 1 + 1]? = some (.cells (cs (fun _ => 0)) 24 (0, 0)) := by
    rw [hW0]
    exact heap_new2 _ _ _ _ 
  have HBW : Hid (Below w.heap.size w W0) := by
    show Below _ _ _
    rw [hW0]
    repeat first | exact Below.refl _ _ | (refine Below.alloc ?_ (by simp <;> omega) _)
  clear hW0
  have HD := hideP hD
  have HN0 := hideP (HN.out.below HBW.out)
  clear hD
  refine wp_seqH (fun K1 HK1 => ?_)
  refine wp_seqH (fun K2 HK2 => ?_)
  go_wp2_with (go_at_call 76; refine (HIS.out _ HN0.out).mono ?_; rintro e w' ⟨rfl, rfl⟩)
  refine HK2.out _ _ ?_
  refine wp_cond_false rfl (wp_skip ?_)
  refine HK1.out _ _ ?_
  refine endRowQ (fun _ _ h => h) rfl rfl rfl (by decide) (by show 13 < 14; decide) rfl under rfl (info _) (one _) (rangeOf HD.out) (there_cs HD.out _) ?_
  intro wS hBut
  exact ⟨rfl, HBW.out.trans (hBut.below.mono (by omega))⟩
set_option maxHeartbeats 1000000 in
set_option maxRecDepth 100000 in
theorem subN (v : Value) (x : Nat → Nat) (y : Nat → Nat) (w : World) (hn : NM w v) : Calls Try.prog 38 #[v, .agg (cs x), .agg (cs y)] w fun e w' => e = .returned (.agg (cs (fun _ => 0))) ∧ Below w.heap.size w w' := by
  have HIS := hideP (fun w (h : NM w v) => isMade_none h)
  have HN := hideP hn
  clear hn
  rw [show cs x = #[.int .u64 (x 0), .int .u64 (x 1), .int .u64 (x 2), .int .u64 (x 3)] from rfl]
  rw [show cs y = #[.int .u64 (y 0), .int .u64 (y 1), .int .u64 (y 2), .int .u64 (y 3)] from rfl]
  go_enter Try.func38, Try.ntmps38
  refine wp_seqH (fun K0 HK0 => ?_)
  go_wp2_with fail
  refine HK0.out _ _ ?_
  refine at_world (fun W0 hW0 => ?_)
  have hD : W0.heap[w.heap.size + 1 + 1]? = some (.cells (cs (fun _ => 0)) 24 (0, 0)) := by
    rw [hW0]
    exact heap_new2 _ _ _ _ 
  have HBW : Hid (Below w.heap.size w W0) := by
    show Below _ _ _
    rw [hW0]
    repeat first | exact Below.refl _ _ | (refine Below.alloc ?_ (by simp <;> omega) _)
  clear hW0
  have HD := hideP hD
  have HN0 := hideP (HN.out.below HBW.out)
  clear hD
  refine wp_seqH (fun K1 HK1 => ?_)
  refine wp_seqH (fun K2 HK2 => ?_)
  go_wp2_with (go_at_call 76; refine (HIS.out _ HN0.out).mono ?_; rintro e w' ⟨rfl, rfl⟩)
  refine HK2.out _ _ ?_
  refine wp_cond_false rfl (wp_skip ?_)
  refine HK1.out _ _ ?_
  refine endRowQ (fun _ _ h => h) rfl rfl rfl (by decide) (by show 13 < 14; decide) rfl under rfl (info _) (one _) (rangeOf HD.out) (there_cs HD.out _) ?_
  intro wS hBut
  exact ⟨rfl, HBW.out.trans (hBut.below.mono (by omega))⟩
set_option maxHeartbeats 1000000 in
set_option maxRecDepth 100000 in
theorem negN (v : Value) (x : Nat → Nat) (w : World) (hn : NM w v) : Calls Try.prog 40 #[v, .agg (cs x)] w fun e w' => e = .returned (.agg (cs (fun _ => 0))) ∧ Below w.heap.size w w' := by
  have HIS := hideP (fun w (h : NM w v) => isMade_none h)
  have HN := hideP hn
  clear hn
  rw [show cs x = #[.int .u64 (x 0), .int .u64 (x 1), .int .u64 (x 2), .int .u64 (x 3)] from rfl]
  go_enter Try.func40, Try.ntmps40
  refine wp_seqH (fun K0 HK0 => ?_)
  go_wp2_with fail
  refine HK0.out _ _ ?_
  refine at_world (fun W0 hW0 => ?_)
  have hD : W0.heap[w.heap.size + 1]? = some (.cells (cs (fun _ => 0)) 24 (0, 0)) := by
    rw [hW0]
    exact heap_new1 _ _ _ 
  have HBW : Hid (Below w.heap.size w W0) := by
    show Below _ _ _
    rw [hW0]
    repeat first | exact Below.refl _ _ | (refine Below.alloc ?_ (by simp <;> omega) _)
  clear hW0
  have HD := hideP hD
  have HN0 := hideP (HN.out.below HBW.out)
  clear hD
  refine wp_seqH (fun K1 HK1 => ?_)
  refine wp_seqH (fun K2 HK2 => ?_)
  go_wp2_with (go_at_call 76; refine (HIS.out _ HN0.out).mono ?_; rintro e w' ⟨rfl, rfl⟩)
  refine HK2.out _ _ ?_
  refine wp_cond_false rfl (wp_skip ?_)
  refine HK1.out _ _ ?_
  refine endRowQ (fun _ _ h => h) rfl rfl rfl (by decide) (by show 11 < 12; decide) rfl under rfl (info _) (one _) (rangeOf HD.out) (there_cs HD.out _) ?_
  intro wS hBut
  exact ⟨rfl, HBW.out.trans (hBut.below.mono (by omega))⟩
set_option maxHeartbeats 1000000 in
set_option maxRecDepth 100000 in
theorem mulN (v : Value) (x : Nat → Nat) (y : Nat → Nat) (w : World) (hn : NM w v) : Calls Try.prog 41 #[v, .agg (cs x), .agg (cs y)] w fun e w' => e = .returned (.agg (cs (fun _ => 0))) ∧ Below w.heap.size w w' := by
  have HIS := hideP (fun w (h : NM w v) => isMade_none h)
  have HN := hideP hn
  clear hn
  rw [show cs x = #[.int .u64 (x 0), .int .u64 (x 1), .int .u64 (x 2), .int .u64 (x 3)] from rfl]
  rw [show cs y = #[.int .u64 (y 0), .int .u64 (y 1), .int .u64 (y 2), .int .u64 (y 3)] from rfl]
  go_enter Try.func41, Try.ntmps41
  refine wp_seqH (fun K0 HK0 => ?_)
  go_wp2_with fail
  refine HK0.out _ _ ?_
  refine at_world (fun W0 hW0 => ?_)
  have hD : W0.heap[w.heap.size + 1 + 1]? = some (.cells (cs (fun _ => 0)) 24 (0, 0)) := by
    rw [hW0]
    exact heap_new2 _ _ _ _ 
  have HBW : Hid (Below w.heap.size w W0) := by
    show Below _ _ _
    rw [hW0]
    repeat first | exact Below.refl _ _ | (refine Below.alloc ?_ (by simp <;> omega) _)
  clear hW0
  have HD := hideP hD
  have HN0 := hideP (HN.out.below HBW.out)
  clear hD
  refine wp_seqH (fun K1 HK1 => ?_)
  refine wp_seqH (fun K2 HK2 => ?_)
  go_wp2_with (go_at_call 76; refine (HIS.out _ HN0.out).mono ?_; rintro e w' ⟨rfl, rfl⟩)
  refine HK2.out _ _ ?_
  refine wp_cond_false rfl (wp_skip ?_)
  refine HK1.out _ _ ?_
  refine endRowQ (fun _ _ h => h) rfl rfl rfl (by decide) (by show 13 < 14; decide) rfl under rfl (info _) (one _) (rangeOf HD.out) (there_cs HD.out _) ?_
  intro wS hBut
  exact ⟨rfl, HBW.out.trans (hBut.below.mono (by omega))⟩
set_option maxHeartbeats 1000000 in
set_option maxRecDepth 100000 in
theorem expN (v : Value) (x : Nat → Nat) (s : Value) (w : World) (hn : NM w v) : Calls Try.prog 43 #[v, .agg (cs x), s] w fun e w' => e = .returned (.agg (cs (fun _ => 0))) ∧ Below w.heap.size w w' := by
  have HIS := hideP (fun w (h : NM w v) => isMade_none h)
  have HN := hideP hn
  clear hn
  rw [show cs x = #[.int .u64 (x 0), .int .u64 (x 1), .int .u64 (x 2), .int .u64 (x 3)] from rfl]
  go_enter Try.func43, Try.ntmps43
  refine wp_seqH (fun K0 HK0 => ?_)
  go_wp2_with fail
  refine HK0.out _ _ ?_
  refine at_world (fun W0 hW0 => ?_)
  have hD : W0.heap[w.heap.size + 1]? = some (.cells (cs (fun _ => 0)) 24 (0, 0)) := by
    rw [hW0]
    exact heap_new1 _ _ _ 
  have HBW : Hid (Below w.heap.size w W0) := by
    show Below _ _ _
    rw [hW0]
    repeat first | exact Below.refl _ _ | (refine Below.alloc ?_ (by simp <;> omega) _)
  clear hW0
  have HD := hideP hD
  have HN0 := hideP (HN.out.below HBW.out)
  clear hD
  refine wp_seqH (fun K1 HK1 => ?_)
  refine wp_seqH (fun K2 HK2 => ?_)
  go_wp2_with (go_at_call 76; refine (HIS.out _ HN0.out).mono ?_; rintro e w' ⟨rfl, rfl⟩)
  refine HK2.out _ _ ?_
  refine wp_cond_false rfl (wp_skip ?_)
  refine HK1.out _ _ ?_
  refine endRowQ (fun _ _ h => h) rfl rfl rfl (by decide) (by show 13 < 14; decide) rfl under rfl (info _) (one _) (rangeOf HD.out) (there_cs HD.out _) ?_
  intro wS hBut
  exact ⟨rfl, HBW.out.trans (hBut.below.mono (by omega))⟩
set_option maxHeartbeats 1000000 in
set_option maxRecDepth 100000 in
theorem invN (v : Value) (x : Nat → Nat) (w : World) (hn : NM w v) : Calls Try.prog 45 #[v, .agg (cs x)] w fun e w' => e = .returned (.agg (cs (fun _ => 0))) ∧ Below w.heap.size w w' := by
  have HIS := hideP (fun w (h : NM w v) => isMade_none h)
  have HN := hideP hn
  clear hn
  rw [show cs x = #[.int .u64 (x 0), .int .u64 (x 1), .int .u64 (x 2), .int .u64 (x 3)] from rfl]
  go_enter Try.func45, Try.ntmps45
  refine wp_seqH (fun K0 HK0 => ?_)
  go_wp2_with fail
  refine HK0.out _ _ ?_
  refine at_world (fun W0 hW0 => ?_)
  have hD : W0.heap[w.heap.size + 1]? = some (.cells (cs (fun _ => 0)) 24 (0, 0)) := by
    rw [hW0]
    exact heap_new1 _ _ _ 
  have HBW : Hid (Below w.heap.size w W0) := by
    show Below _ _ _
    rw [hW0]
    repeat first | exact Below.refl _ _ | (refine Below.alloc ?_ (by simp <;> omega) _)
  clear hW0
  have HD := hideP hD
  have HN0 := hideP (HN.out.below HBW.out)
  clear hD
  refine wp_seqH (fun K1 HK1 => ?_)
  refine wp_seqH (fun K2 HK2 => ?_)
  go_wp2_with (go_at_call 76; refine (HIS.out _ HN0.out).mono ?_; rintro e w' ⟨rfl, rfl⟩)
  refine HK2.out _ _ ?_
  refine wp_cond_false rfl (wp_skip ?_)
  refine HK1.out _ _ ?_
  refine endRowQ (fun _ _ h => h) rfl rfl rfl (by decide) (by show 23 < 24; decide) rfl under rfl (info _) (one _) (rangeOf HD.out) (there_cs HD.out _) ?_
  intro wS hBut
  exact ⟨rfl, HBW.out.trans (hBut.below.mono (by omega))⟩
set_option maxHeartbeats 1000000 in
set_option maxRecDepth 100000 in
theorem rootNone (v : Value) (x : Nat → Nat) (w : World) (hn : NM w v) : Calls Try.prog 33 #[v, .agg (cs x)] w fun e w' => e = .returned (.tuple #[.agg (cs (fun _ => 0)), .bool false]) ∧ Below w.heap.size w w' := by
  have HIS := hideP (fun w (h : NM w v) => isMade_none h)
  have HN := hideP hn
  clear hn
  rw [show cs x = #[.int .u64 (x 0), .int .u64 (x 1), .int .u64 (x 2), .int .u64 (x 3)] from rfl]
  go_enter Try.func33, Try.ntmps33
  refine wp_seqH (fun K0 HK0 => ?_)
  go_wp2_with fail
  refine HK0.out _ _ ?_
  refine at_world (fun W0 hW0 => ?_)
  have hD : W0.heap[w.heap.size + 1]? = some (.cells (cs (fun _ => 0)) 24 (0, 0)) := by
    rw [hW0]
    exact heap_new1 _ _ _ 
  have HBW : Hid (Below w.heap.size w W0) := by
    show Below _ _ _
    rw [hW0]
    repeat first | exact Below.refl _ _ | (refine Below.alloc ?_ (by simp <;> omega) _)
  clear hW0
  have HD := hideP hD
  have HN0 := hideP (HN.out.below HBW.out)
  clear hD
  refine wp_seqH (fun K1 HK1 => ?_)
  refine wp_seqH (fun K2 HK2 => ?_)
  go_wp2_with (go_at_call 76; refine (HIS.out _ HN0.out).mono ?_; rintro e w' ⟨rfl, rfl⟩)
  refine HK2.out _ _ ?_
  refine wp_cond_true rfl ?_
  refine endPairT rfl rfl rfl (by decide) (by decide) (by show 10 < 28; decide) (by show 5 < 28; decide) rfl under rfl (info _) (one _) (rangeOf HD.out) (there_cs HD.out _) ?_
  intro wS hBut
  exact ⟨rfl, HBW.out.trans (hBut.below.mono (by omega))⟩
end Go.Proofs.Ytiekipkmfopdoaa.W4
