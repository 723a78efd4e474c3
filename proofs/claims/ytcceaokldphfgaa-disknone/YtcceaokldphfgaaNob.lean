import Derived.Test.YtcceaokldphfgaaAwake
namespace Go.Proofs.Ytcceaokldphfgaa
open Go.RowKit Go.Shelf

/-- A disk that nobody made. -/
def Nob (w : World) (p : Option Addr) : Prop :=
  p = none ∨ ∃ D, p = some ⟨D, 0, none⟩ ∧ w.heap[D]? = some (.cells #[.bool false, .bool false, .int .i64 0, .slice none 0 0, .slice none 0 0, .slice none 0 0, .int .i64 0, .int .i64 0, .slice none 0 0] 51 (0, 0))

theorem nob_dead {w : World} {p : Option Addr} (h : Nob w p) : Calls Try.prog 20 #[.pointer p] w fun e w' => e = .returned (.bool true) ∧ w = w' := by
  rcases h with rfl | ⟨D, rfl, h⟩
  · exact (dead_nil w).mono (fun e w' ⟨a, b⟩ => ⟨a, b.symm⟩)
  · exact (dead_any D false false w (blk_cell h rfl) (blk_cell h rfl)).mono (fun e w' ⟨a, b⟩ => ⟨a, b.symm⟩)

theorem nob_ops {w : World} {p : Option Addr} (h : Nob w p) : Calls Try.prog 16 #[.pointer p] w fun e w' => e = .returned (.int .i64 0) ∧ w = w' := by
  rcases h with rfl | ⟨D, rfl, h⟩
  · exact (ops_nil w).mono (fun e w' ⟨a, b⟩ => ⟨a, b.symm⟩)
  · exact (ops_any D 0 w (blk_cell h rfl)).mono (fun e w' ⟨a, b⟩ => ⟨a, b.symm⟩)

theorem nob_begin {w : World} {p : Option Addr} (h : Nob w p) : Calls Try.prog 57 #[.pointer p] w fun e w' => e = .returned (.int .i64 10) ∧ w = w' := by
  have hc := nob_dead h
  clear h
  go_enter Try.func57, Try.ntmps57
  go_wp2_with (go_at_call 20; refine hc.mono ?_; rintro e w' ⟨rfl, rfl⟩)
  go_ret
  exact ⟨rfl, rfl⟩

theorem nob_look {w : World} {p : Option Addr} (h : Nob w p) (t : ByteArray) : Calls Try.prog 45 #[.pointer p, .string t] w fun e w' => e = .returned (.tuple #[.pointer none, .int .i64 10]) ∧ w = w' := by
  have hc := nob_dead h
  clear h
  go_enter Try.func45, Try.ntmps45
  go_wp2_with (go_at_call 20; refine hc.mono ?_; rintro e w' ⟨rfl, rfl⟩)
  go_ret2
  exact ⟨rfl, rfl⟩

theorem nob_on {w : World} {p : Option Addr} (h : Nob w p) (t : ByteArray) : Calls Try.prog 54 #[.pointer p, .string t] w fun e w' => e = .returned (.tuple #[.pointer none, .int .i64 10]) ∧ w = w' := by
  have hc := nob_begin h
  clear h
  go_enter Try.func54, Try.ntmps54
  go_wp2_with (go_at_call 57; refine hc.mono ?_; rintro e w' ⟨rfl, rfl⟩)
  go_ret2
  exact ⟨rfl, rfl⟩

set_option maxHeartbeats 400000 in
set_option maxRecDepth 100000 in
theorem nob_create {w : World} {p : Option Addr} (h : Nob w p) (t : ByteArray) : Calls Try.prog 29 #[.pointer p, .string t] w fun e w' => e = .returned (.int .i64 10) ∧ w = w' := by
  have hc := nob_begin h 
  clear h
  go_enter Try.func29, Try.ntmps29
  go_wp2_with (go_at_call 57; refine hc.mono ?_; rintro e w' ⟨rfl, rfl⟩)
  go_ret
  exact ⟨rfl, rfl⟩

set_option maxHeartbeats 400000 in
set_option maxRecDepth 100000 in
theorem nob_append {w : World} {p : Option Addr} (h : Nob w p) (t : ByteArray) (b : Value) : Calls Try.prog 30 #[.pointer p, .string t, b] w fun e w' => e = .returned (.int .i64 10) ∧ w = w' := by
  have hc := nob_on h t
  clear h
  go_enter Try.func30, Try.ntmps30
  go_wp2_with (go_at_call 54; refine hc.mono ?_; rintro e w' ⟨rfl, rfl⟩)
  go_ret
  exact ⟨rfl, rfl⟩

set_option maxHeartbeats 400000 in
set_option maxRecDepth 100000 in
theorem nob_writeAt {w : World} {p : Option Addr} (h : Nob w p) (t : ByteArray) (i : Int) (b : Value) : Calls Try.prog 33 #[.pointer p, .string t, .int .i64 i, b] w fun e w' => e = .returned (.int .i64 10) ∧ w = w' := by
  have hc := nob_on h t
  clear h
  go_enter Try.func33, Try.ntmps33
  go_wp2_with (go_at_call 54; refine hc.mono ?_; rintro e w' ⟨rfl, rfl⟩)
  go_ret
  exact ⟨rfl, rfl⟩

set_option maxHeartbeats 400000 in
set_option maxRecDepth 100000 in
theorem nob_truncate {w : World} {p : Option Addr} (h : Nob w p) (t : ByteArray) (i : Int) : Calls Try.prog 34 #[.pointer p, .string t, .int .i64 i] w fun e w' => e = .returned (.int .i64 10) ∧ w = w' := by
  have hc := nob_on h t
  clear h
  go_enter Try.func34, Try.ntmps34
  go_wp2_with (go_at_call 54; refine hc.mono ?_; rintro e w' ⟨rfl, rfl⟩)
  go_ret
  exact ⟨rfl, rfl⟩

set_option maxHeartbeats 400000 in
set_option maxRecDepth 100000 in
theorem nob_sync {w : World} {p : Option Addr} (h : Nob w p) (t : ByteArray) : Calls Try.prog 26 #[.pointer p, .string t] w fun e w' => e = .returned (.int .i64 10) ∧ w = w' := by
  have hc := nob_on h t
  clear h
  go_enter Try.func26, Try.ntmps26
  go_wp2_with (go_at_call 54; refine hc.mono ?_; rintro e w' ⟨rfl, rfl⟩)
  go_ret
  exact ⟨rfl, rfl⟩

set_option maxHeartbeats 400000 in
set_option maxRecDepth 100000 in
theorem nob_rename {w : World} {p : Option Addr} (h : Nob w p) (t u : ByteArray) : Calls Try.prog 35 #[.pointer p, .string t, .string u] w fun e w' => e = .returned (.int .i64 10) ∧ w = w' := by
  have hc := nob_on h t
  clear h
  go_enter Try.func35, Try.ntmps35
  go_wp2_with (go_at_call 54; refine hc.mono ?_; rintro e w' ⟨rfl, rfl⟩)
  go_ret
  exact ⟨rfl, rfl⟩

set_option maxHeartbeats 400000 in
set_option maxRecDepth 100000 in
theorem nob_remove {w : World} {p : Option Addr} (h : Nob w p) (t : ByteArray) : Calls Try.prog 36 #[.pointer p, .string t] w fun e w' => e = .returned (.int .i64 10) ∧ w = w' := by
  have hc := nob_on h t
  clear h
  go_enter Try.func36, Try.ntmps36
  go_wp2_with (go_at_call 54; refine hc.mono ?_; rintro e w' ⟨rfl, rfl⟩)
  go_ret
  exact ⟨rfl, rfl⟩

set_option maxHeartbeats 400000 in
set_option maxRecDepth 100000 in
theorem nob_read {w : World} {p : Option Addr} (h : Nob w p) (t : ByteArray) (i n : Int) : Calls Try.prog 17 #[.pointer p, .string t, .int .i64 i, .int .i64 n] w fun e w' => e = .returned (.tuple #[.slice none 0 0, .int .i64 10]) ∧ w = w' := by
  have hc := nob_look h t
  clear h
  go_enter Try.func17, Try.ntmps17
  go_wp2_with (go_at_call 45; refine hc.mono ?_; rintro e w' ⟨rfl, rfl⟩)
  go_ret2
  exact ⟨rfl, rfl⟩

set_option maxHeartbeats 400000 in
set_option maxRecDepth 100000 in
theorem nob_size {w : World} {p : Option Addr} (h : Nob w p) (t : ByteArray) : Calls Try.prog 24 #[.pointer p, .string t] w fun e w' => e = .returned (.tuple #[.int .i64 0, .int .i64 10]) ∧ w = w' := by
  have hc := nob_look h t
  clear h
  go_enter Try.func24, Try.ntmps24
  go_wp2_with (go_at_call 45; refine hc.mono ?_; rintro e w' ⟨rfl, rfl⟩)
  go_ret2
  exact ⟨rfl, rfl⟩

set_option maxHeartbeats 400000 in
set_option maxRecDepth 100000 in
theorem nob_files {w : World} {p : Option Addr} (h : Nob w p)  : Calls Try.prog 21 #[.pointer p] w fun e w' => e = .returned (.slice none 0 0) ∧ w = w' := by
  have hc := nob_dead h 
  clear h
  go_enter Try.func21, Try.ntmps21
  go_wp2_with (go_at_call 20; refine hc.mono ?_; rintro e w' ⟨rfl, rfl⟩)
  go_ret
  exact ⟨rfl, rfl⟩

set_option maxHeartbeats 400000 in
set_option maxRecDepth 100000 in
theorem nob_clone {w : World} {p : Option Addr} (h : Nob w p) : Calls Try.prog 23 #[.pointer p] w fun e w' => e = .returned (.pointer none) ∧ Below w.heap.size w w' := by
  have hb : ∀ o, Below w.heap.size w (w.alloc o) := fun o => (Below.refl _ w).alloc (Nat.le_refl _) _
  rcases h with rfl | ⟨D, rfl, h⟩
  · go_enter Try.func23, Try.ntmps23
    go_wp2
    go_ret
    exact ⟨rfl, by first | exact Below.refl _ _ | exact hb _⟩
  · have h0 : w.cell? ⟨D, 0, none⟩ = some (.bool false) := blk_cell h rfl
    clear h
    go_enter Try.func23, Try.ntmps23
    go_wp2
    go_ret
    exact ⟨rfl, by first | exact Below.refl _ _ | exact hb _⟩

set_option maxHeartbeats 400000 in
set_option maxRecDepth 100000 in
theorem nob_start {w : World} {p : Option Addr} (h : Nob w p) (c r : Int) (v1 v2 v3 : Value) : Calls Try.prog 27 #[.pointer p, .agg #[.int .i64 c, v1, v2, v3, .int .i64 r]] w fun e w' => e = .returned (.int .i64 10) ∧ Below w.heap.size w w' := by
  have hb : ∀ o, Below w.heap.size w (w.alloc o) := fun o => (Below.refl _ w).alloc (Nat.le_refl _) _
  rcases h with rfl | ⟨D, rfl, h⟩
  · go_enter Try.func27, Try.ntmps27
    go_wp2
    go_ret
    exact ⟨rfl, by first | exact Below.refl _ _ | exact hb _⟩
  · have hD : D < w.heap.size := (Array.getElem?_eq_some_iff.1 h).1
    have h0 : w.cell? ⟨D, 0, none⟩ = some (.bool false) := blk_cell h rfl
    have h1 : ∀ o, (w.alloc o).cell? ⟨D, 0, none⟩ = some (.bool false) := fun o => blk_cell (((hb o).block D hD).trans h) rfl
    clear h
    go_enter Try.func27, Try.ntmps27
    go_wp2
    go_ret
    exact ⟨rfl, by first | exact Below.refl _ _ | exact hb _⟩

end Go.Proofs.Ytcceaokldphfgaa
