/- YtcceaokldphfgaaDiskSyncedC45 -/
import Derived.Test.YtcceaokldphfgaaDiskSyncedC44
namespace Go.Proofs.Ytcceaokldphfgaa
open Go.RowKit Go.Shelf

/-- The eleven cells of an operation. -/
def opC (a a1 a2 a3 : Option Addr) (c c1 c2 c3 : Nat) (o : AOp) : List Value :=
  [.int .i64 o.kind, .string o.name, .string o.to, .int .i64 o.at_, .int .i64 o.long, .slice a o.data.length c, .int .i64 o.crash, .slice a1 o.keep.length c1, .slice a2 o.fail.length c2, .slice a3 o.full.length c3, .int .i64 o.room]

/-- Operations that can be read. -/
def OpsAt (w : World) (v : Value) (L : List AOp) : Prop :=
  (L = [] ∧ ∃ a c, v = .slice a 0 c) ∨ ∃ blk off cap, v = .slice (some ⟨blk, off, none⟩) L.length cap ∧ blk < w.heap.size ∧ L.length ≤ 140737488351232 ∧
    ∀ (j : Nat) (o : AOp), L[j]? = some o → ∃ a a1 a2 a3 c c1 c2 c3, OpAt w a a1 a2 a3 c c1 c2 c3 o ∧ ∀ (i : Nat) (u : Value), (opC a a1 a2 a3 c c1 c2 c3 o)[i]? = some u → w.cell? ⟨blk, off + j * 11 + i, none⟩ = some u

/-- What few answers. -/
def FewR (L : List AOp) (r : Ending) : Prop := ∃ b, r = .returned (.bool b) ∧ (b = true → L.length ≤ 60)

set_option maxHeartbeats 1000000 in
set_option maxRecDepth 100000 in
theorem few_some (w : World) (blk off cap : Nat) (L : List AOp) (hlt : blk < w.heap.size) (hlen : L.length ≤ 140737488351232)
    (hr : ∀ (j : Nat) (o : AOp), L[j]? = some o → ∃ a a1 a2 a3 c c1 c2 c3, OpAt w a a1 a2 a3 c c1 c2 c3 o ∧ ∀ (i : Nat) (u : Value), (opC a a1 a2 a3 c c1 c2 c3 o)[i]? = some u → w.cell? ⟨blk, off + j * 11 + i, none⟩ = some u) :
    Calls Try.prog 10 #[.slice (some ⟨blk, off, none⟩) L.length cap] w fun r w' => FewR L r ∧ Below w.heap.size w w' := by
  have HR := hideP hr
  clear hr
  go_enter Try.func10, Try.ntmps10
  go_wp2
  go_loopw [3, 8] (fun n i wr => ∃ (k : Int) (j : Nat), j ≤ L.length ∧ n = .int .i64 k ∧ i = .int .i64 j ∧ Hid (Below w.heap.size w wr)) (fun _ i _ => L.length - (intOf i).toNat)
  case atStart => exact ⟨0, 0, Nat.zero_le _, rfl, rfl, Below.refl _ _⟩
  case round =>
    obtain ⟨k, j, hj, rfl, rfl, hb⟩ := hrel
    by_cases hjl : j < L.length
    · obtain ⟨a, a1, a2, a3, c, c1, c2, c3, hop, hcell⟩ := HR.out j L[j] (by simp [hjl])
      have hcw : ∀ (i : Nat) (u : Value), (opC a a1 a2 a3 c c1 c2 c3 L[j])[i]? = some u → wr.cell? ⟨blk, off + j * 11 + i, none⟩ = some u := fun i u hu => (hb.out.cell (p := ⟨blk, off + j * 11 + i, none⟩) hlt).trans (hcell i u hu)
      have m0 := hcw 0 _ rfl
      have m1 := hcw 1 _ rfl
      have m2 := hcw 2 _ rfl
      have m3 := hcw 3 _ rfl
      have m4 := hcw 4 _ rfl
      have m5 := hcw 5 _ rfl
      have m6 := hcw 6 _ rfl
      have m7 := hcw 7 _ rfl
      have m8 := hcw 8 _ rfl
      have m9 := hcw 9 _ rfl
      have m10 := hcw 10 _ rfl
      simp only [Nat.add_zero] at m0
      clear hcw hcell hop
      have HBA : Hid (∀ o, Below w.heap.size w (wr.alloc o)) := fun o => hb.out.alloc hb.out.size o
      clear hb
      go_wp2
      all_goals first
        | exact ⟨⟨_, j + 1, by omega, rfl, by go_num, HBA.out _⟩, by simp [intOf]; omega⟩
        | (go_ret; exact ⟨⟨false, rfl, by simp⟩, HBA.out _⟩)
    · have hjl' : j = L.length := by omega
      subst hjl'
      go_wp2
      all_goals go_ret
      all_goals exact ⟨⟨_, rfl, by simp; omega⟩, hb.out⟩

theorem few_D (w : World) (v : Value) (L : List AOp) (h : OpsAt w v L) : Calls Try.prog 10 #[v] w fun r w' => FewR L r ∧ Below w.heap.size w w' := by
  rcases h with ⟨rfl, a, c, rfl⟩ | ⟨blk, off, cap, rfl, h1, h2, h3⟩
  · go_enter Try.func10, Try.ntmps10
    go_wp2
    go_loopw [8] (fun i wr => i = .int .i64 0 ∧ wr = w) (fun _ _ => 0)
    case atStart => exact ⟨rfl, rfl⟩
    case round =>
      obtain ⟨rfl, rfl⟩ := hrel
      go_wp2
      go_ret
      exact ⟨⟨_, rfl, by simp⟩, Below.refl _ _⟩
  · exact few_some w blk off cap L h1 h2 h3

end Go.Proofs.Ytcceaokldphfgaa
