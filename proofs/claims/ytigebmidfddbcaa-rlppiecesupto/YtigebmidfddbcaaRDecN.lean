/-
  What the document's decode answers.
-/
import Derived.Test.YtigebmidfddbcaaRHeadN
namespace Go.Proofs.Ytigebmidfddbcaa
open Go.RowKit Go.Shelf

/-- Where bytes begin does not matter. -/
theorem rd_shift (d : Nat) (bs : Nat → Nat) (o l f t : Nat) : rd d (fun j => bs (o + j)) l f t = rd d bs l (o + f) (o + t) := by
  have e : (fun j => bs (o + (f + j))) = fun j => bs (o + f + j) := by funext j; rw [Nat.add_assoc]
  cases d with
  | zero =>
    unfold rd
    rw [e, show o + t - (o + f) = t - f by omega]
  | succ d =>
    unfold rd
    rw [e, show o + t - (o + f) = t - f by omega]

/-- The item, how many bytes it has, why there is none. -/
def rdc (d : Nat) (bs : Nat → Nat) (n : Nat) : Tree × Nat × Nat :=
  if (hd bs n).2.2.2 ≠ 0 then (.node 0 [] [], 0, (hd bs n).2.2.2)
  else if (rd d bs (hd bs n).1 (hd bs n).2.1 (hd bs n).2.2.1).2 ≠ 0 then (.node 0 [] [], 0, (rd d bs (hd bs n).1 (hd bs n).2.1 (hd bs n).2.2.1).2)
  else ((rd d bs (hd bs n).1 (hd bs n).2.1 (hd bs n).2.2.1).1, (hd bs n).2.2.1, 0)

theorem rdc_dec (bs : Nat → Nat) (n : Nat) : dec bs n = if (rdc 64 bs n).2.2 ≠ 0 then (.node 0 [] [], (rdc 64 bs n).2.2) else if (rdc 64 bs n).2.1 < n then (.node 0 [] [], 43) else ((rdc 64 bs n).1, 0) := by
  unfold dec rdc
  by_cases h1 : (hd bs n).2.2.2 = 0
  · by_cases h2 : (rd 64 bs (hd bs n).1 (hd bs n).2.1 (hd bs n).2.2.1).2 = 0
    · simp [h1, h2]
    · simp [h1, h2]
  · simp [h1]

/-- The document's Head answers what the program's does. -/
def HeadOk : Prop := ∀ (ao : Option Addr) (n cap : Nat) (bs : Nat → Nat) (w : World), BS w ao n cap bs → n ≤ 140737488355328 →
  Calls Try.prog 22 #[.slice ao n cap] w fun e w' => e = .returned (.tuple #[pc (hd bs n).1 (hd bs n).2.1 (hd bs n).2.2.1, .int .i64 (hd bs n).2.2.2]) ∧ Below w.heap.size w w'

/-- What the document's decode answers. -/
def DecOut (w w' : World) (r : Tree × Nat × Nat) (e : Ending) : Prop := ∃ v, e = .returned (.tuple #[v, .int .i64 r.2.1, .int .i64 r.2.2]) ∧ IsItem (cut w.heap.size w') r.1 v

end Go.Proofs.Ytigebmidfddbcaa
