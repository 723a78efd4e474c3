/-
  Numbers of package gas, and instructions of code by numbers.
-/
import Derived.Test.YtaeadndihchbnaaDoorGasTilesC01
namespace Go.Proofs.YtaeadndihchbnaaDoor
open Go.RowKit Go.Shelf

/-- How many words of 32 bytes a length takes. -/
def wds (n : Nat) : Nat := (n + 31) / 32

/-- What a memory of so many bytes costs. -/
def memN (s : Nat) : Nat := if 8388608 < s then 33554433 else 3 * wds s + wds s * wds s / 512

theorem wds_alt (n : Nat) : (if n % 32 = 0 then n / 32 else n / 32 + 1) = wds n := by
  unfold wds
  split <;> omega

theorem wds_mono {m n : Nat} (h : m ≤ n) : wds m ≤ wds n := by unfold wds; omega

theorem memN_mono {m n : Nat} (h : m ≤ n) (hn : n ≤ 8388608) : memN m ≤ memN n := by
  unfold memN
  rw [if_neg (by omega), if_neg (by omega)]
  have h1 := wds_mono h
  have h2 : wds m * wds m ≤ wds n * wds n := Nat.mul_le_mul h1 h1
  have h3 : wds m * wds m / 512 ≤ wds n * wds n / 512 := Nat.div_le_div_right h2
  omega

/-- What writing a slot costs, and gives back. -/
def storeN (first now next : Nat) (warm : Bool) : Nat × Int :=
  let c := if warm then 0 else 2100
  if next = now then (c + 100, 0)
  else if now = first then (if first = 0 then (c + 20000, 0) else (c + 2900, if next = 0 then 4800 else 0))
  else (c + 100, (if first ≠ 0 ∧ now = 0 then -4800 else 0) + (if first ≠ 0 ∧ next = 0 then 4800 else 0) + (if next = first then (if first = 0 then 19900 else 2800) else 0))

/-- How many bytes of data an opcode has behind it. -/
def skipN (o : Nat) : Nat := if 96 ≤ o ∧ o ≤ 127 then o - 95 else 0

/-- The instructions from a place on. -/
def codesL (c : Nat → Nat) (n : Nat) : Nat → Nat → List (Nat × Nat)
  | 0, _ => []
  | f + 1, i => if i < n then (i, c i) :: codesL c n f (i + 1 + skipN (c i)) else []

def destsL (c : Nat → Nat) (n f i : Nat) : List Nat := ((codesL c n f i).filter fun x => x.2 == 91).map (·.1)

theorem codes_mem {c : Nat → Nat} {n : Nat} : ∀ {f i k o : Nat}, (k, o) ∈ codesL c n f i → i ≤ k ∧ k < n ∧ o = c k
  | 0, _, _, _, h => by simp [codesL] at h
  | f + 1, i, k, o, h => by
    unfold codesL at h
    split at h
    · rename_i hi
      rcases List.mem_cons.1 h with h | h
      · cases h
        exact ⟨Nat.le_refl _, hi, rfl⟩
      · obtain ⟨h1, h2, h3⟩ := codes_mem h
        exact ⟨by omega, h2, h3⟩
    · simp at h

/-- No instruction begins within another's data. -/
theorem codes_inside {c : Nat → Nat} {n : Nat} : ∀ {f i a o k o' : Nat}, (a, o) ∈ codesL c n f i → a < k → k ≤ a + skipN o → (k, o') ∉ codesL c n f i
  | 0, _, _, _, _, _, h, _, _ => by simp [codesL] at h
  | f + 1, i, a, o, k, o', h, h1, h2 => by
    unfold codesL at h ⊢
    split at h
    · rename_i hi
      rw [if_pos hi]
      intro hk
      rcases List.mem_cons.1 h with h | h
      · cases h
        rcases List.mem_cons.1 hk with hk | hk
        · cases hk; omega
        · have := (codes_mem hk).1; omega
      · rcases List.mem_cons.1 hk with hk | hk
        · cases hk
          have := (codes_mem h).1; omega
        · exact codes_inside h h1 h2 hk
    · simp at h

theorem dests_mem {c : Nat → Nat} {n f i k : Nat} : k ∈ destsL c n f i ↔ (k, 91) ∈ codesL c n f i := by
  unfold destsL
  simp only [List.mem_map, List.mem_filter, beq_iff_eq, Prod.exists]
  constructor
  · rintro ⟨a, b, ⟨h1, rfl⟩, rfl⟩
    exact h1
  · exact fun h => ⟨k, 91, ⟨h, rfl⟩, rfl⟩

theorem dest_inside {c : Nat → Nat} {n f i a o k : Nat} (h : (a, o) ∈ codesL c n f i) (h1 : a < k) (h2 : k ≤ a + skipN o) : k ∉ destsL c n f i := fun h3 => codes_inside h h1 h2 (dests_mem.1 h3)

theorem dest_lt {c : Nat → Nat} {n f i k : Nat} (h : k ∈ destsL c n f i) : k < n := (codes_mem (dests_mem.1 h)).2.1

/-- Where the next instruction begins, behind so many. -/
def nextN (c : Nat → Nat) (n f i : Nat) : Nat → Nat
  | 0 => i
  | j + 1 => match (codesL c n f i)[j]? with
    | some x => x.1 + 1 + skipN x.2
    | none => n

theorem codes_cons {c : Nat → Nat} {n f i : Nat} (h : i < n) : codesL c n (f + 1) i = (i, c i) :: codesL c n f (i + 1 + skipN (c i)) := by
  show (if i < n then _ else _) = _
  rw [if_pos h]

theorem codes_none {c : Nat → Nat} {n f i : Nat} (h : n ≤ i) : codesL c n f i = [] := by
  cases f with
  | zero => rfl
  | succ f => show (if i < n then _ else _) = _; rw [if_neg (by omega)]

/-- One behind the other, without a gap. -/
theorem codes_next {c : Nat → Nat} {n : Nat} : ∀ {f i j : Nat} {x : Nat × Nat}, (codesL c n f i)[j]? = some x → x.1 = nextN c n f i j
  | 0, _, _, _, h => by simp [codesL] at h
  | f + 1, i, j, x, h => by
    by_cases hi : i < n
    · rw [codes_cons hi] at h
      match j, h with
      | 0, h => simp at h; rw [← h]; rfl
      | j + 1, h =>
        simp only [List.getElem?_cons_succ] at h
        have ih := codes_next h
        rw [ih]
        match j with
        | 0 => simp [nextN, codes_cons hi]
        | j + 1 => simp [nextN, codes_cons hi]
    · rw [codes_none (by omega)] at h
      simp at h

/-- The last one reaches the end. -/
theorem codes_end {c : Nat → Nat} {n : Nat} : ∀ {f i : Nat}, n ≤ i + f → n ≤ nextN c n f i (codesL c n f i).length
  | 0, i, h => by simp [codesL, nextN]; omega
  | f + 1, i, h => by
    by_cases hi : i < n
    · have ih := codes_end (c := c) (n := n) (f := f) (i := i + 1 + skipN (c i)) (by omega)
      rw [codes_cons hi, List.length_cons]
      cases hl : (codesL c n f (i + 1 + skipN (c i))).length with
      | zero =>
        rw [hl] at ih
        simp only [nextN] at ih
        simp only [nextN, codes_cons hi, List.getElem?_cons_zero]
        exact ih
      | succ m =>
        rw [hl] at ih
        simp only [nextN] at ih
        simp only [nextN, codes_cons hi, List.getElem?_cons_succ]
        exact ih
    · rw [codes_none (by omega)]
      show n ≤ i
      omega

end Go.Proofs.YtaeadndihchbnaaDoor
