/-
  Numbers of package gas, and instructions of code by numbers.
-/
import Derived.Test.YtaeadndihchbnaaDoorGasRefundsC01
namespace Go.Proofs.YtaeadndihchbnaaDoor
open Go.RowKit Go.Shelf

/-- How many words of 32 bytes a length takes. -/
def wds (n : Nat) : Nat := (n + 31) / 32

/-- What a memory of so many bytes costs. -/
def memN (s : Nat) : Nat := if 8388608 < s then 33554433 else 3 * wds s + wds s * wds s / 512

theorem wds_alt (n : Nat) : (if n % 32 = 0 then n / 32 else n / 32 + 1) = wds n := by
  unfold wds
  split <;> omega

theorem wds_mono {m n : Nat} (h : m ≤ n) : wds m ≤ wds n := by unfold wds; omega

theorem memN_mono {m n : Nat} (h : m ≤ n) (hn : n ≤ 8388608) : memN m ≤ memN n := by
  unfold memN
  rw [if_neg (by omega), if_neg (by omega)]
  have h1 := wds_mono h
  have h2 : wds m * wds m ≤ wds n * wds n := Nat.mul_le_mul h1 h1
  have h3 : wds m * wds m / 512 ≤ wds n * wds n / 512 := Nat.div_le_div_right h2
  omega

/-- What writing a slot costs, and gives back. -/
def storeN (first now next : Nat) (warm : Bool) : Nat × Int :=
  let c := if warm then 0 else 2100
  if next = now then (c + 100, 0)
  else if now = first then (if first = 0 then (c + 20000, 0) else (c + 2900, if next = 0 then 4800 else 0))
  else (c + 100, (if first ≠ 0 ∧ now = 0 then -4800 else 0) + (if first ≠ 0 ∧ next = 0 then 4800 else 0) + (if next = first then (if first = 0 then 19900 else 2800) else 0))

/-- What the sum of refunds is worth at least, where a slot stands. -/
def Owed (first now : Nat) (sum : Int) : Prop := 0 ≤ sum ∧ (first ≠ 0 → now = 0 → 4800 ≤ sum)

theorem owed_zero (first : Nat) : Owed first first 0 := ⟨Int.le_refl _, fun h1 h2 => absurd h2 h1⟩

/-- One step of a slot. -/
theorem store_step {first now next : Nat} {warm : Bool} {sum : Int} (h : Owed first now sum) :
    Owed first next (sum + (storeN first now next warm).2) ∧ (storeN first now next warm).2 ≤ 22700 ∧ -4800 ≤ (storeN first now next warm).2 ∧
      (¬ (now = first ∧ next ≠ now) → (storeN first now next warm).1 = (if warm then 0 else 2100) + 100) ∧ (now = first ∧ next ≠ now → 2900 ≤ (storeN first now next warm).1) := by
  obtain ⟨h1, h2⟩ := h
  unfold storeN Owed
  dsimp only
  by_cases hn : next = now
  · rw [if_pos hn]
    subst hn
    exact ⟨⟨by dsimp only; omega, fun a b => by dsimp only; have := h2 a b; omega⟩, by dsimp only; omega, by dsimp only; omega, fun _ => rfl, fun ⟨_, e⟩ => absurd rfl e⟩
  · rw [if_neg hn]
    by_cases hf : now = first
    · rw [if_pos hf]
      subst hf
      by_cases hz : now = 0
      · rw [if_pos hz]
        exact ⟨⟨by dsimp only; omega, fun a _ => absurd hz a⟩, by dsimp only; omega, by dsimp only; omega, fun e => absurd ⟨rfl, hn⟩ e, fun _ => by dsimp only; omega⟩
      · rw [if_neg hz]
        dsimp only
        refine ⟨⟨by split <;> omega, fun _ b => by rw [if_pos b]; omega⟩, by split <;> omega, by split <;> omega, fun e => absurd ⟨rfl, hn⟩ e, fun _ => by omega⟩
    · rw [if_neg hf]
      dsimp only
      refine ⟨⟨?_, fun a b => ?_⟩, ?_, ?_, fun _ => rfl, fun e => absurd e.1 hf⟩
      · by_cases hz : first = 0
        · rw [if_neg (by omega), if_neg (by omega)]; split <;> (try split) <;> omega
        · by_cases ha : now = 0
          · have := h2 hz ha
            rw [if_pos ⟨hz, ha⟩]; repeat (first | omega | split)
          · rw [if_neg (by omega)]; repeat (first | omega | split)
      · rw [if_pos (⟨a, b⟩ : first ≠ 0 ∧ next = 0)]
        by_cases ha : now = 0
        · exact absurd (b.trans ha.symm) hn
        · rw [if_neg (by omega)]; repeat (first | omega | split)
      · repeat (first | omega | split)
      · repeat (first | omega | split)

/-- How many bytes of data an opcode has behind it. -/
def skipN (o : Nat) : Nat := if 96 ≤ o ∧ o ≤ 127 then o - 95 else 0

/-- The instructions from a place on. -/
def codesL (c : Nat → Nat) (n : Nat) : Nat → Nat → List (Nat × Nat)
  | 0, _ => []
  | f + 1, i => if i < n then (i, c i) :: codesL c n f (i + 1 + skipN (c i)) else []

theorem codes_mem {c : Nat → Nat} {n : Nat} : ∀ {f i k o : Nat}, (k, o) ∈ codesL c n f i → i ≤ k ∧ k < n ∧ o = c k
  | 0, _, _, _, h => by simp [codesL] at h
  | f + 1, i, k, o, h => by
    unfold codesL at h
    split at h
    · rename_i hi
      rcases List.mem_cons.1 h with h | h
      · cases h
        exact ⟨Nat.le_refl _, hi, rfl⟩
      · obtain ⟨h1, h2, h3⟩ := codes_mem h
        exact ⟨by omega, h2, h3⟩
    · simp at h

/-- Where the next instruction begins, behind so many. -/
def nextN (c : Nat → Nat) (n f i : Nat) : Nat → Nat
  | 0 => i
  | j + 1 => match (codesL c n f i)[j]? with
    | some x => x.1 + 1 + skipN x.2
    | none => n

theorem codes_cons {c : Nat → Nat} {n f i : Nat} (h : i < n) : codesL c n (f + 1) i = (i, c i) :: codesL c n f (i + 1 + skipN (c i)) := by
  show (if i < n then _ else _) = _
  rw [if_pos h]

theorem codes_none {c : Nat → Nat} {n f i : Nat} (h : n ≤ i) : codesL c n f i = [] := by
  cases f with
  | zero => rfl
  | succ f => show (if i < n then _ else _) = _; rw [if_neg (by omega)]

/-- One behind the other, without a gap. -/
theorem codes_next {c : Nat → Nat} {n : Nat} : ∀ {f i j : Nat} {x : Nat × Nat}, (codesL c n f i)[j]? = some x → x.1 = nextN c n f i j
  | 0, _, _, _, h => by simp [codesL] at h
  | f + 1, i, j, x, h => by
    by_cases hi : i < n
    · rw [codes_cons hi] at h
      match j, h with
      | 0, h => simp at h; rw [← h]; rfl
      | j + 1, h =>
        simp only [List.getElem?_cons_succ] at h
        have ih := codes_next h
        rw [ih]
        match j with
        | 0 => simp [nextN, codes_cons hi]
        | j + 1 => simp [nextN, codes_cons hi]
    · rw [codes_none (by omega)] at h
      simp at h

/-- The last one reaches the end. -/
theorem codes_end {c : Nat → Nat} {n : Nat} : ∀ {f i : Nat}, n ≤ i + f → n ≤ nextN c n f i (codesL c n f i).length
  | 0, i, h => by simp [codesL, nextN]; omega
  | f + 1, i, h => by
    by_cases hi : i < n
    · have ih := codes_end (c := c) (n := n) (f := f) (i := i + 1 + skipN (c i)) (by omega)
      rw [codes_cons hi, List.length_cons]
      cases hl : (codesL c n f (i + 1 + skipN (c i))).length with
      | zero =>
        rw [hl] at ih
        simp only [nextN] at ih
        simp only [nextN, codes_cons hi, List.getElem?_cons_zero]
        exact ih
      | succ m =>
        rw [hl] at ih
        simp only [nextN] at ih
        simp only [nextN, codes_cons hi, List.getElem?_cons_succ]
        exact ih
    · rw [codes_none (by omega)]
      show n ≤ i
      omega

end Go.Proofs.YtaeadndihchbnaaDoor
