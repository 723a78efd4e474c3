/-
  Going over instructions: what the function of instructions gives.
-/
import Derived.RangeFuncNested
import Derived.RangeFuncBound
import Derived.RangeFuncCalls
import Derived.RangeFuncLeaves
import Derived.RangeFuncBox
import Derived.Shelf.Abstract
import Derived.Shelf.RegionOpen
import Derived.OwnWalkIn
import Derived.TacticsInMore
import Derived.LoopNIn
import Derived.LoopIn
import Derived.Test.YtaeadndihchbnaaDoorGasTilesC05
import Derived.Test.YtaeadndihchbnaaDoorGasTilesC07
namespace Go.Proofs.YtaeadndihchbnaaDoor
open Go.RowKit Go.Shelf

attribute [local go_sem] Oper.semAt_some

/-- The instructions of code. -/
def insL (bs : Nat → Nat) (n : Nat) : List (Nat × Nat) := codesL bs n n 0

def posN (bs : Nat → Nat) (n : Nat) (k : Nat) : Nat := nextN bs n n 0 k

theorem ins_at {bs : Nat → Nat} {n k : Nat} (h : k < (insL bs n).length) : (insL bs n)[k]? = some (posN bs n k, bs (posN bs n k)) ∧ posN bs n k < n ∧ posN bs n (k + 1) = posN bs n k + 1 + skipN (bs (posN bs n k)) := by
  have h1 : ∃ x, (insL bs n)[k]? = some x := ⟨_, List.getElem?_eq_getElem h⟩
  obtain ⟨⟨p, o⟩, h1⟩ := h1
  have h2 : p = posN bs n k := codes_next (c := bs) (n := n) (f := n) (i := 0) h1
  obtain ⟨_, h3, h4⟩ := codes_mem (c := bs) (n := n) (f := n) (i := 0) (List.mem_of_getElem? h1)
  have h5 : posN bs n (k + 1) = p + 1 + skipN o := by
    show (match (codesL bs n n 0)[k]? with | some x => x.1 + 1 + skipN x.2 | none => n) = _
    rw [show (codesL bs n n 0)[k]? = some (p, o) from h1]
  subst h2
  subst h4
  exact ⟨h1, h3, h5⟩

theorem ins_end (bs : Nat → Nat) (n : Nat) : n ≤ posN bs n (insL bs n).length := codes_end (c := bs) (n := n) (f := n) (i := 0) (by omega)

theorem ins_zero (bs : Nat → Nat) (n : Nat) : posN bs n 0 = 0 := rfl

def insV (L : List (Nat × Nat)) (k : Nat) : Array Value := #[.int .i64 ((L.getD k (0, 0)).1 : Nat), .int .u8 ((L.getD k (0, 0)).2 : Nat)]

theorem insV_at {bs : Nat → Nat} {n k : Nat} (h : k < (insL bs n).length) : insV (insL bs n) k = #[.int .i64 (posN bs n k : Nat), .int .u8 (bs (posN bs n k) : Nat)] := by
  unfold insV
  rw [List.getD_eq_getElem?_getD, (ins_at h).1]
  rfl

/-- Code in a box. -/
def InsM (Bn : Nat) (ao : Option Addr) (n c : Nat) (bs : Nat → Nat) (V : World) : Prop := V.cell? ⟨Bn, 0, none⟩ = some (.slice ao n c) ∧ BS V ao n c bs

theorem InsM.moved {Bn : Nat} {ao : Option Addr} {n c : Nat} {bs : Nat → Nat} {V V' : World} (h : InsM Bn ao n c bs V) (hb : Below V.heap.size V V') : InsM Bn ao n c bs V' :=
  ⟨(hb.cell (p := ⟨Bn, 0, none⟩) (World.block_lt_of_cell? V _ h.1)).trans h.1, h.2.moved hb⟩

theorem InsM.putObj {Bn : Nat} {ao : Option Addr} {n c : Nat} {bs : Nat → Nat} {V : World} (h : InsM Bn ao n c bs V) {l : Nat} {o o' : Obj} (hl : V.heap[l]? = some o) (ho : o.isCells = false) : InsM Bn ao n c bs (V.putObj l o') :=
  ⟨putObj_cell hl ho h.1, h.2.putObj hl ho⟩

def KpI (Bn : Nat) (ao : Option Addr) (n c : Nat) (bs : Nat → Nat) (V V' : World) : Prop := InsM Bn ao n c bs V → InsM Bn ao n c bs V'

set_option maxHeartbeats 2000000 in
set_option maxRecDepth 100000 in
theorem ins_gives (m : Nat) (hm : 1 ≤ m) {Bn n c : Nat} {ao : Option Addr} {bs : Nat → Nat} (w : World) (hn : n ≤ 140737488355328) (hI : InsM Bn ao n c bs w) :
    Gives m Tryd.prog 91 #[.pointer (some ⟨Bn, 0, none⟩)] (insV (insL bs n)) (insL bs n).length (KpI Bn ao n c bs) w := by
  intro l J Jx W hW hJs hJxs hY h0
  have HI := hideP (hI.moved hW)
  have HY := hideP hY
  have HJ := hideP h0
  have HN := hideP hn
  have HJS := hideP hJs
  clear hI hJs hJxs hY h0 hW hn
  refine callsIn_of_wp Tryd.func91 rfl trivial ?_ rfl
  simp only [Tryd.ntmps91, List.size_toArray, List.length_cons, List.length_nil, Nat.reduceAdd, Nat.reduceSub, Array.replicate_succ, Array.replicate_zero, List.push_toArray, List.append_toArray, List.nil_append, List.cons_append]
  gi_wp2
  gi_loopw [3] (fun i wr => ∃ k : Nat, k ≤ (insL bs n).length ∧ i = .int .i64 (posN bs n k : Nat) ∧ Hid (J k wr) ∧ Hid (InsM Bn ao n c bs wr)) (fun i _ => n - (intOf i).toNat)
  case atStart => exact ⟨0, Nat.zero_le _, by rw [ins_zero]; rfl, HJ, HI⟩
  case round =>
    obtain ⟨k, hk, rfl, HJk, HIk⟩ := hrel
    by_cases hlt : k < (insL bs n).length
    · obtain ⟨_, hp, hnx⟩ := ins_at hlt
      obtain ⟨e0, e1⟩ := HIk.out
      obtain ⟨ad, rfl, hcell⟩ := e1.cell _ hp
      have h256 := e1.lt (posN bs n k)
      obtain ⟨fn, tmps, assign, body, hy, hRd⟩ := HY.out k wr hlt HJk.out
      rw [insV_at hlt] at hy
      have HRd := hideP hRd
      have hsk : skipN (bs (posN bs n k)) ≤ 32 := by unfold skipN; split <;> omega
      have hn' := HN.out
      have g : (posN bs n k : Int) < (n : Int) := by omega
      have t1 : IntKind.i64.wrap (1 + (skipN (bs (posN bs n k)) : Int)) = 1 + (skipN (bs (posN bs n k)) : Int) := by rw [IntKind.wrap_i64]; omega
      have t2 : IntKind.i64.wrap ((posN bs n k : Int) + (1 + (skipN (bs (posN bs n k)) : Int))) = (posN bs n k : Int) + (1 + (skipN (bs (posN bs n k)) : Int)) := by rw [IntKind.wrap_i64]; omega
      have HD := hideP (fun W => callsIn_wide (n := m - 1).2 (dataOf_any _ h256 W))
      have HNX := hideP hnx
      have HLT := hideP hlt
      have HP := hideP hp
      clear hRd e1 HJk hk hlt hp hnx h256 hsk hn'
      gi_wp2
      refine HRd.out.mono ?_
      rintro e W3 (⟨rfl, hJ3, hk3⟩ | ⟨rfl, hJx3⟩)
      · have HI3 := hideP (hk3 HIk.out)
        have HJ3 := hideP hJ3
        obtain ⟨d0, d1⟩ := HI3.out
        obtain ⟨ad', e', dcell⟩ := d1.cell _ HP.out
        cases e'
        clear hJ3 hk3 HRd HIk e0 hcell hy d1
        gi_wp2
        refine ⟨trivial, (HD.out _).mono ?_⟩
        rintro e W4 ⟨rfl, rfl⟩
        clear HD
        gi_wp2
        have hnx := HNX.out
        have hp := HP.out
        exact ⟨⟨k + 1, HLT.out, by rw [hnx]; exact congrArg (Value.int .i64) (by omega), HJ3, HI3⟩, by simp only [intOf]; omega⟩
      · have HJX := hideP hJx3
        clear hJx3 HRd HIk e0 hcell hy
        gi_wp2
        refine bodyPost_ret (results_none rfl _ _ _) rfl ?_
        exact ⟨⟨_, rfl⟩, .inr HJX.out⟩
    · have hkl : k = (insL bs n).length := by omega
      subst hkl
      have he := ins_end bs n
      have g : ¬ (posN bs n (insL bs n).length : Int) < (n : Int) := by omega
      obtain ⟨e0, e1⟩ := HIk.out
      clear e1 he hk hlt
      gi_wp2
      go_end0
      exact ⟨⟨_, rfl⟩, .inl HJk.out⟩

set_option maxHeartbeats 1000000 in
set_option maxRecDepth 100000 in
theorem instructions_any (ao : Option Addr) (n c : Nat) (w : World) : Calls Tryd.prog 76 #[.slice ao n c] w fun e w' => e = .returned (.func (.func 91) #[] #[.pointer (some ⟨w.heap.size, 0, none⟩)]) ∧ w' = w.alloc (.cells #[.slice ao n c] 38) := by
  go_enter Tryd.func76, Tryd.ntmps76
  go_wp2_with fail
  go_ret
  exact ⟨rfl, rfl⟩

/-- Is a place one that may be jumped to? -/
def destB (bs : Nat → Nat) (n : Nat) (at_ : Int) : Bool := (insL bs n).any fun x => decide ((x.1 : Int) = at_) && x.2 == 91

theorem pos_up {bs : Nat → Nat} {n : Nat} : ∀ {j k : Nat}, j < k → k < (insL bs n).length → posN bs n j < posN bs n k
  | j, k + 1, h, hk => by
    have := (ins_at (bs := bs) (n := n) (k := k) (by omega)).2.2
    by_cases e : j = k
    · subst e; omega
    · have := pos_up (bs := bs) (n := n) (j := j) (k := k) (by omega) (by omega)
      omega

theorem dest_first {bs : Nat → Nat} {n k : Nat} {at_ : Int} (hk : k < (insL bs n).length) (h1 : ∀ j, j < k → (posN bs n j : Int) < at_) (h2 : at_ ≤ posN bs n k) : destB bs n at_ = (decide ((posN bs n k : Int) = at_) && bs (posN bs n k) == 91) := by
  rw [Bool.eq_iff_iff]
  unfold destB
  simp only [List.any_eq_true, Bool.and_eq_true, decide_eq_true_eq, beq_iff_eq]
  constructor
  · rintro ⟨x, hx, e1, e2⟩
    obtain ⟨j, hj, rfl⟩ := List.getElem_of_mem hx
    have hat := (ins_at (bs := bs) (n := n) (k := j) hj).1
    rw [List.getElem?_eq_getElem hj] at hat
    cases hat' : (insL bs n)[j] with
    | mk p o =>
      rw [hat'] at hat e1 e2
      simp only [Option.some.injEq, Prod.mk.injEq] at hat
      obtain ⟨rfl, rfl⟩ := hat
      rcases Nat.lt_trichotomy j k with h | h | h
      · have := h1 j h; dsimp only at e1; omega
      · subst h; exact ⟨e1, e2⟩
      · have := pos_up h hj; dsimp only at e1; omega
  · rintro ⟨e1, e2⟩
    refine ⟨(posN bs n k, bs (posN bs n k)), List.mem_of_getElem? (ins_at hk).1, e1, e2⟩

theorem dest_none {bs : Nat → Nat} {n : Nat} {at_ : Int} (h1 : ∀ j, j < (insL bs n).length → (posN bs n j : Int) < at_) : destB bs n at_ = false := by
  rw [Bool.eq_false_iff]
  intro h
  unfold destB at h
  simp only [List.any_eq_true, Bool.and_eq_true, decide_eq_true_eq, beq_iff_eq] at h
  obtain ⟨x, hx, e1, e2⟩ := h
  obtain ⟨j, hj, rfl⟩ := List.getElem_of_mem hx
  have hat := (ins_at (bs := bs) (n := n) (k := j) hj).1
  rw [List.getElem?_eq_getElem hj] at hat
  simp only [Option.some.injEq] at hat
  rw [hat] at e1
  have := h1 j hj
  dsimp only at e1
  omega

end Go.Proofs.YtaeadndihchbnaaDoor
