/- YtcceaokldphfgaaDiskDoesC15 -/
import Derived.Lib.SlBytesConst
import Derived.Test.YtcceaokldphfgaaDiskDoesC14
import Derived.Test.YtcceaokldphfgaaRows
import Derived.ProofKit
import Derived.SizedLaws
import Derived.Deep.Slices
import Derived.Test.YtcceaokldphfgaaDiskDoesC09
namespace Go.Proofs.Ytcceaokldphfgaa
open Go.RowKit Go.Shelf

def fA : AFile := { name := ⟨#[97]⟩, safe := [], chs := [], data := [] }

theorem own_zero {w : World} {B e size n : Nat} {v : Value} {xs : List Value} (h : w.ownsRow B e size v n xs) : w.ownsRow 0 e size v n xs := by
  obtain ⟨h1, h2 | ⟨g, cap, cur, h3, h4, h5⟩⟩ := h
  · exact ⟨h1, .inl h2⟩
  · exact ⟨h1, .inr ⟨g, cap, cur, h3, Nat.zero_le _, h5⟩⟩

set_option maxHeartbeats 1000000 in
set_option maxRecDepth 100000 in
theorem awake_any (w : World) :
    Calls Try.prog 9 #[] w fun r w' => r = .returned (.bool true) ∧ Below w.heap.size w w' := by
  have hb0 : Below w.heap.size w (w.alloc (.cells #[.int .i64 2] 3)) := (Below.refl _ w).alloc (Nat.le_refl _) _
  have hnew := is_new (w.alloc (.cells #[.int .i64 2] 3)) (.slice (some ⟨w.heap.size, 0, none⟩) 1 1) [2] 4 (.inr ⟨_, _, _, rfl, by simp, fun j x hx => by
    match j, hx with
    | 0, hx => simp at hx; subst hx; exact World.cell?_alloc_mark w _ 3 _ 0
    | j + 1, hx => simp at hx⟩) (by simp) (fun a n c e => by cases e; simp) (by simp [I64]) (by simp [I64])
  have HN := hideP hnew
  have HB := hideP hb0
  clear hnew hb0
  have kc := fun (w : World) (C : Array Value) (n c : Nat) => Lib.run_convert_bytes_const (P := Try.prog) w 33 5 C n c Try.underlying33 Try.underlying5
  go_enter Try.func9, Try.ntmps9
  go_wp2_with fail
  refine HN.out.mono ?_
  rintro r w1 ⟨D, rfl, H1⟩
  have hc1 := is_create H1.out ⟨#[97]⟩ (by omega) (by omega) (by decide) (by simp) (by simp)
  have HC1 := hideP hc1
  clear hc1
  go_wp2_with fail
  refine HC1.out.mono ?_
  rintro r w2 ⟨rfl, H2⟩
  have hc2 := is_append (a := fA) H2.out [97, 98, 99] #[.int .u8 97, .int .u8 98, .int .u8 99] (by rfl) (3, 4) (by omega) (by omega) (by simp [fA])
  have HC2 := hideP hc2
  clear hc2
  go_wp2_with fail
  refine HC2.out.mono ?_
  rintro r w3 ⟨rfl, H3⟩
  have hc3 := is_none H3.out ⟨#[98]⟩ (by omega) (by omega) (by decide)
  have HC3 := hideP hc3
  clear hc3
  go_wp2_with fail
  refine HC3.out.mono ?_
  rintro r w4 ⟨rfl, H4⟩
  have hc4 := is_crash H4.out ⟨#[97]⟩ [100, 101] #[.int .u8 100, .int .u8 101] (by rfl) (2, 3) (by omega) (by omega) (by simp)
  have HC4 := hideP hc4
  clear hc4
  go_wp2_with fail
  refine HC4.out.mono ?_
  rintro r w5 ⟨rfl, H5⟩
  have hc5 := is_dead H5.out
  have hc6 := is_ops H5.out
  have HC5 := hideP hc5
  have HC6 := hideP hc6
  clear hc5 hc6
  go_wp2_with fail
  refine HC5.out.mono ?_
  rintro r w6 ⟨rfl, hw⟩
  subst hw
  go_wp2_with fail
  refine HC6.out.mono ?_
  rintro r w6 ⟨rfl, hw⟩
  subst hw
  go_wp2_with fail
  have hc7 := is_start H5.out (by simp [dieAll, dieA])
  have HC7 := hideP hc7
  clear hc7
  refine HC7.out.mono ?_
  rintro r w7 ⟨rfl, H7⟩
  have hfd : (dieAll [2] 0 [changeA (.inl (fA.data.length, [97, 98, 99])) fA]).find? (fun a => cmpS a.name ⟨#[97]⟩ == 0) = some { name := ⟨#[97]⟩, safe := [97, 98], chs := [], data := [97, 98] } := by rfl
  have hc8 := is_read H7.out ⟨#[97]⟩ hfd 2 (by simp) (by simp)
  have HC8 := hideP hc8
  clear hc8 hfd
  go_wp2_with fail
  refine HC8.out.mono ?_
  rintro r w8 ⟨b, rfl, ho, H8⟩
  have hcv : (convert 33 9 (.slice (some ⟨b, 0, none⟩) 2 2)).run Try.prog w8 = .ok (.string ⟨#[97, 98]⟩) w8 :=
    run_convert_bytes_back (P := Try.prog) w8 33 9 5 ⟨b, 0, none⟩ 2 [97, 98] Try.underlying33 Try.underlying5 Try.underlying9 (fun j hj => by
      obtain ⟨_, _, e, _, hc⟩ := Rd.of_own (l := [97, 98]) (own_zero ho)
      cases e
      obtain ⟨ad, ea, hc⟩ := hc j _ (List.getElem?_eq_getElem hj)
      cases ea
      exact hc)
  have HC9 := hideP (is_files H8.out)
  clear ho
  go_wp2_with fail
  refine HC9.out.mono ?_
  rintro r w9 ⟨⟨a, c, rfl⟩, H9⟩
  go_wp2
  go_ret
  exact ⟨rfl, HB.out.trans (H9.out.below.mono (by simp))⟩

end Go.Proofs.Ytcceaokldphfgaa

namespace Go.Proofs.Ytcceaokldphfgaa
open Go.RowKit Go.Shelf

/-- append to nil: a row in new memory. -/
theorem append_nil_run {w : World} {t e : TypeId} {bytes : Nat} {z : Value} (ht : Try.prog.underlying t = some (.slice e)) (hi : (Try.prog.info? e).map (fun i => (i.zero, i.size, i.bytes)) = some (some z, 1, bytes)) (hz : z.cells.size = 1) (ty : TypeId)
    (ao : Option Addr) (c : Nat) (xs : List Value) (hs : ao = none → xs = [] ∧ c = 0) (hx : ∀ a, ao = some a → ∀ j u, xs[j]? = some u → w.cell? (a.add j) = some u) (h1 : ∀ u ∈ xs, u.oneCell' = true) (h63 : xs.length ≤ 9223372036854775807) (hby : xs.length * bytes ≤ 140737488355328) :
    ∃ v' w', (Builtin.append_ #[t, t] ty #[.slice none 0 0, .slice ao xs.length c]).run Try.prog w = .ok v' w' ∧ w'.ownsRow w.heap.size e 1 v' xs.length xs ∧ Below w.heap.size w w' := by
  obtain ⟨i0, hi0, hz0, hz1, hz2⟩ := info_parts hi
  cases ao with
  | none =>
    obtain ⟨rfl, rfl⟩ := hs rfl
    have := run_append_owned_none (P := Try.prog) (w := w) w.heap.size t ty e i0 1 ht hi0 (.slice none 0 0) 0 [] (World.ownsRow_nil _ _ _ _)
    exact ⟨_, _, this, World.ownsRow_nil _ _ _ _, Below.refl _ _⟩
  | some a =>
    obtain ⟨v', w', q1, q2, q3, _⟩ := run_append_own (P := Try.prog) w w.heap.size t ty e i0 z 1 bytes ht hi0 hz0 hz1 hz2 hz (by decide) (.slice none 0 0) 0 [] (World.ownsRow_nil _ _ _ _) a xs.length c xs (by simp) (hx a rfl) h1 (by unfold maxLen; omega) (by simpa using hby) (Nat.le_refl _)
    refine ⟨v', w', q1, by simpa using q2, (Below.refl _ _).grown q3 (Nat.le_refl _) (fun k h => by cases h)⟩

set_option maxHeartbeats 400000 in
set_option maxRecDepth 100000 in
theorem twin_any (ao : Option Addr) (c : Nat) (l : List UInt8) (w : World) (hs : ao = none → l = [] ∧ c = 0) (hx : ∀ a, ao = some a → ∀ j u, l[j]? = some u → w.cell? (a.add j) = some (byteV u)) (hl : l.length ≤ 140737488355328) :
    Calls Try.prog 32 #[.slice ao l.length c] w fun e w' => ∃ v', e = .returned v' ∧ w'.ownsRow w.heap.size 5 1 v' l.length (l.map byteV) ∧ Below w.heap.size w w' := by
  obtain ⟨v', w', hrun, ho, hb⟩ := append_nil_run (w := w) Try.underlying33 Try.info5 rfl 33 ao c (l.map byteV) (fun e => by obtain ⟨rfl, h⟩ := hs e; exact ⟨rfl, h⟩)
    (fun a e j u hu => by
      simp only [List.getElem?_map, Option.map_eq_some_iff] at hu
      obtain ⟨x, hx1, rfl⟩ := hu
      exact hx a e j x hx1) (byteV_one l) (by simp; omega) (by simp; omega)
  rw [List.length_map] at hrun ho
  have HQ := hideP (And.intro ho hb)
  have HR := hideP hrun
  clear ho hb hx hs hrun
  go_enter Try.func32, Try.ntmps32
  go_wp2_with (at_builtin; refine Lib.wpList_append_run _ rfl _ _ 33 33 rfl _ _ rfl rfl v' w' HR.out ?_)
  go_ret
  exact ⟨_, rfl, HQ.out⟩

end Go.Proofs.Ytcceaokldphfgaa

namespace Go.Proofs.Ytcceaokldphfgaa
open Go.RowKit Go.Shelf

/-- A slice of one-cell values that can be read, below w's size. -/
structure RdS (w : World) (ao : Option Addr) (c : Nat) (xs : List Value) (bytes : Nat) : Prop where
  nil : ao = none → xs = [] ∧ c = 0
  lt : ∀ a, ao = some a → xs ≠ [] → a.block < w.heap.size
  at_ : ∀ a, ao = some a → ∀ j u, xs[j]? = some u → w.cell? (a.add j) = some u
  one : ∀ u ∈ xs, u.oneCell' = true
  len : xs.length ≤ 9223372036854775807
  room : xs.length * bytes ≤ 140737488355328

theorem RdS.later {w w' : World} {ao : Option Addr} {c : Nat} {xs : List Value} {bytes : Nat} (h : RdS w ao c xs bytes) (hb : Below w.heap.size w w') : RdS w' ao c xs bytes :=
  ⟨h.nil, fun a e hne => Nat.lt_of_lt_of_le (h.lt a e hne) hb.size, fun a e j u hu => (hb.cell (p := a.add j) (by rw [add_block]; exact h.lt a e (by rintro rfl; simp at hu))).trans (h.at_ a e j u hu), h.one, h.len, h.room⟩

theorem RdS.copied {w w0 : World} {ao : Option Addr} {c : Nat} {xs : List Value} (h : RdS w0 ao c xs 8) (hb : Below w0.heap.size w0 w) :
    ∃ v' w', (Builtin.append_ #[22, 22] 22 #[.slice none 0 0, .slice ao xs.length c]).run Try.prog w = .ok v' w' ∧ w'.ownsRow w.heap.size 3 1 v' xs.length xs ∧ Below w.heap.size w w' :=
  have h' := h.later hb
  append_nil_run Try.underlying22 Try.info3 rfl 22 ao c xs h'.nil h'.at_ h'.one h'.len h'.room

end Go.Proofs.Ytcceaokldphfgaa

namespace Go.Proofs.Ytcceaokldphfgaa
open Go.ChangeShapes Go.WideShapes Go.ChangeAt Go.RowKit Go.Shelf Go.Deep

theorem Try.cells3 : Try.prog.cellsOf 3 = 1 := by kernel_rfl

theorem Try.cells5 : Try.prog.cellsOf 5 = 1 := by kernel_rfl

theorem Try.cells9 : Try.prog.cellsOf 9 = 1 := by kernel_rfl

theorem Try.cells22 : Try.prog.cellsOf 22 = 1 := by kernel_rfl

theorem Try.cells33 : Try.prog.cellsOf 33 = 1 := by kernel_rfl

theorem Try.cells24 : Try.prog.cellsOf 24 = 5 := by kernel_rfl

theorem Try.cells35 : Try.prog.cellsOf 35 = 11 := by kernel_rfl

theorem Try.bytes3 : Try.prog.bytesOf 3 = 8 := by kernel_rfl

theorem Try.bytes5 : Try.prog.bytesOf 5 = 1 := by kernel_rfl

theorem list5 {α : Type} {cs : List α} (h : cs.length = 5) : ∃ c0 c1 c2 c3 c4, cs = [c0, c1, c2, c3, c4] := by
  match cs, h with
  | [c0, c1, c2, c3, c4], _ => exact ⟨c0, c1, c2, c3, c4, rfl⟩

theorem list7 {α : Type} {cs : List α} (h : cs.length = 7) : ∃ c0 c1 c2 c3 c4 c5 c6, cs = [c0, c1, c2, c3, c4, c5, c6] := by
  match cs, h with
  | [c0, c1, c2, c3, c4, c5, c6], _ => exact ⟨c0, c1, c2, c3, c4, c5, c6, rfl⟩

theorem list11 {α : Type} {cs : List α} (h : cs.length = 11) : ∃ c0 c1 c2 c3 c4 c5 c6 c7 c8 c9 c10, cs = [c0, c1, c2, c3, c4, c5, c6, c7, c8, c9, c10] := by
  match cs, h with
  | [c0, c1, c2, c3, c4, c5, c6, c7, c8, c9, c10], _ => exact ⟨c0, c1, c2, c3, c4, c5, c6, c7, c8, c9, c10, rfl⟩

section
variable {H : Type} {enc : TypeId × Value → H} {W : World}

theorem bytes_of : ∀ {xs : List Value}, (∀ u ∈ xs, ∃ n, u = .int .u8 n ∧ (Lit.int .u8 n).wf = true) → ∃ l : List UInt8, xs = l.map byteV
  | [], _ => ⟨[], rfl⟩
  | x :: xs, h => by
    obtain ⟨n, rfl, hn⟩ := h x (by simp)
    obtain ⟨l, rfl⟩ := bytes_of (xs := xs) (fun u hu => h u (by simp [hu]))
    have hr : 0 ≤ n ∧ n ≤ 255 := by simp [Lit.wf, IntKind.min, IntKind.max, IntKind.signed, IntKind.bits] at hn; omega
    refine ⟨UInt8.ofNat n.toNat :: l, ?_⟩
    simp only [List.map_cons, List.cons.injEq, and_true, byteV]
    congr 1
    simp [UInt8.toNat_ofNat']
    omega

end
end Go.Proofs.Ytcceaokldphfgaa

namespace Go.Proofs.Ytcceaokldphfgaa
open Go.RowKit Go.Shelf

/-- A disk, without its memory. -/
structure ASt where
  dead : Bool
  crash : Int
  room : Int
  ops : Int
  keep : List Int
  fail : List Int
  full : List Int
  fs : List AFile

def abs (s : DSt) : ASt := { dead := s.dead, crash := s.crash, room := s.room, ops := s.ops, keep := s.keep, fail := s.fail, full := s.full, fs := s.fs.map (·.a) }

def bumpA (a : ASt) : ASt := { a with ops := a.ops + 1 }

def dieS (a : ASt) : ASt := { a with dead := true, fs := dieAll a.keep 0 a.fs }

/-- How an operation begins. -/
def beginA (a : ASt) : ASt × Int := if a.dead = true then (a, 10) else if a.ops + 1 = a.crash then (dieS (bumpA a), 10) else (bumpA a, if a.ops + 1 ∈ a.fail then 11 else 0)

def findA (fs : List AFile) (t : ByteArray) : Option AFile := fs.find? fun a => cmpS a.name t == 0

/-- An operation on a file. -/
def onA (a : ASt) (t : ByteArray) (k : ASt → AFile → ASt × Int) : ASt × Int :=
  if (beginA a).2 ≠ 0 then beginA a else match findA (beginA a).1.fs t with
    | none => ((beginA a).1, 13)
    | some f => k (beginA a).1 f

def totA (fs : List AFile) : Nat := (fs.map fun f => f.data.length).sum

def fullA (a : ASt) (more : Int) : Bool := decide (a.ops ∈ a.full) || (decide (0 < a.room) && decide (0 < more) && decide (a.room < totA a.fs + more))

def setA (fs : List AFile) (t : ByteArray) (g : AFile → AFile) : List AFile := fs.map fun f => if cmpS f.name t = 0 then g f else f

/-- A change of a file. -/
def chgA (c : Chg) (a : ASt) (f : AFile) : ASt × Int := if fullA a (((applyC c f.data).length : Int) - f.data.length) = true then (a, 12) else ({ a with fs := setA a.fs f.name (changeA c) }, 0)

def appendA (a : ASt) (t : ByteArray) (l : List UInt8) : ASt × Int := onA a t fun b f => if 268435456 < f.data.length + l.length then (b, 2) else chgA (.inl (f.data.length, l)) b f

def writeA (a : ASt) (t : ByteArray) (at_ : Int) (l : List UInt8) : ASt × Int := onA a t fun b f => if at_ < 0 then (b, 1) else if 268435456 < at_ + l.length then (b, 2) else chgA (.inl (at_.toNat, l)) b f

def cutA (a : ASt) (t : ByteArray) (long : Int) : ASt × Int := onA a t fun b f => if long < 0 then (b, 1) else if 268435456 < long then (b, 2) else chgA (.inr long.toNat) b f

def applyAll (cs : List Chg) (xs : List UInt8) : List UInt8 := cs.foldl (fun x c => applyC c x) xs

def syncF (f : AFile) : AFile := { f with safe := applyAll f.chs f.safe, chs := [] }

def syncA (a : ASt) (t : ByteArray) : ASt × Int := onA a t fun b f => ({ b with fs := setA b.fs f.name syncF }, 0)

def dropA (fs : List AFile) (t : ByteArray) : List AFile := fs.filter fun f => cmpS f.name t != 0

def insA (fs : List AFile) (f : AFile) : List AFile := (fs.filter fun g => decide (cmpS g.name f.name < 0)) ++ f :: fs.filter fun g => !decide (cmpS g.name f.name < 0)

def newA (t : ByteArray) : AFile := { name := t, safe := [], chs := [], data := [] }

def createA (a : ASt) (t : ByteArray) : ASt × Int :=
  if (beginA a).2 ≠ 0 then beginA a else if okName t = false then ((beginA a).1, 15) else if (findA (beginA a).1.fs t).isSome = true then ((beginA a).1, 14) else if 4096 ≤ (beginA a).1.fs.length then ((beginA a).1, 2)
  else if fullA (beginA a).1 0 = true then ((beginA a).1, 12) else ({ (beginA a).1 with fs := insA (beginA a).1.fs (newA t) }, 0)

def renameA (a : ASt) (t u : ByteArray) : ASt × Int := onA a t fun b f => if okName u = false then (b, 15) else if t = u then (b, 0) else ({ b with fs := insA (dropA (dropA b.fs t) u) { f with name := u } }, 0)

def removeA (a : ASt) (t : ByteArray) : ASt × Int := onA a t fun b _ => ({ b with fs := dropA b.fs t }, 0)

/-- Start: by a new plan. -/
def startA (a : ASt) (crash room : Int) (keep fail full : List Int) : ASt := { dead := false, crash := crash, room := room, ops := 0, keep := keep, fail := fail, full := full, fs := if a.dead = true then a.fs else dieAll a.keep 0 a.fs }

/-- Read: the bytes, and the error. -/
def readA (a : ASt) (t : ByteArray) (at_ n : Int) : List UInt8 × Int :=
  if a.dead = true then ([], 10) else match findA a.fs t with
    | none => ([], 13)
    | some f => if at_ < 0 ∨ n < 0 ∨ (f.data.length : Int) < at_ + n then ([], 1) else ((f.data.drop at_.toNat).take n.toNat, 0)

def sizeA (a : ASt) (t : ByteArray) : Nat × Int :=
  if a.dead = true then (0, 10) else match findA a.fs t with
    | none => (0, 13)
    | some f => (f.data.length, 0)

def SortedA (fs : List AFile) : Prop := fs.Pairwise fun a b => cmpS a.name b.name < 0

theorem DiskOK.sortedA {w : World} {role : Role} {D : Nat} {s : DSt} (h : DiskOK w role D s) : SortedA (abs s).fs := List.pairwise_map.2 h.sorted

theorem BeginR.fn {s s' : DSt} {e : Int} (h : BeginR s s' e) : beginA (abs s) = (abs s', e) := by
  rcases h with ⟨h1, rfl, rfl⟩ | ⟨h1, h2, rfl, h3, h4⟩ | ⟨h1, h2, rfl, rfl⟩
  · simp [beginA, abs, h1]
  · have e : abs s' = abs { bump s with dead := true, fs := s'.fs } := congrArg abs h3
    rw [e]
    simp [beginA, abs, h1, h2, dieS, bumpA, bump, h4]
  · simp [beginA, abs, h1, h2, bumpA, bump]

theorem find_fn (fs : List FRep) (t : ByteArray) : findA (fs.map (·.a)) t = (findF fs t).map (·.a) := by
  unfold findA findF
  rw [List.find?_map]
  rfl

theorem OnR.fn {s s' : DSt} {t : ByteArray} {v : Value} {e : Int} (h : OnR s s' t v e) (he : e ≠ 0) (k : ASt → AFile → ASt × Int) : onA (abs s) t k = (abs s', e) ∧ v = .pointer none := by
  rcases h with ⟨e', h1, h2, rfl, rfl⟩ | ⟨h1, rfl, h3⟩
  · unfold onA
    rw [h1.fn, if_pos h2]
    exact ⟨rfl, rfl⟩
  · cases hf : findF s'.fs t with
    | some f => rw [hf] at h3; exact absurd h3 (by simpa using he)
    | none =>
      rw [hf] at h3
      unfold onA
      rw [h1.fn]
      have : findA (abs s').fs t = none := by
        show findA (s'.fs.map (·.a)) t = none
        rw [find_fn, hf]; rfl
      simp only [ne_eq, not_true_eq_false, if_false, this]
      exact ⟨by rw [h3]; rfl, rfl⟩

theorem OnR.fn0 {s s' : DSt} {t : ByteArray} {f : FRep} (h : OnR s s' t (ptrV f) 0) (hf : findF s'.fs t = some f) (k : ASt → AFile → ASt × Int) : onA (abs s) t k = k (abs s') f.a := by
  obtain ⟨h1, _⟩ := h.found
  unfold onA
  rw [h1.fn]
  have : findA (abs s').fs t = some f.a := by
    show findA (s'.fs.map (·.a)) t = _
    rw [find_fn, hf]; rfl
  simp only [ne_eq, not_true_eq_false, if_false, this]

theorem cmp_self (a : ByteArray) : cmpS a a = 0 := cmpS_zero.2 rfl

/-- One file of a name alone. -/
theorem set_name : ∀ {L : List AFile} {i : Nat} {x : AFile} (g : AFile → AFile), SortedA L → L[i]? = some x → L.set i (g x) = setA L x.name g
  | [], _, _, _, _, h => by simp at h
  | a :: L, 0, x, g, hs, h => by
    simp only [List.getElem?_cons_zero, Option.some.injEq] at h
    subst h
    have h1 := (List.pairwise_cons.1 hs).1
    simp only [setA, List.set_cons_zero, List.map_cons, cmp_self, if_true]
    congr 1
    have h3 : L.map (fun f => if cmpS f.name a.name = 0 then g f else f) = L.map id := List.map_congr_left fun b hb => by
      have h2 := h1 b hb
      rw [if_neg]
      · rfl
      · intro h3
        rw [cmpS_zero.1 h3, cmp_self] at h2
        omega
    rw [h3, List.map_id]
  | a :: L, i + 1, x, g, hs, h => by
    simp only [List.getElem?_cons_succ] at h
    have ih := set_name g (List.pairwise_cons.1 hs).2 h
    have h1 := (List.pairwise_cons.1 hs).1 x (List.mem_of_getElem? h)
    simp only [setA, List.set_cons_succ, List.map_cons]
    rw [if_neg (by omega)]
    congr 1

theorem full_fn (s : DSt) (more : Int) : fullB s more = fullA (abs s) more := by
  unfold fullB fullA totA totalF abs
  simp [List.map_map, Function.comp_def]

theorem ChangeR.fn {w : World} {role : Role} {D : Nat} {s s' : DSt} {i : Nat} {f : FRep} {c : Chg} {e : Int} (hd : DiskOK w role D s) (hi : s.fs[i]? = some f) (h : ChangeR s s' i f c e) : chgA c (abs s) f.a = (abs s', e) := by
  obtain ⟨h1, _, h3⟩ := h
  have e1 : abs s' = abs { s with fs := s'.fs } := congrArg abs h1
  rw [e1]
  unfold chgA
  rcases h3 with ⟨g1, rfl, g2⟩ | ⟨g1, rfl, g2⟩
  · rw [full_fn] at g1
    rw [if_pos g1]
    simp [abs, g2]
  · rw [full_fn] at g1
    rw [if_neg (by rw [g1]; simp)]
    have hx : (abs s).fs[i]? = some f.a := by simp [abs, hi]
    rw [← set_name (changeA c) hd.sortedA hx]
    simp [abs, g2]

/-- What a call comes to: its error, and the disk. -/
def Done (w : World) (role : Role) (D : Nat) (x : ASt × Int) (r : Ending) (w' : World) : Prop :=
  r = .returned (.int .i64 x.2) ∧ Hid (∃ role' s', DiskOK w' role' D s' ∧ Stp role role' w w' ∧ abs s' = x.1)

theorem AppendR.fn {s s' : DSt} {t : ByteArray} {l : List UInt8} {e : Int} (hd : ∀ s1, BeginR s s1 0 → SortedA (abs s1).fs) (h : AppendR s s' t l e) : appendA (abs s) t l = (abs s', e) := by
  rcases h with ⟨v, h1, h2⟩ | ⟨s1, i, f, h1, h2, rfl, h4⟩
  · exact (h1.fn h2 _).1
  · obtain ⟨hb, g, j, hg, hj, hgn, hfg⟩ := h1.found
    have hs := hd s1 hb
    have hfi : findF s1.fs f.a.name = some f := by
      rw [hfg]
      have h5 : g.a.name = f.a.name := hgn
      have hij : j = i := by
        rcases Nat.lt_trichotomy j i with h | h | h
        · have := List.pairwise_iff_getElem.1 hs j i (by simp [abs]; exact (List.getElem?_eq_some_iff.1 hj).1) (by simp [abs]; exact (List.getElem?_eq_some_iff.1 h2).1) h
          simp only [abs, List.getElem_map, (List.getElem?_eq_some_iff.1 hj).2, (List.getElem?_eq_some_iff.1 h2).2, h5, cmp_self] at this
          omega
        · exact h
        · have := List.pairwise_iff_getElem.1 hs i j (by simp [abs]; exact (List.getElem?_eq_some_iff.1 h2).1) (by simp [abs]; exact (List.getElem?_eq_some_iff.1 hj).1) h
          simp only [abs, List.getElem_map, (List.getElem?_eq_some_iff.1 hj).2, (List.getElem?_eq_some_iff.1 h2).2, h5, cmp_self] at this
          omega
      subst hij
      rw [h2] at hj
      rw [hj]
    unfold appendA
    rw [h1.fn0 hfi]
    rcases h4 with ⟨g1, rfl, rfl⟩ | ⟨g1, g2⟩
    · rw [if_pos g1]
    · rw [if_neg (by omega)]
      obtain ⟨q1, q2, q3⟩ := g2
      have e1 : abs s' = abs { s1 with fs := s'.fs } := congrArg abs q1
      rw [e1]
      unfold chgA
      rcases q3 with ⟨g1, rfl, g2⟩ | ⟨g1, rfl, g2⟩
      · rw [full_fn] at g1
        rw [if_pos g1]
        simp [abs, g2]
      · rw [full_fn] at g1
        rw [if_neg (by rw [g1]; simp)]
        have hx : (abs s1).fs[i]? = some f.a := by simp [abs, h2]
        rw [← set_name (changeA _) hs hx]
        simp [abs, g2]

end Go.Proofs.Ytcceaokldphfgaa
