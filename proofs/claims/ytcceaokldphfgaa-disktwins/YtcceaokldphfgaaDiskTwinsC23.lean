/- YtcceaokldphfgaaDiskTwinsC23 -/
import Derived.Test.YtcceaokldphfgaaDiskTwinsC15
namespace Go.Proofs.Ytcceaokldphfgaa
open Go.RowKit Go.Shelf

/-- A disk, without its memory. -/
structure ASt where
  dead : Bool
  crash : Int
  room : Int
  ops : Int
  keep : List Int
  fail : List Int
  full : List Int
  fs : List AFile

def abs (s : DSt) : ASt := { dead := s.dead, crash := s.crash, room := s.room, ops := s.ops, keep := s.keep, fail := s.fail, full := s.full, fs := s.fs.map (·.a) }

def bumpA (a : ASt) : ASt := { a with ops := a.ops + 1 }

def dieS (a : ASt) : ASt := { a with dead := true, fs := dieAll a.keep 0 a.fs }

/-- How an operation begins. -/
def beginA (a : ASt) : ASt × Int := if a.dead = true then (a, 10) else if a.ops + 1 = a.crash then (dieS (bumpA a), 10) else (bumpA a, if a.ops + 1 ∈ a.fail then 11 else 0)

def findA (fs : List AFile) (t : ByteArray) : Option AFile := fs.find? fun a => cmpS a.name t == 0

/-- An operation on a file. -/
def onA (a : ASt) (t : ByteArray) (k : ASt → AFile → ASt × Int) : ASt × Int :=
  if (beginA a).2 ≠ 0 then beginA a else match findA (beginA a).1.fs t with
    | none => ((beginA a).1, 13)
    | some f => k (beginA a).1 f

def totA (fs : List AFile) : Nat := (fs.map fun f => f.data.length).sum

def fullA (a : ASt) (more : Int) : Bool := decide (a.ops ∈ a.full) || (decide (0 < a.room) && decide (0 < more) && decide (a.room < totA a.fs + more))

def setA (fs : List AFile) (t : ByteArray) (g : AFile → AFile) : List AFile := fs.map fun f => if cmpS f.name t = 0 then g f else f

/-- A change of a file. -/
def chgA (c : Chg) (a : ASt) (f : AFile) : ASt × Int := if fullA a (((applyC c f.data).length : Int) - f.data.length) = true then (a, 12) else ({ a with fs := setA a.fs f.name (changeA c) }, 0)

def appendA (a : ASt) (t : ByteArray) (l : List UInt8) : ASt × Int := onA a t fun b f => if 268435456 < f.data.length + l.length then (b, 2) else chgA (.inl (f.data.length, l)) b f

def writeA (a : ASt) (t : ByteArray) (at_ : Int) (l : List UInt8) : ASt × Int := onA a t fun b f => if at_ < 0 then (b, 1) else if 268435456 < at_ + l.length then (b, 2) else chgA (.inl (at_.toNat, l)) b f

def cutA (a : ASt) (t : ByteArray) (long : Int) : ASt × Int := onA a t fun b f => if long < 0 then (b, 1) else if 268435456 < long then (b, 2) else chgA (.inr long.toNat) b f

def applyAll (cs : List Chg) (xs : List UInt8) : List UInt8 := cs.foldl (fun x c => applyC c x) xs

def syncF (f : AFile) : AFile := { f with safe := applyAll f.chs f.safe, chs := [] }

def syncA (a : ASt) (t : ByteArray) : ASt × Int := onA a t fun b f => ({ b with fs := setA b.fs f.name syncF }, 0)

def dropA (fs : List AFile) (t : ByteArray) : List AFile := fs.filter fun f => cmpS f.name t != 0

def insA (fs : List AFile) (f : AFile) : List AFile := (fs.filter fun g => decide (cmpS g.name f.name < 0)) ++ f :: fs.filter fun g => !decide (cmpS g.name f.name < 0)

def newA (t : ByteArray) : AFile := { name := t, safe := [], chs := [], data := [] }

def createA (a : ASt) (t : ByteArray) : ASt × Int :=
  if (beginA a).2 ≠ 0 then beginA a else if okName t = false then ((beginA a).1, 15) else if (findA (beginA a).1.fs t).isSome = true then ((beginA a).1, 14) else if 4096 ≤ (beginA a).1.fs.length then ((beginA a).1, 2)
  else if fullA (beginA a).1 0 = true then ((beginA a).1, 12) else ({ (beginA a).1 with fs := insA (beginA a).1.fs (newA t) }, 0)

def renameA (a : ASt) (t u : ByteArray) : ASt × Int := onA a t fun b f => if okName u = false then (b, 15) else if t = u then (b, 0) else ({ b with fs := insA (dropA (dropA b.fs t) u) { f with name := u } }, 0)

def removeA (a : ASt) (t : ByteArray) : ASt × Int := onA a t fun b _ => ({ b with fs := dropA b.fs t }, 0)

/-- Start: by a new plan. -/
def startA (a : ASt) (crash room : Int) (keep fail full : List Int) : ASt := { dead := false, crash := crash, room := room, ops := 0, keep := keep, fail := fail, full := full, fs := if a.dead = true then a.fs else dieAll a.keep 0 a.fs }

/-- Read: the bytes, and the error. -/
def readA (a : ASt) (t : ByteArray) (at_ n : Int) : List UInt8 × Int :=
  if a.dead = true then ([], 10) else match findA a.fs t with
    | none => ([], 13)
    | some f => if at_ < 0 ∨ n < 0 ∨ (f.data.length : Int) < at_ + n then ([], 1) else ((f.data.drop at_.toNat).take n.toNat, 0)

def SortedA (fs : List AFile) : Prop := fs.Pairwise fun a b => cmpS a.name b.name < 0

theorem DiskOK.sortedA {w : World} {role : Role} {D : Nat} {s : DSt} (h : DiskOK w role D s) : SortedA (abs s).fs := List.pairwise_map.2 h.sorted

theorem BeginR.fn {s s' : DSt} {e : Int} (h : BeginR s s' e) : beginA (abs s) = (abs s', e) := by
  rcases h with ⟨h1, rfl, rfl⟩ | ⟨h1, h2, rfl, h3, h4⟩ | ⟨h1, h2, rfl, rfl⟩
  · simp [beginA, abs, h1]
  · have e : abs s' = abs { bump s with dead := true, fs := s'.fs } := congrArg abs h3
    rw [e]
    simp [beginA, abs, h1, h2, dieS, bumpA, bump, h4]
  · simp [beginA, abs, h1, h2, bumpA, bump]

theorem find_fn (fs : List FRep) (t : ByteArray) : findA (fs.map (·.a)) t = (findF fs t).map (·.a) := by
  unfold findA findF
  rw [List.find?_map]
  rfl

theorem OnR.fn {s s' : DSt} {t : ByteArray} {v : Value} {e : Int} (h : OnR s s' t v e) (he : e ≠ 0) (k : ASt → AFile → ASt × Int) : onA (abs s) t k = (abs s', e) ∧ v = .pointer none := by
  rcases h with ⟨e', h1, h2, rfl, rfl⟩ | ⟨h1, rfl, h3⟩
  · unfold onA
    rw [h1.fn, if_pos h2]
    exact ⟨rfl, rfl⟩
  · cases hf : findF s'.fs t with
    | some f => rw [hf] at h3; exact absurd h3 (by simpa using he)
    | none =>
      rw [hf] at h3
      unfold onA
      rw [h1.fn]
      have : findA (abs s').fs t = none := by
        show findA (s'.fs.map (·.a)) t = none
        rw [find_fn, hf]; rfl
      simp only [ne_eq, not_true_eq_false, if_false, this]
      exact ⟨by rw [h3]; rfl, rfl⟩

theorem OnR.fn0 {s s' : DSt} {t : ByteArray} {f : FRep} (h : OnR s s' t (ptrV f) 0) (hf : findF s'.fs t = some f) (k : ASt → AFile → ASt × Int) : onA (abs s) t k = k (abs s') f.a := by
  obtain ⟨h1, _⟩ := h.found
  unfold onA
  rw [h1.fn]
  have : findA (abs s').fs t = some f.a := by
    show findA (s'.fs.map (·.a)) t = _
    rw [find_fn, hf]; rfl
  simp only [ne_eq, not_true_eq_false, if_false, this]

theorem cmp_self (a : ByteArray) : cmpS a a = 0 := cmpS_zero.2 rfl

/-- One file of a name alone. -/
theorem set_name : ∀ {L : List AFile} {i : Nat} {x : AFile} (g : AFile → AFile), SortedA L → L[i]? = some x → L.set i (g x) = setA L x.name g
  | [], _, _, _, _, h => by simp at h
  | a :: L, 0, x, g, hs, h => by
    simp only [List.getElem?_cons_zero, Option.some.injEq] at h
    subst h
    have h1 := (List.pairwise_cons.1 hs).1
    simp only [setA, List.set_cons_zero, List.map_cons, cmp_self, if_true]
    congr 1
    have h3 : L.map (fun f => if cmpS f.name a.name = 0 then g f else f) = L.map id := List.map_congr_left fun b hb => by
      have h2 := h1 b hb
      rw [if_neg]
      · rfl
      · intro h3
        rw [cmpS_zero.1 h3, cmp_self] at h2
        omega
    rw [h3, List.map_id]
  | a :: L, i + 1, x, g, hs, h => by
    simp only [List.getElem?_cons_succ] at h
    have ih := set_name g (List.pairwise_cons.1 hs).2 h
    have h1 := (List.pairwise_cons.1 hs).1 x (List.mem_of_getElem? h)
    simp only [setA, List.set_cons_succ, List.map_cons]
    rw [if_neg (by omega)]
    congr 1

theorem full_fn (s : DSt) (more : Int) : fullB s more = fullA (abs s) more := by
  unfold fullB fullA totA totalF abs
  simp [List.map_map, Function.comp_def]

theorem ChangeR.fn {w : World} {role : Role} {D : Nat} {s s' : DSt} {i : Nat} {f : FRep} {c : Chg} {e : Int} (hd : DiskOK w role D s) (hi : s.fs[i]? = some f) (h : ChangeR s s' i f c e) : chgA c (abs s) f.a = (abs s', e) := by
  obtain ⟨h1, _, h3⟩ := h
  have e1 : abs s' = abs { s with fs := s'.fs } := congrArg abs h1
  rw [e1]
  unfold chgA
  rcases h3 with ⟨g1, rfl, g2⟩ | ⟨g1, rfl, g2⟩
  · rw [full_fn] at g1
    rw [if_pos g1]
    simp [abs, g2]
  · rw [full_fn] at g1
    rw [if_neg (by rw [g1]; simp)]
    have hx : (abs s).fs[i]? = some f.a := by simp [abs, hi]
    rw [← set_name (changeA c) hd.sortedA hx]
    simp [abs, g2]

/-- What a call comes to: its error, and the disk. -/
def Done (w : World) (role : Role) (D : Nat) (x : ASt × Int) (r : Ending) (w' : World) : Prop :=
  r = .returned (.int .i64 x.2) ∧ Hid (∃ role' s', DiskOK w' role' D s' ∧ Stp role role' w w' ∧ abs s' = x.1)

theorem AppendR.fn {s s' : DSt} {t : ByteArray} {l : List UInt8} {e : Int} (hd : ∀ s1, BeginR s s1 0 → SortedA (abs s1).fs) (h : AppendR s s' t l e) : appendA (abs s) t l = (abs s', e) := by
  rcases h with ⟨v, h1, h2⟩ | ⟨s1, i, f, h1, h2, rfl, h4⟩
  · exact (h1.fn h2 _).1
  · obtain ⟨hb, g, j, hg, hj, hgn, hfg⟩ := h1.found
    have hs := hd s1 hb
    have hfi : findF s1.fs f.a.name = some f := by
      rw [hfg]
      have h5 : g.a.name = f.a.name := hgn
      have hij : j = i := by
        rcases Nat.lt_trichotomy j i with h | h | h
        · have := List.pairwise_iff_getElem.1 hs j i (by simp [abs]; exact (List.getElem?_eq_some_iff.1 hj).1) (by simp [abs]; exact (List.getElem?_eq_some_iff.1 h2).1) h
          simp only [abs, List.getElem_map, (List.getElem?_eq_some_iff.1 hj).2, (List.getElem?_eq_some_iff.1 h2).2, h5, cmp_self] at this
          omega
        · exact h
        · have := List.pairwise_iff_getElem.1 hs i j (by simp [abs]; exact (List.getElem?_eq_some_iff.1 h2).1) (by simp [abs]; exact (List.getElem?_eq_some_iff.1 hj).1) h
          simp only [abs, List.getElem_map, (List.getElem?_eq_some_iff.1 hj).2, (List.getElem?_eq_some_iff.1 h2).2, h5, cmp_self] at this
          omega
      subst hij
      rw [h2] at hj
      rw [hj]
    unfold appendA
    rw [h1.fn0 hfi]
    rcases h4 with ⟨g1, rfl, rfl⟩ | ⟨g1, g2⟩
    · rw [if_pos g1]
    · rw [if_neg (by omega)]
      obtain ⟨q1, q2, q3⟩ := g2
      have e1 : abs s' = abs { s1 with fs := s'.fs } := congrArg abs q1
      rw [e1]
      unfold chgA
      rcases q3 with ⟨g1, rfl, g2⟩ | ⟨g1, rfl, g2⟩
      · rw [full_fn] at g1
        rw [if_pos g1]
        simp [abs, g2]
      · rw [full_fn] at g1
        rw [if_neg (by rw [g1]; simp)]
        have hx : (abs s1).fs[i]? = some f.a := by simp [abs, h2]
        rw [← set_name (changeA _) hs hx]
        simp [abs, g2]

end Go.Proofs.Ytcceaokldphfgaa
