/- YtcceaokldphfgaaDiskDoesC04 -/
import Derived.Test.YtcceaokldphfgaaDiskDoesC03
namespace Go.Proofs.Ytcceaokldphfgaa
open Go.RowKit

/-- What each block of memory is to the disk: 0 the disk, 1 its files' row, 2 a file, 3 its safe bytes, 4 its data, 5 its changes, 6 what is only read. -/
abbrev Role := Nat → Option (Nat × Nat)

structure AFile where
  name : ByteArray
  safe : List UInt8
  chs : List Chg
  data : List UInt8

structure FRep where
  p : Nat
  safeV : Value
  chV : Value
  dataV : Value
  a : AFile

def RoV (role : Role) (v : Value) : Prop := ∀ a n c, v = .slice (some a) n c → role a.block = some (6, 0)

def ChgAt (w : World) (role : Role) (c : Chg) (v : Value) : Prop :=
  match c with
  | .inl (at_, l) => ∃ bv, v = .iface 106 (.agg #[.int .i64 at_, bv]) ∧ Rd w bv l ∧ RoV role bv ∧ at_ + l.length ≤ 268435456
  | .inr long => v = .iface 109 (.agg #[.int .i64 long]) ∧ long ≤ 268435456

structure FileOK (w : World) (role : Role) (f : FRep) : Prop where
  rp : role f.p = some (2, f.p)
  blk : w.heap[f.p]? = some (.cells #[.string f.a.name, f.safeV, f.chV, f.dataV] 87 (0, 0))
  osafe : w.ownsRow 0 5 1 f.safeV f.a.safe.length (f.a.safe.map byteV)
  rsafe : ∀ g, f.safeV.ownBlock = some g → role g = some (3, f.p)
  odata : w.ownsRow 0 5 1 f.dataV f.a.data.length (f.a.data.map byteV)
  rdata : ∀ g, f.dataV.ownBlock = some g → role g = some (4, f.p)
  och : ∃ vals : List Value, w.ownsRow 0 119 1 f.chV f.a.chs.length vals ∧ ∀ (j : Nat) (c : Chg), f.a.chs[j]? = some c → ∃ v, vals[j]? = some v ∧ ChgAt w role c v
  rch : ∀ g, f.chV.ownBlock = some g → role g = some (5, f.p)
  lsafe : f.a.safe.length ≤ 268435456
  ldata : f.a.data.length ≤ 268435456

/-- The block is a row of cells. -/
def isC (w : World) (k : Nat) : Prop := ∃ cs t fr, w.heap[k]? = some (.cells cs t fr)

theorem isC_of_cell {w : World} {a : Addr} {v : Value} (h : w.cell? a = some v) : isC w a.block := by
  unfold World.cell? at h
  split at h
  · rename_i cs t fr hc
    exact ⟨_, _, _, hc⟩
  · cases h

theorem own_same {w w' : World} {e n : Nat} {v : Value} {xs : List Value} (h : w.ownsRow 0 e 1 v n xs) (hs : ∀ k, v.ownBlock = some k → isC w k → w'.heap[k]? = w.heap[k]?) : w'.ownsRow 0 e 1 v n xs := by
  obtain ⟨hl, h | ⟨g, cap, cur, rfl, hb, hg, hn, hm, hz, ht⟩⟩ := h
  · exact ⟨hl, .inl h⟩
  · exact ⟨hl, .inr ⟨g, cap, cur, rfl, hb, (hs g rfl ⟨_, _, _, hg⟩).trans hg, hn, hm, hz, ht⟩⟩

theorem Rd.same {w w' : World} {v : Value} {l : List UInt8} (h : Rd w v l) (hs : ∀ a n c, v = .slice (some a) n c → isC w a.block → w'.heap[a.block]? = w.heap[a.block]?) : Rd w' v l := by
  obtain ⟨a, c, rfl, hc, hr⟩ := h
  refine ⟨a, c, rfl, hc, fun j x hx => ?_⟩
  obtain ⟨ad, rfl, h⟩ := hr j x hx
  have hc := isC_of_cell h
  rw [add_block] at hc
  exact ⟨ad, rfl, (World.cell?_of_block (by rw [add_block]; exact hs _ _ _ rfl hc)).trans h⟩

theorem RdI.same {w w' : World} {v : Value} {l : List Int} (h : RdI w v l) (hz : w.heap.size ≤ w'.heap.size) (hs : ∀ a n c, v = .slice (some a) n c → isC w a.block → w'.heap[a.block]? = w.heap[a.block]?) : RdI w' v l := by
  rcases h with ⟨rfl, rfl⟩ | ⟨b, o, c, rfl, hlt, hr⟩
  · exact .inl ⟨rfl, rfl⟩
  · exact .inr ⟨b, o, c, rfl, by omega, fun j x hx => (World.cell?_of_block (w := w) (w' := w') (a := ⟨b, o + j, none⟩) (hs ⟨b, o, none⟩ _ _ rfl (isC_of_cell (a := ⟨b, o + j, none⟩) (hr j x hx)))).trans (hr j x hx)⟩

theorem ChgAt.same {w w' : World} {role role' : Role} {c : Chg} {v : Value} (h : ChgAt w role c v) (hs : ∀ k, role k = some (6, 0) → isC w k → w'.heap[k]? = w.heap[k]?) (hr : ∀ k, role k = some (6, 0) → role' k = some (6, 0)) : ChgAt w' role' c v := by
  cases c with
  | inl q =>
    obtain ⟨bv, e, hrd, hro, hb⟩ := h
    exact ⟨bv, e, hrd.same (fun a n c e => hs _ (hro a n c e)), fun a n c e => hr _ (hro a n c e), hb⟩
  | inr long => exact h

theorem FileOK.kept {w w' : World} {role role' : Role} {f : FRep} (h : FileOK w role f)
    (hs : ∀ k, (∃ i, role k = some (i, f.p)) ∨ role k = some (6, 0) → isC w k → w'.heap[k]? = w.heap[k]?) (hr : ∀ k q, role k = some q → role' k = some q) : FileOK w' role' f where
  rp := hr _ _ h.rp
  blk := (hs _ (.inl ⟨_, h.rp⟩) ⟨_, _, _, h.blk⟩).trans h.blk
  osafe := own_same h.osafe (fun k e => hs k (.inl ⟨_, h.rsafe k e⟩))
  rsafe := fun g e => hr _ _ (h.rsafe g e)
  odata := own_same h.odata (fun k e => hs k (.inl ⟨_, h.rdata k e⟩))
  rdata := fun g e => hr _ _ (h.rdata g e)
  och := by
    obtain ⟨vals, ho, hc⟩ := h.och
    refine ⟨vals, own_same ho (fun k e => hs k (.inl ⟨_, h.rch k e⟩)), fun j c hj => ?_⟩
    obtain ⟨v, hv, hat⟩ := hc j c hj
    exact ⟨v, hv, hat.same (fun k e => hs k (.inr e)) (fun k e => hr _ _ e)⟩
  rch := fun g e => hr _ _ (h.rch g e)
  lsafe := h.lsafe
  ldata := h.ldata

structure DSt where
  dead : Bool
  crash : Int
  keepV : Value
  failV : Value
  fullV : Value
  room : Int
  ops : Int
  filesV : Value
  keep : List Int
  fail : List Int
  full : List Int
  fs : List FRep

/-- An int. -/
def I64 (x : Int) : Prop := -9223372036854775808 ≤ x ∧ x ≤ 9223372036854775807

structure PlanOK (w : World) (role : Role) (v : Value) (l : List Int) : Prop where
  rd : RdI w v l
  ro : RoV role v
  len : l.length * 8 ≤ 140737488351232
  each : ∀ x ∈ l, I64 x

theorem PlanOK.same {w w' : World} {role role' : Role} {v : Value} {l : List Int} (h : PlanOK w role v l) (hz : w.heap.size ≤ w'.heap.size) (hs : ∀ k, role k = some (6, 0) → isC w k → w'.heap[k]? = w.heap[k]?) (hr : ∀ k, role k = some (6, 0) → role' k = some (6, 0)) : PlanOK w' role' v l :=
  ⟨h.rd.same hz (fun a n c e => hs _ (h.ro a n c e)), fun a n c e => hr _ (h.ro a n c e), h.len, h.each⟩

def ptrV (f : FRep) : Value := .pointer (some ⟨f.p, 0, none⟩)

/-- How many changes are not safe yet. -/
def nchs (fs : List FRep) : Nat := (fs.map fun f => f.a.chs.length).sum

structure DiskOK (w : World) (role : Role) (D : Nat) (s : DSt) : Prop where
  rD : role D = some (0, D)
  blk : w.heap[D]? = some (.cells #[.bool true, .bool s.dead, .int .i64 s.crash, s.keepV, s.failV, s.fullV, .int .i64 s.room, .int .i64 s.ops, s.filesV] 51 (0, 0))
  keep : PlanOK w role s.keepV s.keep
  fail : PlanOK w role s.failV s.fail
  full : PlanOK w role s.fullV s.full
  files : w.ownsRow 0 82 1 s.filesV s.fs.length (s.fs.map ptrV)
  rfiles : ∀ g, s.filesV.ownBlock = some g → role g = some (1, D)
  each : ∀ f ∈ s.fs, FileOK w role f
  nodup : (s.fs.map (·.p)).Nodup
  sorted : s.fs.Pairwise (fun f g => cmpS f.a.name g.a.name < 0)
  dom : ∀ k q, role k = some q → k < w.heap.size
  few : s.fs.length ≤ 4096
  iC : I64 s.crash
  iR : I64 s.room
  iO : 0 ≤ s.ops ∧ s.ops ≤ 1099511627776
  nch : (nchs s.fs : Int) ≤ s.ops

/-- What a step on the disk leaves alone. -/
structure Stp (role role' : Role) (w w' : World) : Prop where
  os : w'.os = w.os
  tape : w'.tape = w.tape
  output : w'.output = w.output
  size : w.heap.size ≤ w'.heap.size
  ext : ∀ k, k < w.heap.size → role' k = role k
  keep : ∀ k, k < w.heap.size → (role k = none ∨ role k = some (6, 0)) → w'.heap[k]? = w.heap[k]?
  others : ∀ k, k < w.heap.size → ¬ isC w k → w'.heap[k]? = w.heap[k]?

theorem Stp.refl (role : Role) (w : World) : Stp role role w w := ⟨rfl, rfl, rfl, Nat.le_refl _, fun _ _ => rfl, fun _ _ _ => rfl, fun _ _ _ => rfl⟩

theorem isC_same {w w' : World} {k : Nat} (h : w'.heap[k]? = w.heap[k]?) : isC w' k ↔ isC w k := by unfold isC; rw [h]

theorem Stp.trans {r1 r2 r3 : Role} {a b c : World} (h : Stp r1 r2 a b) (k : Stp r2 r3 b c) : Stp r1 r3 a c :=
  ⟨k.os.trans h.os, k.tape.trans h.tape, k.output.trans h.output, Nat.le_trans h.size k.size,
   fun i hi => (k.ext i (Nat.lt_of_lt_of_le hi h.size)).trans (h.ext i hi),
   fun i hi hn => (k.keep i (Nat.lt_of_lt_of_le hi h.size) (by rw [h.ext i hi]; exact hn)).trans (h.keep i hi hn),
   fun i hi hn => (k.others i (Nat.lt_of_lt_of_le hi h.size) (fun hc => hn ((isC_same (h.others i hi hn)).1 hc))).trans (h.others i hi hn)⟩

/-- New blocks take the role q. -/
def extR (role : Role) (w w' : World) (q : Nat × Nat) : Role := fun k => if k < w.heap.size then role k else if k < w'.heap.size then some q else none

theorem extR_old {role : Role} {w w' : World} {q : Nat × Nat} (hd : ∀ k p, role k = some p → k < w.heap.size) (k : Nat) (p : Nat × Nat) (h : role k = some p) : extR role w w' q k = some p := by
  unfold extR; rw [if_pos (hd k p h)]; exact h

theorem extR_new {role : Role} {w w' : World} {q : Nat × Nat} {k : Nat} (h1 : w.heap.size ≤ k) (h2 : k < w'.heap.size) : extR role w w' q k = some q := by
  unfold extR; rw [if_neg (by omega), if_pos h2]

theorem extR_dom {role : Role} {w w' : World} {q : Nat × Nat} (hz : w.heap.size ≤ w'.heap.size) (k : Nat) (p : Nat × Nat) (h : extR role w w' q k = some p) : k < w'.heap.size := by
  unfold extR at h
  split at h
  · omega
  · split at h
    · assumption
    · cases h

theorem Stp.ofBelow {role : Role} {w w' : World} (q : Nat × Nat) (h : Below w.heap.size w w') : Stp role (extR role w w' q) w w' :=
  ⟨h.os, h.tape, h.output, h.size, fun k hk => by unfold extR; rw [if_pos hk], fun k hk _ => h.block k hk, fun k hk _ => h.block k hk⟩

theorem DiskOK.kept {w w' : World} {role role' : Role} {D : Nat} {s : DSt} (h : DiskOK w role D s) (hz : w.heap.size ≤ w'.heap.size)
    (hs : ∀ k q, role k = some q → isC w k → w'.heap[k]? = w.heap[k]?) (hr : ∀ k q, role k = some q → role' k = some q) (hd : ∀ k q, role' k = some q → k < w'.heap.size) : DiskOK w' role' D s where
  rD := hr _ _ h.rD
  blk := (hs _ _ h.rD ⟨_, _, _, h.blk⟩).trans h.blk
  keep := h.keep.same hz (fun k e => hs k _ e) (fun k e => hr k _ e)
  fail := h.fail.same hz (fun k e => hs k _ e) (fun k e => hr k _ e)
  full := h.full.same hz (fun k e => hs k _ e) (fun k e => hr k _ e)
  files := own_same h.files (fun k e => hs k _ (h.rfiles k e))
  rfiles := fun g e => hr _ _ (h.rfiles g e)
  each := fun f hf => (h.each f hf).kept (fun k hk => by rcases hk with ⟨i, hk⟩ | hk <;> exact hs k _ hk) hr
  nodup := h.nodup
  sorted := h.sorted
  dom := hd
  few := h.few
  iC := h.iC
  iR := h.iR
  iO := h.iO
  nch := h.nch

/-- Memory that is only made: the disk stands as it stood. -/
theorem DiskOK.below {w w' : World} {role : Role} {D : Nat} {s : DSt} (h : DiskOK w role D s) (hb : Below w.heap.size w w') (q : Nat × Nat) : DiskOK w' (extR role w w' q) D s :=
  h.kept hb.size (fun k _ e _ => hb.block k (h.dom k _ e)) (fun k p e => extR_old h.dom k p e) (fun k p e => extR_dom hb.size k p e)

theorem blk_cell {w : World} {p t o : Nat} {cs : Array Value} {v : Value} (h : w.heap[p]? = some (.cells cs t (0, 0))) (hv : cs[o]? = some v) : w.cell? ⟨p, o, none⟩ = some v := by
  simp [World.cell?, h, hv]

theorem blk_free {w : World} {p t o : Nat} {cs : Array Value} (h : w.heap[p]? = some (.cells cs t (0, 0))) : w.frozen? ⟨p, o, none⟩ = false := by
  simp [World.frozen?, h]

theorem blk_set {w : World} {p t o : Nat} {cs : Array Value} (h : w.heap[p]? = some (.cells cs t (0, 0))) (v : Value) : (w.setCell ⟨p, o, none⟩ v).heap[p]? = some (.cells (cs.setIfInBounds o v) t (0, 0)) := by
  simp [World.setCell, Array.getElem?_modify, h]

theorem map_set_same {α β : Type} (g : α → β) (l : List α) (i : Nat) (x y : α) (hi : l[i]? = some x) (h : g y = g x) : (l.set i y).map g = l.map g := by
  apply List.ext_getElem?
  intro j
  simp only [List.getElem?_map, List.getElem?_set]
  by_cases e : i = j
  · subst e
    obtain ⟨hlt, hx⟩ := List.getElem?_eq_some_iff.1 hi
    simp [hlt, hx, h]
  · simp [e]

theorem mem_set_cases {α : Type} {l : List α} {i : Nat} {y z : α} (h : z ∈ l.set i y) : z = y ∨ ∃ j, j ≠ i ∧ l[j]? = some z := by
  obtain ⟨j, hj⟩ := List.getElem?_of_mem h
  rw [List.getElem?_set] at hj
  split at hj
  · split at hj
    · exact .inl (by cases hj; rfl)
    · cases hj
  · exact .inr ⟨j, by omega, hj⟩

theorem sum_set {α : Type} (g : α → Nat) : ∀ (l : List α) (i : Nat) (x y : α), l[i]? = some x → ((l.set i y).map g).sum + g x = (l.map g).sum + g y
  | [], _, _, _, h => by simp at h
  | a :: l, 0, x, y, h => by
    simp only [List.getElem?_cons_zero, Option.some.injEq] at h
    subst h
    simp only [List.set_cons_zero, List.map_cons, List.sum_cons]
    omega
  | a :: l, i + 1, x, y, h => by
    simp only [List.getElem?_cons_succ] at h
    have ih := sum_set g l i x y h
    simp only [List.set_cons_succ, List.map_cons, List.sum_cons]
    omega

/-- One file is turned; the disk stands. -/
theorem DiskOK.put {w w' : World} {role role' : Role} {D i : Nat} {s : DSt} {f f' : FRep} (h : DiskOK w role D s) (hi : s.fs[i]? = some f) (hp : f'.p = f.p) (hn : f'.a.name = f.a.name)
    (hc : (nchs (s.fs.set i f') : Int) ≤ s.ops) (hz : w.heap.size ≤ w'.heap.size)
    (hs : ∀ k q, role k = some q → ((q.1 = 2 ∨ q.1 = 3 ∨ q.1 = 4 ∨ q.1 = 5) ∧ q.2 = f.p) ∨ w'.heap[k]? = w.heap[k]?)
    (hr : ∀ k q, role k = some q → role' k = some q) (hd : ∀ k q, role' k = some q → k < w'.heap.size) (hf : FileOK w' role' f') : DiskOK w' role' D { s with fs := s.fs.set i f' } := by
  have h6 : ∀ k, role k = some (6, 0) → w'.heap[k]? = w.heap[k]? := fun k e => by
    rcases hs k _ e with ⟨h1, _⟩ | h1
    · simp at h1
    · exact h1
  exact {
    rD := hr _ _ h.rD
    blk := by
      rcases hs _ _ h.rD with ⟨h1, _⟩ | h1
      · simp at h1
      · exact h1.trans h.blk
    keep := h.keep.same hz (fun k e _ => h6 k e) (fun k e => hr k _ e)
    fail := h.fail.same hz (fun k e _ => h6 k e) (fun k e => hr k _ e)
    full := h.full.same hz (fun k e _ => h6 k e) (fun k e => hr k _ e)
    files := by
      have e : (s.fs.set i f').map ptrV = s.fs.map ptrV := map_set_same ptrV _ _ _ _ hi (by simp [ptrV, hp])
      simp only [List.length_set, e]
      refine own_same h.files (fun k e _ => ?_)
      rcases hs _ _ (h.rfiles k e) with ⟨h1, _⟩ | h1
      · simp at h1
      · exact h1
    rfiles := fun g e => hr _ _ (h.rfiles g e)
    each := by
      intro g hg
      rcases mem_set_cases hg with rfl | ⟨j, hj, hgj⟩
      · exact hf
      · refine (h.each g (List.mem_of_getElem? hgj)).kept (fun k hk _ => ?_) hr
        have hne : g.p ≠ f.p := by
          intro e
          obtain ⟨h1, h2⟩ := List.getElem?_eq_some_iff.1 hgj
          obtain ⟨h3, h4⟩ := List.getElem?_eq_some_iff.1 hi
          have := List.getElem_inj (xs := s.fs.map (·.p)) (h₀ := by simpa using h1) (h₁ := by simpa using h3) h.nodup
          simp only [List.getElem_map, h2, h4] at this
          exact hj (this.1 e)
        rcases hk with ⟨t, hk⟩ | hk
        · rcases hs _ _ hk with ⟨_, h1⟩ | h1
          · exact absurd h1 hne
          · exact h1
        · exact h6 k hk
    nodup := by
      have e : (s.fs.set i f').map (·.p) = s.fs.map (·.p) := map_set_same (·.p) _ _ _ _ hi hp
      simp only [e]; exact h.nodup
    sorted := by
      have e : (s.fs.set i f').map (·.a.name) = s.fs.map (·.a.name) := map_set_same (·.a.name) _ _ _ _ hi hn
      have h1 : (s.fs.map (·.a.name)).Pairwise (fun a b => cmpS a b < 0) := List.pairwise_map.2 h.sorted
      rw [← e] at h1
      exact List.pairwise_map.1 h1
    dom := hd
    few := by simpa using h.few
    iC := h.iC
    iR := h.iR
    iO := h.iO
    nch := hc }

theorem nchs_set {fs : List FRep} {i : Nat} {f f' : FRep} (hi : fs[i]? = some f) : nchs (fs.set i f') + f.a.chs.length = nchs fs + f'.a.chs.length :=
  sum_set (fun f => f.a.chs.length) fs i f f' hi

/-- Its safe bytes are turned. -/
theorem FileOK.setSafe {w w1 : World} {role : Role} {f : FRep} {v : Value} {xs : List UInt8} (h : FileOK w role f) (hd : ∀ k q, role k = some q → k < w.heap.size) (hg : Grew w w1 f.safeV v) (ho : w1.ownsRow 0 5 1 v xs.length (xs.map byteV)) (hx : xs.length ≤ 268435456) :
    FileOK (w1.setCell ⟨f.p, 1, none⟩ v) (extR role w (w1.setCell ⟨f.p, 1, none⟩ v) (3, f.p)) { f with safeV := v, a := { f.a with safe := xs } } ∧
      (∀ k q, role k = some q → ((q.1 = 2 ∨ q.1 = 3 ∨ q.1 = 4 ∨ q.1 = 5) ∧ q.2 = f.p) ∨ (w1.setCell ⟨f.p, 1, none⟩ v).heap[k]? = w.heap[k]?) := by
  have hz : (w1.setCell ⟨f.p, 1, none⟩ v).heap.size = w1.heap.size := by simp [World.setCell]
  have hold : ∀ k, k < w.heap.size → f.safeV.ownBlock ≠ some k → k ≠ f.p → (w1.setCell ⟨f.p, 1, none⟩ v).heap[k]? = w.heap[k]? := fun k hk h1 h2 =>
    (Below.heap_setCell w1 _ v k h2).trans (hg.by_.block k hk (fun e => h1 e.symm))
  have hrole := fun k q (e : role k = some q) => extR_old (w' := w1.setCell ⟨f.p, 1, none⟩ v) (q := (3, f.p)) hd k q e
  have hown : ∀ k q, role k = some q → q ≠ (3, f.p) → q ≠ (2, f.p) → (w1.setCell ⟨f.p, 1, none⟩ v).heap[k]? = w.heap[k]? := by
    intro k q hk h3 h2
    refine hold k (hd k q hk) (fun e => ?_) (fun e => ?_)
    · have := h.rsafe k e; rw [hk] at this; cases this; exact h3 rfl
    · subst e; have := h.rp; rw [hk] at this; cases this; exact h2 rfl
  have hpf : f.p < w.heap.size := hd _ _ h.rp
  have hpne : f.safeV.ownBlock ≠ some f.p := fun e => by have := h.rsafe _ e; rw [h.rp] at this; cases this
  have hvp : v.ownBlock ≠ some f.p := fun e => by
    rcases hg.at_ _ e with h1 | h1
    · exact hpne h1
    · omega
  refine ⟨?_, ?_⟩
  · exact {
      rp := hrole _ _ h.rp
      blk := by
        have h1 : w1.heap[f.p]? = some (.cells #[.string f.a.name, f.safeV, f.chV, f.dataV] 87 (0, 0)) := (hg.by_.block _ hpf (fun e => hpne e.symm)).trans h.blk
        exact blk_set h1 v
      osafe := own_same ho (fun k e _ => Below.heap_setCell w1 _ v k (fun e' => hvp (by rw [e]; exact congrArg some e')))
      rsafe := fun g e => by
        rcases hg.at_ g e with h1 | h1
        · exact hrole _ _ (h.rsafe g h1)
        · exact extR_new h1 (by rw [hz]; exact (ho.lt g e).2)
      odata := own_same h.odata (fun k e _ => hown k _ (h.rdata k e) (by simp) (by simp))
      rdata := fun g e => hrole _ _ (h.rdata g e)
      och := by
        obtain ⟨vals, hv, hc⟩ := h.och
        refine ⟨vals, own_same hv (fun k e _ => hown k _ (h.rch k e) (by simp) (by simp)), fun j c hj => ?_⟩
        obtain ⟨u, hu, hat⟩ := hc j c hj
        exact ⟨u, hu, hat.same (fun k e _ => hown k _ e (by simp) (by simp)) (fun k e => hrole _ _ e)⟩
      rch := fun g e => hrole _ _ (h.rch g e)
      lsafe := hx
      ldata := h.ldata }
  · intro k q hk
    by_cases h3 : q = (3, f.p)
    · subst h3; exact .inl ⟨by simp, rfl⟩
    · by_cases h2 : q = (2, f.p)
      · subst h2; exact .inl ⟨by simp, rfl⟩
      · exact .inr (hown k q hk h3 h2)

/-- Its data are turned. -/
theorem FileOK.setData {w w1 : World} {role : Role} {f : FRep} {v : Value} {xs : List UInt8} (h : FileOK w role f) (hd : ∀ k q, role k = some q → k < w.heap.size) (hg : Grew w w1 f.dataV v) (ho : w1.ownsRow 0 5 1 v xs.length (xs.map byteV)) (hx : xs.length ≤ 268435456) :
    FileOK (w1.setCell ⟨f.p, 3, none⟩ v) (extR role w (w1.setCell ⟨f.p, 3, none⟩ v) (4, f.p)) { f with dataV := v, a := { f.a with data := xs } } ∧
      (∀ k q, role k = some q → ((q.1 = 2 ∨ q.1 = 3 ∨ q.1 = 4 ∨ q.1 = 5) ∧ q.2 = f.p) ∨ (w1.setCell ⟨f.p, 3, none⟩ v).heap[k]? = w.heap[k]?) := by
  have hz : (w1.setCell ⟨f.p, 3, none⟩ v).heap.size = w1.heap.size := by simp [World.setCell]
  have hold : ∀ k, k < w.heap.size → f.dataV.ownBlock ≠ some k → k ≠ f.p → (w1.setCell ⟨f.p, 3, none⟩ v).heap[k]? = w.heap[k]? := fun k hk h1 h2 =>
    (Below.heap_setCell w1 _ v k h2).trans (hg.by_.block k hk (fun e => h1 e.symm))
  have hrole := fun k q (e : role k = some q) => extR_old (w' := w1.setCell ⟨f.p, 3, none⟩ v) (q := (4, f.p)) hd k q e
  have hown : ∀ k q, role k = some q → q ≠ (4, f.p) → q ≠ (2, f.p) → (w1.setCell ⟨f.p, 3, none⟩ v).heap[k]? = w.heap[k]? := by
    intro k q hk h3 h2
    refine hold k (hd k q hk) (fun e => ?_) (fun e => ?_)
    · have := h.rdata k e; rw [hk] at this; cases this; exact h3 rfl
    · subst e; have := h.rp; rw [hk] at this; cases this; exact h2 rfl
  have hpf : f.p < w.heap.size := hd _ _ h.rp
  have hpne : f.dataV.ownBlock ≠ some f.p := fun e => by have := h.rdata _ e; rw [h.rp] at this; cases this
  have hvp : v.ownBlock ≠ some f.p := fun e => by
    rcases hg.at_ _ e with h1 | h1
    · exact hpne h1
    · omega
  refine ⟨?_, ?_⟩
  · exact {
      rp := hrole _ _ h.rp
      blk := by
        have h1 : w1.heap[f.p]? = some (.cells #[.string f.a.name, f.safeV, f.chV, f.dataV] 87 (0, 0)) := (hg.by_.block _ hpf (fun e => hpne e.symm)).trans h.blk
        exact blk_set h1 v
      odata := own_same ho (fun k e _ => Below.heap_setCell w1 _ v k (fun e' => hvp (by rw [e]; exact congrArg some e')))
      rdata := fun g e => by
        rcases hg.at_ g e with h1 | h1
        · exact hrole _ _ (h.rdata g h1)
        · exact extR_new h1 (by rw [hz]; exact (ho.lt g e).2)
      osafe := own_same h.osafe (fun k e _ => hown k _ (h.rsafe k e) (by simp) (by simp))
      rsafe := fun g e => hrole _ _ (h.rsafe g e)
      och := by
        obtain ⟨vals, hv, hc⟩ := h.och
        refine ⟨vals, own_same hv (fun k e _ => hown k _ (h.rch k e) (by simp) (by simp)), fun j c hj => ?_⟩
        obtain ⟨u, hu, hat⟩ := hc j c hj
        exact ⟨u, hu, hat.same (fun k e _ => hown k _ e (by simp) (by simp)) (fun k e => hrole _ _ e)⟩
      rch := fun g e => hrole _ _ (h.rch g e)
      lsafe := h.lsafe
      ldata := hx }
  · intro k q hk
    by_cases h3 : q = (4, f.p)
    · subst h3; exact .inl ⟨by simp, rfl⟩
    · by_cases h2 : q = (2, f.p)
      · subst h2; exact .inl ⟨by simp, rfl⟩
      · exact .inr (hown k q hk h3 h2)

/-- Its changes are turned. -/
theorem FileOK.setChs {w w1 : World} {role : Role} {f : FRep} {v : Value} {cs : List Chg} {vals : List Value} (h : FileOK w role f) (hd : ∀ k q, role k = some q → k < w.heap.size) (hg : Grew w w1 f.chV v) (ho : w1.ownsRow 0 119 1 v cs.length vals) (hx : ∀ (j : Nat) (c : Chg), cs[j]? = some c → ∃ u, vals[j]? = some u ∧ ChgAt w role c u) :
    FileOK (w1.setCell ⟨f.p, 2, none⟩ v) (extR role w (w1.setCell ⟨f.p, 2, none⟩ v) (5, f.p)) { f with chV := v, a := { f.a with chs := cs } } ∧
      (∀ k q, role k = some q → ((q.1 = 2 ∨ q.1 = 3 ∨ q.1 = 4 ∨ q.1 = 5) ∧ q.2 = f.p) ∨ (w1.setCell ⟨f.p, 2, none⟩ v).heap[k]? = w.heap[k]?) := by
  have hz : (w1.setCell ⟨f.p, 2, none⟩ v).heap.size = w1.heap.size := by simp [World.setCell]
  have hold : ∀ k, k < w.heap.size → f.chV.ownBlock ≠ some k → k ≠ f.p → (w1.setCell ⟨f.p, 2, none⟩ v).heap[k]? = w.heap[k]? := fun k hk h1 h2 =>
    (Below.heap_setCell w1 _ v k h2).trans (hg.by_.block k hk (fun e => h1 e.symm))
  have hrole := fun k q (e : role k = some q) => extR_old (w' := w1.setCell ⟨f.p, 2, none⟩ v) (q := (5, f.p)) hd k q e
  have hown : ∀ k q, role k = some q → q ≠ (5, f.p) → q ≠ (2, f.p) → (w1.setCell ⟨f.p, 2, none⟩ v).heap[k]? = w.heap[k]? := by
    intro k q hk h3 h2
    refine hold k (hd k q hk) (fun e => ?_) (fun e => ?_)
    · have := h.rch k e; rw [hk] at this; cases this; exact h3 rfl
    · subst e; have := h.rp; rw [hk] at this; cases this; exact h2 rfl
  have hpf : f.p < w.heap.size := hd _ _ h.rp
  have hpne : f.chV.ownBlock ≠ some f.p := fun e => by have := h.rch _ e; rw [h.rp] at this; cases this
  have hvp : v.ownBlock ≠ some f.p := fun e => by
    rcases hg.at_ _ e with h1 | h1
    · exact hpne h1
    · omega
  refine ⟨?_, ?_⟩
  · exact {
      rp := hrole _ _ h.rp
      blk := by
        have h1 : w1.heap[f.p]? = some (.cells #[.string f.a.name, f.safeV, f.chV, f.dataV] 87 (0, 0)) := (hg.by_.block _ hpf (fun e => hpne e.symm)).trans h.blk
        exact blk_set h1 v
      osafe := own_same h.osafe (fun k e _ => hown k _ (h.rsafe k e) (by simp) (by simp))
      rsafe := fun g e => hrole _ _ (h.rsafe g e)
      odata := own_same h.odata (fun k e _ => hown k _ (h.rdata k e) (by simp) (by simp))
      rdata := fun g e => hrole _ _ (h.rdata g e)
      och := by
        refine ⟨vals, own_same ho (fun k e _ => Below.heap_setCell w1 _ v k (fun e' => hvp (by rw [e]; exact congrArg some e'))), fun j c hj => ?_⟩
        obtain ⟨u, hu, hat⟩ := hx j c hj
        exact ⟨u, hu, hat.same (fun k e _ => hown k _ e (by simp) (by simp)) (fun k e => hrole _ _ e)⟩
      rch := fun g e => by
        rcases hg.at_ g e with h1 | h1
        · exact hrole _ _ (h.rch g h1)
        · exact extR_new h1 (by rw [hz]; exact (ho.lt g e).2)
      lsafe := h.lsafe
      ldata := h.ldata }
  · intro k q hk
    by_cases h3 : q = (5, f.p)
    · subst h3; exact .inl ⟨by simp, rfl⟩
    · by_cases h2 : q = (2, f.p)
      · subst h2; exact .inl ⟨by simp, rfl⟩
      · exact .inr (hown k q hk h3 h2)

/-- Blocks that are no cells may turn, and new ones come: the disk stands. -/
theorem DiskOK.grown {w w' : World} {role : Role} {D : Nat} {s : DSt} {row : Option Nat} (h : DiskOK w role D s) (hg : w.grownBy w' row) (hr : ∀ r, row = some r → ¬ isC w r) : DiskOK w' role D s :=
  h.kept hg.size (fun k _ e hc => hg.block k (h.dom k _ e) (fun e' => hr k e'.symm hc)) (fun _ _ e => e) (fun k p e => Nat.lt_of_lt_of_le (h.dom k p e) hg.size)

/-- Memory that is only made: the roles stay as they are. -/
theorem DiskOK.still {w w' : World} {role : Role} {D : Nat} {s : DSt} (h : DiskOK w role D s) (hb : Below w.heap.size w w') : DiskOK w' role D s :=
  h.kept hb.size (fun k _ e _ => hb.block k (h.dom k _ e)) (fun _ _ e => e) (fun k p e => Nat.lt_of_lt_of_le (h.dom k p e) hb.size)

theorem Stp.still {role : Role} {w w' : World} (h : Below w.heap.size w w') : Stp role role w w' :=
  ⟨h.os, h.tape, h.output, h.size, fun _ _ => rfl, fun k hk _ => h.block k hk, fun k hk _ => h.block k hk⟩

/-- A store beside the disk. -/
theorem DiskOK.poke {w : World} {role : Role} {D b o : Nat} {s : DSt} (h : DiskOK w role D s) (hb : role b = none) (v : Value) : DiskOK (w.setCell ⟨b, o, none⟩ v) role D s := by
  have hz : (w.setCell ⟨b, o, none⟩ v).heap.size = w.heap.size := by simp [World.setCell]
  refine h.kept (by rw [hz]; exact Nat.le_refl _) (fun k q e _ => Below.heap_setCell w _ v k (fun e' => ?_)) (fun _ _ e => e) (fun k p e => by rw [hz]; exact h.dom k p e)
  have : k = b := e'
  subst this
  rw [hb] at e
  cases e

/-- What is no row of cells stays. -/
structure Oth (W W' : World) : Prop where
  size : W.heap.size ≤ W'.heap.size
  same : ∀ k, k < W.heap.size → ¬ isC W k → W'.heap[k]? = W.heap[k]?

theorem Oth.refl (W : World) : Oth W W := ⟨Nat.le_refl _, fun _ _ _ => rfl⟩

theorem Oth.trans {A B C : World} (h : Oth A B) (k : Oth B C) : Oth A C :=
  ⟨Nat.le_trans h.size k.size, fun i hi hn => (k.same i (Nat.lt_of_lt_of_le hi h.size) (fun hc => hn ((isC_same (h.same i hi hn)).1 hc))).trans (h.same i hi hn)⟩

theorem Stp.oth {r r' : Role} {w w' : World} (h : Stp r r' w w') : Oth w w' := ⟨h.size, h.others⟩

theorem Oth.setCell {W : World} {b o t : Nat} {cs : Array Value} {fr : Nat × Nat} (h : W.heap[b]? = some (.cells cs t fr)) (v : Value) : Oth W (W.setCell ⟨b, o, none⟩ v) :=
  ⟨by simp [World.setCell], fun k _ hn => Below.heap_setCell W _ v k (fun e => hn (by have : k = b := e; subst this; exact ⟨_, _, _, h⟩))⟩

end Go.Proofs.Ytcceaokldphfgaa
