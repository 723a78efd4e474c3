/-
  The document's products of words.
-/
import Derived.Deep.MidRow
import Derived.Test.YtpnijncoldihfaaBackC11
import Derived.Test.YtpnijncoldihfaaBackC13
namespace Go.Proofs.Ytpnijncoldihfaa
open Go.RowKit Go.Shelf

theorem under76 : Try.prog.underlying 76 = some (.array 17 22) := by kernel_rfl

theorem size76 : (Try.prog.info? 76).map (·.size) = some 17 := by kernel_rfl

theorem loadVar17 {w : World} {b : Nat} {g : Nat → Nat} (h : w.rangeAt b 0 (c17 g).toList) : (loadVar 76 ⟨b, 0, none⟩).run Try.prog w = .ok (.agg (c17 g)) w :=
  run_loadVar_mid w b 0 76 (c17 g).toList _ h under76 rfl size76

theorem But.sets {L : Nat} {W : World} : ∀ (vs : List Value) (o : Nat) {V : World}, But L W V → But L W (V.setCells L o vs)
  | [], _, _, h => h
  | v :: r, o, _, h => by rw [World.setCells]; exact But.sets r (o + 1) (h.set o v)

/-- Values written into a row one after another. -/
def putAll (cs : Array Value) (o : Nat) : List Value → Array Value
  | [] => cs
  | v :: r => putAll (cs.setIfInBounds o v) (o + 1) r

theorem blk_sets {p t : Nat} : ∀ (vs : List Value) (o : Nat) {w : World} {cs : Array Value}, w.heap[p]? = some (.cells cs t (0, 0)) → (w.setCells p o vs).heap[p]? = some (.cells (putAll cs o vs) t (0, 0))
  | [], _, _, _, h => h
  | v :: r, o, _, _, h => by rw [World.setCells]; exact blk_sets r (o + 1) (blk_set h v)

theorem putAll17 (g' g : Nat → Nat) : putAll (c17 g') 0 (c17 g).toList = c17 g := by
  simp [c17, putAll]

theorem put_same (a : Act) (d : Nat) (v : Value) (h : d < a.tmps.size) : (a.put (some d) v).eval (.tmp d) = v := by
  simp [Act.put, Act.eval, Array.getD, h]

theorem put_ne (a : Act) {d j : Nat} (v : Value) (h : d ≠ j) : (a.put (some d) v).eval (.tmp j) = a.eval (.tmp j) :=
  Act.eval_put (fun d' hd' e => by cases hd'; cases e; exact h rfl)

theorem results_cell {P : Program} {fn : Func} {ts : Array Value} {w : World} {j ty : Nat} {p : Addr} {v : Value} (hf : fn.results = #[.cell j ty]) (hj : ts.getD j undef = .pointer (some p)) (h : (loadVar ty p).run P w = .ok v w) :
    (results fn ts).run P w = .ok v w := by
  unfold results
  rw [hf]
  rw [Array.getD_eq_getD_getElem?] at hj
  simp [hj, asAddr, h]

theorem results17 {fn : Func} {ts : Array Value} {w : World} {j b : Nat} {g : Nat → Nat} (hf : fn.results = #[.cell j 76]) (hj : ts.getD j undef = .pointer (some ⟨b, 0, none⟩)) (h : w.rangeAt b 0 (c17 g).toList) :
    (results fn ts).run Try.prog w = .ok (.agg (c17 g)) w := results_cell hf hj (loadVar17 h)

/-- Where a walk over two long numbers has come to. -/
structure PI (w wr : World) (A B N k : Nat) : Prop where
  a : wr.heap[w.heap.size]? = some (.cells (c17 (dg A)) 76 (0, 0))
  b : wr.heap[w.heap.size + 1]? = some (.cells (c17 (dg B)) 76 (0, 0))
  r : wr.heap[w.heap.size + 1 + 1]? = some (.cells (c17 (fun _ => 0)) 76 (0, 0))
  o : ∃ g : Nat → Nat, wr.heap[w.heap.size + 1 + 1 + 1]? = some (.cells (c17 g) 76 (0, 0)) ∧ ∀ j, j < k → g j = dg N j
  l : Below w.heap.size w wr

theorem PI.put {w wr : World} {A B N k : Nat} (I : PI w wr A B N k) (hk : k < 17) {s : Nat} (hs : s = dg N k) :
    PI w (wr.drew.setCell ⟨w.heap.size + 1 + 1 + 1, k, none⟩ (.int .u64 s)) A B N (k + 1) := by
  obtain ⟨g, hg, hgk⟩ := I.o
  have o1 : ∀ b, b ≠ w.heap.size + 1 + 1 + 1 → (wr.drew.setCell ⟨w.heap.size + 1 + 1 + 1, k, none⟩ (.int .u64 s)).heap[b]? = wr.heap[b]? := fun b h => Below.heap_setCell wr.drew _ _ b h
  refine ⟨(o1 _ (by omega)).trans I.a, (o1 _ (by omega)).trans I.b, (o1 _ (by omega)).trans I.r, ⟨fun i => if i = k then s else g i, ?_, fun j hj => ?_⟩, I.l.drew.setCell (p := ⟨w.heap.size + 1 + 1 + 1, k, none⟩) (by simp <;> omega) _⟩
  · have := blk_set (w := wr.drew) (o := k) hg (.int .u64 s)
    rw [set17 g s hk] at this
    exact this
  · show (if j = k then s else g j) = _
    by_cases h : j = k
    · rw [if_pos h, h, hs]
    · rw [if_neg h]; exact hgk j (by omega)

theorem PI.start (w : World) (A B N : Nat) : PI w ((((w.alloc (.cells (c17 (dg A)) 76 (0, 0))).alloc (.cells (c17 (dg B)) 76 (0, 0))).alloc (.cells (c17 (fun _ => 0)) 76 (0, 0))).alloc (.cells (c17 (fun _ => 0)) 76 (0, 0))) A B N 0 := by
  refine ⟨?_, ?_, ?_, ⟨fun _ => 0, ?_, fun j hj => absurd hj (by omega)⟩, ?_⟩
  · simp only [World.alloc, Array.getElem?_push, Array.size_push]; simp [Nat.add_assoc]
  · simp only [World.alloc, Array.getElem?_push, Array.size_push]; simp
  · simp only [World.alloc, Array.getElem?_push, Array.size_push]; simp
  · simp only [World.alloc, Array.getElem?_push, Array.size_push]; simp
  · refine Below.alloc ?_ (by simp <;> omega) _
    refine Below.alloc ?_ (by simp <;> omega) _
    refine Below.alloc ?_ (by simp <;> omega) _
    refine Below.alloc ?_ (by simp <;> omega) _
    exact Below.refl _ _

end Go.Proofs.Ytpnijncoldihfaa

namespace Go.Proofs.Ytpnijncoldihfaa
open Go.RowKit Go.Shelf

/-- All that lay in W0 is as it was but for the box R. -/
structure KeepR (W0 : World) (R : Nat) (V : World) : Prop where
  same : ∀ b, b < W0.heap.size → b ≠ R → V.heap[b]? = W0.heap[b]?
  below : Below R W0 V
  res : ∃ z0 z1 z2 z3, V.heap[R]? = some (.cells #[z0, z1, z2, z3] 24 (0, 0))

section
variable {W0 V V' : World} {R : Nat}
theorem KeepR.init {z0 z1 z2 z3 : Value} (h : W0.heap[R]? = some (.cells #[z0, z1, z2, z3] 24 (0, 0))) : KeepR W0 R W0.drew :=
  ⟨fun _ _ _ => rfl, (Below.refl _ _).drew, z0, z1, z2, z3, h⟩

theorem lt_of_block {W : World} {b : Nat} {o : Obj} (h : W.heap[b]? = some o) : b < W.heap.size := (Array.getElem?_eq_some_iff.1 h).1

theorem KeepR.call (h : KeepR W0 R V) (hb : Below V.heap.size V V') : KeepR W0 R V' := by
  obtain ⟨z0, z1, z2, z3, hz⟩ := h.res
  have hs : W0.heap.size ≤ V.heap.size := h.below.size
  exact ⟨fun b h1 h2 => (hb.block b (by omega)).trans (h.same b h1 h2), h.below.trans (hb.mono (Nat.le_of_lt (lt_of_block hz))), z0, z1, z2, z3, (hb.block R (lt_of_block hz)).trans hz⟩

theorem KeepR.store (h : KeepR W0 R V) (z0 z1 z2 z3 : Value) : KeepR W0 R ((((V.setCell ⟨R, 0, none⟩ z0).setCell ⟨R, 1, none⟩ z1).setCell ⟨R, 2, none⟩ z2).setCell ⟨R, 3, none⟩ z3) := by
  obtain ⟨y0, y1, y2, y3, hz⟩ := h.res
  exact ⟨fun b h1 h2 => (other4 h2).trans (h.same b h1 h2), below_stored4 h.below (Nat.le_refl _), z0, z1, z2, z3, stored4 hz⟩

theorem KeepR.cells (h : KeepR W0 R V) {b t : Nat} {u0 u1 u2 u3 : Value} (hb : W0.heap[b]? = some (.cells #[u0, u1, u2, u3] t (0, 0))) (hne : b ≠ R) :
    V.cell? ⟨b, 0, none⟩ = some u0 ∧ V.cell? ⟨b, 1, none⟩ = some u1 ∧ V.cell? ⟨b, 2, none⟩ = some u2 ∧ V.cell? ⟨b, 3, none⟩ = some u3 :=
  cells4 ((h.same b (lt_of_block hb) hne).trans hb)

theorem KeepR.room (h : KeepR W0 R V) : ∃ z0 z1 z2 z3, V.cell? ⟨R, 0, none⟩ = some z0 ∧ V.cell? ⟨R, 1, none⟩ = some z1 ∧ V.cell? ⟨R, 2, none⟩ = some z2 ∧ V.cell? ⟨R, 3, none⟩ = some z3 ∧ ∀ o, V.frozen? ⟨R, o, none⟩ = false := by
  obtain ⟨z0, z1, z2, z3, hz⟩ := h.res
  obtain ⟨a, b, c, d⟩ := cells4 hz
  exact ⟨z0, z1, z2, z3, a, b, c, d, fun o => blk_free hz⟩

end

end Go.Proofs.Ytpnijncoldihfaa

namespace Go.Proofs.Ytpnijncoldihfaa
open Go.RowKit Go.Shelf


/-- A slot that is set, if the variable is made. -/
def setO (d : Nat) (p : Option Nat) (t : List Value) : List Value := match p with | none => t | some b => t.set d (.pointer (some ⟨b, 0, none⟩))

theorem setO_set {d c : Nat} {p : Option Nat} {t : List Value} {v : Value} (h : d ≠ c) : (setO d p t).set c v = setO d p (t.set c v) := by
  cases p with
  | none => rfl
  | some b => exact List.set_comm _ _ h

theorem setO_get {d s : Nat} {p : Option Nat} {t : List Value} (h : d ≠ s) : (setO d p t)[s]? = t[s]? := by
  cases p with
  | none => rfl
  | some b => exact List.getElem?_set_ne h

/-- A new variable of four limbs. -/
def Fresh (N : Nat) (w : World) (p : Option Nat) : Prop := ∀ b, p = some b → N ≤ b ∧ w.heap[b]? = some (.cells #[.int .u64 0, .int .u64 0, .int .u64 0, .int .u64 0] 24 (0, 0))

/-- Two variables are apart. -/
def Apart (p q : Option Nat) : Prop := ∀ b c, p = some b → q = some c → b ≠ c

theorem Fresh.none {N : Nat} {w : World} : Fresh N w none := fun _ h => by cases h

theorem Fresh.call {N : Nat} {w w' : World} {p : Option Nat} (h : Fresh N w p) (hb : Below w.heap.size w w') : Fresh N w' p := fun b e => by
  obtain ⟨h1, h2⟩ := h b e
  exact ⟨h1, (hb.block b (lt_of_block h2)).trans h2⟩

theorem Fresh.alloc {N : Nat} {w : World} {p : Option Nat} (h : Fresh N w p) (o : Obj) : Fresh N (w.alloc o) p := fun b e => by
  obtain ⟨h1, h2⟩ := h b e
  exact ⟨h1, (heap_old _ _ (lt_of_block h2)).trans h2⟩

theorem Fresh.new {N : Nat} {w : World} (hN : N ≤ w.heap.size) : Fresh N (w.alloc (.cells #[.int .u64 0, .int .u64 0, .int .u64 0, .int .u64 0] 24)) (some w.heap.size) := fun b e => by
  cases e
  exact ⟨hN, heap_new _ _⟩

theorem Apart.new {N : Nat} {w : World} {p : Option Nat} (h : Fresh N w p) : Apart (some w.heap.size) p := fun b c e1 e2 => by
  cases e1
  have := lt_of_block (h c e2).2
  omega

theorem Apart.symm {p q : Option Nat} (h : Apart p q) : Apart q p := fun b c e1 e2 => (h c b e2 e1).symm

theorem Apart.none1 {q : Option Nat} : Apart none q := fun _ _ h => by cases h


end Go.Proofs.Ytpnijncoldihfaa

namespace Go.Proofs.Ytpnijncoldihfaa
open Go.RowKit Go.Shelf

/-- A new variable of these cells. -/
def FreshZ (zc : Array Value) (t N : Nat) (w : World) (p : Option Nat) : Prop := ∀ b, p = some b → N ≤ b ∧ w.heap[b]? = some (.cells zc t (0, 0))

section
variable {zc : Array Value} {t N : Nat} {w w' : World} {p : Option Nat}
theorem FreshZ.none : FreshZ zc t N w none := fun _ h => by cases h

theorem FreshZ.call (h : FreshZ zc t N w p) (hb : Below w.heap.size w w') : FreshZ zc t N w' p := fun b e => by
  obtain ⟨h1, h2⟩ := h b e
  exact ⟨h1, (hb.block b (lt_of_block h2)).trans h2⟩

theorem FreshZ.alloc (h : FreshZ zc t N w p) (o : Obj) : FreshZ zc t N (w.alloc o) p := fun b e => by
  obtain ⟨h1, h2⟩ := h b e
  exact ⟨h1, (heap_old _ _ (lt_of_block h2)).trans h2⟩

theorem FreshZ.new (hN : N ≤ w.heap.size) : FreshZ zc t N (w.alloc (.cells zc t (0, 0))) (some w.heap.size) := fun b e => by
  cases e
  exact ⟨hN, heap_new _ _⟩

theorem FreshZ.apart (h : FreshZ zc t N w p) : Apart (some w.heap.size) p := fun b c e1 e2 => by
  cases e1
  have := lt_of_block (h c e2).2
  omega

end


end Go.Proofs.Ytpnijncoldihfaa

namespace Go.Proofs.Ytpnijncoldihfaa
open Go.RowKit Go.Shelf

theorem wpOp_stepT {P : Program} {l : List Oper} {Q : Exit → Act → World → Prop} {i : Nat} {o : Oper} {K : Act → World → Prop} {a : Act} {w : World} (ho : l[i]? = some o)
    (h : ∀ K' : Act → World → Prop, (∀ a w, K a w → K' a w) → if Region.wanted o (yielded l.toArray a.tmps) = true then Oper.wp P o a w K' Q else K' (a.put o.dst undef) w) : wpOp P l.toArray Q i K a w :=
  wpOp_step (by simpa using ho) h

theorem vl_put (g : Nat → Nat) (v : Nat) {j : Nat} : ∀ n, j < n → vl (fun i => if i = j then v else g i) n + g j * 4294967296 ^ j = vl g n + v * 4294967296 ^ j
  | 0, h => absurd h (by omega)
  | n + 1, h => by
    by_cases e : n = j
    · subst e
      have h1 : vl (fun i => if i = n then v else g i) n = vl g n := vl_congr n (fun i hi => by show (if i = n then v else g i) = g i; rw [if_neg (by omega)])
      show vl (fun i => if i = n then v else g i) n + (if n = n then v else g n) * 4294967296 ^ n + _ = vl g n + g n * 4294967296 ^ n + _
      rw [h1, if_pos rfl]
      omega
    · have h1 := vl_put g v (j := j) n (by omega)
      show vl (fun i => if i = j then v else g i) n + (if n = j then v else g n) * 4294967296 ^ n + _ = vl g n + g n * 4294967296 ^ n + _
      rw [if_neg e]
      omega

/-- Where a product has come to: the cells. -/
structure TW (w wr : World) (b1 b2 r o X Y : Nat) (g : Nat → Nat) : Prop where
  ca : wr.heap[b1]? = some (.cells (c17 (dg X)) 76 (0, 0))
  cb : wr.heap[b2]? = some (.cells (c17 (dg Y)) 76 (0, 0))
  cr : wr.heap[r]? = some (.cells (c17 (fun _ => 0)) 76 (0, 0))
  co : wr.heap[o]? = some (.cells (c17 g) 76 (0, 0))
  o1 : o ≠ b1
  o2 : o ≠ b2
  o3 : o ≠ r
  hr : w.heap.size ≤ r
  ho : w.heap.size ≤ o
  l : Below w.heap.size w wr

theorem TW.drew {w wr : World} {b1 b2 r o X Y : Nat} {g : Nat → Nat} (I : TW w wr b1 b2 r o X Y g) : TW w wr.drew b1 b2 r o X Y g :=
  ⟨I.ca, I.cb, I.cr, I.co, I.o1, I.o2, I.o3, I.hr, I.ho, I.l.drew⟩

theorem TW.put {w wr : World} {b1 b2 r o X Y : Nat} {g : Nat → Nat} (I : TW w wr b1 b2 r o X Y g) {j : Nat} (hj : j < 17) (s : Nat) :
    TW w (wr.setCell ⟨o, j, none⟩ (.int .u64 s)) b1 b2 r o X Y (fun i => if i = j then s else g i) := by
  have o1 : ∀ b, b ≠ o → (wr.setCell ⟨o, j, none⟩ (.int .u64 s)).heap[b]? = wr.heap[b]? := fun b h => Below.heap_setCell wr _ _ b h
  refine ⟨(o1 _ (Ne.symm I.o1)).trans I.ca, (o1 _ (Ne.symm I.o2)).trans I.cb, (o1 _ (Ne.symm I.o3)).trans I.cr, ?_, I.o1, I.o2, I.o3, I.hr, I.ho, I.l.setCell (p := ⟨o, j, none⟩) I.ho _⟩
  have := blk_set (o := j) I.co (.int .u64 s)
  rw [set17 g s hj] at this
  exact this

/-- Where a product has come to: the numbers, behind a whole digit. -/
structure TN (X Y i : Nat) (g : Nat → Nat) : Prop where
  lt : ∀ j, g j < 4294967296
  z : ∀ j, i + 8 ≤ j → g j = 0
  s : vl g 17 = vl (dg X) i * Y

/-- The same within a digit. -/
structure TK (X Y i k c : Nat) (g : Nat → Nat) : Prop where
  lt : ∀ j, g j < 4294967296
  z : ∀ j, i + 8 ≤ j → g j = 0
  hc : c < 4294967296
  s : vl g 17 + c * 4294967296 ^ (i + k) = vl (dg X) i * Y + dg X i * vl (dg Y) k * 4294967296 ^ i

theorem TK.step {X Y i k c : Nat} {g : Nat → Nat} (I : TK X Y i k c g) (hi : i < 8) (hk : k < 8) {s : Nat} (hs : s = g (i + k) + dg X i * dg Y k + c) (h64 : s < 18446744073709551616) :
    TK X Y i (k + 1) (s / 4294967296) (fun j => if j = i + k then s % 4294967296 else g j) := by
  refine ⟨fun j => ?_, fun j hj => ?_, by omega, ?_⟩
  · show (if j = i + k then s % 4294967296 else g j) < _
    split
    · omega
    · exact I.lt j
  · show (if j = i + k then s % 4294967296 else g j) = 0
    rw [if_neg (by omega)]
    exact I.z j hj
  · have h1 := vl_put g (s % 4294967296) (j := i + k) 17 (by omega)
    have h2 := I.s
    have h3 : s / 4294967296 * 4294967296 ^ (i + (k + 1)) + s % 4294967296 * 4294967296 ^ (i + k) = s * 4294967296 ^ (i + k) := by
      rw [show i + (k + 1) = i + k + 1 by omega, Nat.pow_succ, Nat.mul_comm (4294967296 ^ (i + k)) 4294967296, ← Nat.mul_assoc, ← Nat.add_mul]
      congr 1
      omega
    have h4 : s * 4294967296 ^ (i + k) = g (i + k) * 4294967296 ^ (i + k) + dg X i * dg Y k * 4294967296 ^ (i + k) + c * 4294967296 ^ (i + k) := by
      rw [hs, Nat.add_mul, Nat.add_mul]
    have h5 : dg X i * vl (dg Y) (k + 1) * 4294967296 ^ i = dg X i * vl (dg Y) k * 4294967296 ^ i + dg X i * dg Y k * 4294967296 ^ (i + k) := by
      show dg X i * (vl (dg Y) k + dg Y k * 4294967296 ^ k) * 4294967296 ^ i = _
      rw [Nat.mul_add, Nat.add_mul, Nat.pow_add, ← Nat.mul_assoc (dg X i), Nat.mul_assoc (dg X i * dg Y k), Nat.mul_comm (4294967296 ^ k)]
    rw [h5]
    omega

theorem TN.done {X Y : Nat} {g : Nat → Nat} (I : TN X Y 8 g) (hX : X < 4294967296 ^ 8) : ∀ j, j < 17 → g j = dg (X * Y) j := fun j hj => by
  have h := I.s
  rw [vl_dg X 8, Nat.mod_eq_of_lt hX] at h
  rw [← h, dg_vl 17 (fun j _ => I.lt j) hj]

end Go.Proofs.Ytpnijncoldihfaa
