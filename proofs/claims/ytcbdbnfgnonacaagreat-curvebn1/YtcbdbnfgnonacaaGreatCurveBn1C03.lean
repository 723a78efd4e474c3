/-
 The document's twice: a number doubled, and a bit, modulo another.
-/
import Derived.OwnWalk
import Derived.Laws.CopyOwn
import Derived.Deep.Upon
import Derived.Laws.IdiomStrings
import Derived.Laws.BytesArg
import Derived.Test.YtcbdbnfgnonacaaGreatCurveBn1C01
set_option maxHeartbeats 2000000
set_option maxRecDepth 100000
namespace Go.Proofs.YtcbdbnfgnonacaaGreat
open Go.RowKit Go.Shelf
theorem Tryz.bytes5 : (Tryz.prog.info? 5).map (fun i => (i.zero, i.size, i.bytes)) = some (some (.int .u8 0), 1, 1) := by kernel_rfl
theorem Tryz.undB : Tryz.prog.underlying 93 = some (.slice 5) := by kernel_rfl
theorem Zc7 (g j : Nat) : (⟨g, 0, none⟩ : Addr).add j = ⟨g, j, none⟩ := by unfold Addr.add; split <;> simp_all
structure BS (w : World) (ao : Option Addr) (n cap : Nat) (bs : Nat → Nat) : Prop where
 lt : ∀ j, bs j < 256
 le : n ≤ cap
 room : cap ≤ maxLen
 cell : ∀ j, j < n → ∃ ad, ao = some ad ∧ w.cell? (ad.add j) = some (.int .u8 (bs j))
 nil : ao = none → cap = 0
theorem BS.moved {w w' : World} {ao : Option Addr} {n cap : Nat} {bs : Nat → Nat} (h : BS w ao n cap bs) (hb : Below w.heap.size w w') : BS w' ao n cap bs :=
 ⟨h.lt, h.le, h.room, fun j hj => by
  obtain ⟨ad, e, hc⟩ := h.cell j hj
  exact ⟨ad, e, (hb.cell (p := ad.add j) (World.block_lt_of_cell? w _ hc)).trans hc⟩, h.nil⟩
def bv (bs : Nat → Nat) (n : Nat) : Nat → Nat
 | 0 => 0
 | k + 1 => bv bs n k + bs (n - 1 - k) * 256 ^ k
theorem Zmo {bs : Nat → Nat} (hs : ∀ j, bs j < 256) (n : Nat) : ∀ k, bv bs n k < 256 ^ k
 | 0 => by simp [bv]
 | k + 1 => by
  have ih := Zmo hs n k
  have hd := hs (n - 1 - k)
  rw [bv, Nat.pow_succ]
  have := Nat.mul_le_mul_right (256 ^ k) (show bs (n - 1 - k) ≤ 255 by omega)
  omega
theorem ZeR (V d k j : Nat) (hV : V < 256 ^ k) (hd : d < 256) : limb (V + d * 256 ^ k) j = if j = k / 8 then limb V j + d * 2 ^ (8 * (k % 8)) else limb V j := by
 have e : (256 : Nat) ^ k = 2 ^ (8 * (k % 8)) * 18446744073709551616 ^ (k / 8) := by
  rw [show (18446744073709551616 : Nat) = 2 ^ 64 by decide, ← Nat.pow_mul, ← Nat.pow_add, show (256 : Nat) = 2 ^ 8 by decide, ← Nat.pow_mul]
  congr 1
  omega
 have hlow : V / 18446744073709551616 ^ (k / 8) < 2 ^ (8 * (k % 8)) := by
  rw [Nat.div_lt_iff_lt_mul (Nat.pow_pos (by decide)), ← e]
  exact hV
 have hp : 2 ^ (8 * (k % 8)) ≤ 2 ^ 56 := Nat.pow_le_pow_right (by decide) (by omega)
 unfold limb
 by_cases h : j = k / 8
 ·
  subst h
  rw [if_pos rfl, e, ← Nat.mul_assoc, Nat.add_mul_div_right _ _ (Nat.pow_pos (by decide))]
  have h60 : (2 : Nat) ^ 56 = 72057594037927936 := by decide
  have hm : d * 2 ^ (8 * (k % 8)) ≤ 255 * 2 ^ (8 * (k % 8)) := Nat.mul_le_mul_right _ (by omega)
  generalize d * 2 ^ (8 * (k % 8)) = D at *
  generalize 2 ^ (8 * (k % 8)) = P at *
  generalize V / 18446744073709551616 ^ (k / 8) = Q at *
  omega
 ·
  rw [if_neg h]
  rcases Nat.lt_or_gt_of_ne h with h1 | h1
  ·
   have hk : k / 8 = (k / 8 - j - 1) + 1 + j := by omega
   have e2 : d * 256 ^ k = d * 2 ^ (8 * (k % 8)) * 18446744073709551616 ^ (k / 8 - j - 1) * 18446744073709551616 * 18446744073709551616 ^ j := by
    rw [e]
    conv => lhs; rw [hk, Nat.pow_add, Nat.pow_succ]
    simp only [Nat.mul_assoc]
   rw [e2, Nat.add_mul_div_right _ _ (Nat.pow_pos (by decide)), Nat.add_mul_mod_self_right]
  ·
   have hz : ∀ N, N < 256 ^ (k + 1) → N / 18446744073709551616 ^ j = 0 := fun N hN => by
    apply Nat.div_eq_of_lt
    refine Nat.lt_of_lt_of_le hN ?_
    rw [show (18446744073709551616 : Nat) = 256 ^ 8 by decide, ← Nat.pow_mul]
    exact Nat.pow_le_pow_right (by decide) (by omega)
   have hN : V + d * 256 ^ k < 256 ^ (k + 1) := by
    rw [Nat.pow_succ]
    have := Nat.mul_le_mul_right (256 ^ k) (show d ≤ 255 by omega)
    omega
   rw [hz _ hN, hz V (Nat.lt_trans hV (Nat.pow_lt_pow_right (by decide) (by omega)))]
theorem Zmp (a d n : Nat) (ha : a < 2 ^ n) (hd : d < 256) (hn : n ≤ 56) : bits .or .u64 (a : Int) ((d * 2 ^ n : Nat) : Int) = ((a + d * 2 ^ n : Nat) : Int) := by
 have hp : 2 ^ n ≤ 2 ^ 56 := Nat.pow_le_pow_right (by decide) hn
 have h60 : (2 : Nat) ^ 56 = 72057594037927936 := by decide
 have hm := Nat.mul_le_mul_right (2 ^ n) (show d ≤ 255 by omega)
 have h := bits_or_u64_nat a (d * 2 ^ n) (by omega) (by omega)
 have e : a ||| d * 2 ^ n = a + d * 2 ^ n := by
  rw [Nat.mul_comm, Nat.or_comm, ← Nat.two_pow_add_eq_or_of_lt ha d, Nat.add_comm]
 rw [h, e]
theorem ZeS {V k : Nat} (hV : V < 256 ^ k) : limb V (k / 8) < 2 ^ (8 * (k % 8)) := by
 unfold limb
 refine Nat.lt_of_le_of_lt (Nat.mod_le _ _) ?_
 rw [Nat.div_lt_iff_lt_mul (Nat.pow_pos (by decide)), show (18446744073709551616 : Nat) = 2 ^ 64 by decide, ← Nat.pow_mul, ← Nat.pow_add]
 refine Nat.lt_of_lt_of_le hV ?_
 rw [show (256 : Nat) = 2 ^ 8 by decide, ← Nat.pow_mul]
 exact Nat.pow_le_pow_right (by decide) (by omega)
def byt (X i : Nat) : Nat := limb X (i / 8) / 2 ^ (8 * (i % 8)) % 256
theorem Zl1 (X i : Nat) : byt X i < 256 := Nat.mod_lt _ (by decide)
def cb (n : Nat) (f : Nat → Nat) : Array Value := ((List.range n).map (fun j => Value.int .u8 (f j))).toArray
theorem Zd6 (n : Nat) (f : Nat → Nat) : (cb n f).size = n := by simp [cb]
theorem Zd7 {n : Nat} (f : Nat → Nat) {j : Nat} (h : j < n) : (cb n f)[j]? = some (.int .u8 (f j)) := by
 unfold cb
 rw [List.getElem?_toArray]
 simp [h]
theorem ZeT {n : Nat} {f g : Nat → Nat} (h : ∀ j, j < n → f j = g j) : cb n f = cb n g := by
 unfold cb
 congr 1
 exact List.map_congr_left fun j hj => by rw [h j (List.mem_range.1 hj)]
theorem cb_set {n : Nat} (f : Nat → Nat) {j : Nat} (v : Nat) : (cb n f).setIfInBounds j (.int .u8 v) = cb n (fun i => if i = j then v else f i) := by
 apply Array.ext_getElem?
 intro i
 rw [Array.getElem?_setIfInBounds]
 by_cases hi : i < n
 ·
  by_cases h : j = i
  ·
   subst h; rw [Zd7 (fun i => if i = j then v else f i) hi]; simp [Zd6, hi]
  ·
   rw [if_neg h, Zd7 _ hi, Zd7 _ hi, if_neg (fun e => h e.symm)]
 ·
  have e : ∀ f, (cb n f)[i]? = none := fun f => by rw [Array.getElem?_eq_none]; rw [Zd6]; omega
  by_cases h : j = i
  ·
   subst h; simp [Zd6, hi]
  ·
   rw [if_neg h, e, e]
theorem ZhD (W : World) (n : Nat) (hn : n ≤ 48) : (Instr.makeSlice 93 (.int .i64 (n : Int)) (.int .i64 (n : Int))).run Tryz.prog W = .ok (.slice (some ⟨W.heap.size, 0, none⟩) n n) (W.alloc (.cells (cb n (fun _ => 0)) 5)) := by
 obtain ⟨i0, hi, hz, hs, hb⟩ := info_parts Tryz.bytes5
 have := run_makeSlice (P := Tryz.prog) (w := W) 93 5 i0 (.int .u8 0) Tryz.undB hi hz .i64 .i64 n n (by omega) (by omega) (by rw [hs]; omega) (by rw [hb]; omega) (by omega)
 have e : madeCells (Value.int IntKind.u8 0).cells (Int.toNat n * 1) = cb n (fun _ => 0) := by
  apply Array.ext_getElem?
  intro i
  rw [Nat.mul_one, Int.toNat_natCast]
  by_cases h : i < n
  ·
   rw [Zd7 _ h]
   simp [madeCells, h, Value.cells, Nat.mod_one]
  ·
   rw [Array.getElem?_eq_none (by rw [size_madeCells]; omega), Array.getElem?_eq_none (by rw [Zd6]; omega)]
 rw [this, hs, e]
 simp
theorem ZaQ {ops : Array Oper} {rest : List Oper} {o : Oper} {a : Act} {w : World} {Q : Exit → Act → World → Prop} (hgd : o.guard = none) (s x : Operand) (t : TypeId)
  (ho : o.op = .call { callee := .builtin .append, args := #[s, x], argTypes := #[t, t] }) {ty : TypeId} (hty : o.type = ty) {vs vx v' : Value} {w' : World} (hs : a.eval s = vs) (hx : a.eval x = vx)
  (hrun : (Builtin.append_ #[t, t] ty #[vs, vx]).run Tryz.prog w = .ok v' w') (h : wpList Tryz.prog ops Q rest (a.put o.dst v') w') :
  wpList Tryz.prog ops Q (o :: rest) a w := by
 refine wpList_plain hgd fun K hK => ?_
 unfold Oper.wp
 subst hty
 simp [execOp, ho, resolve, invoke, builtin, hs, hx, hrun]
 exact hK _ _ h
theorem Zdu (N k : Nat) : N / 18446744073709551616 ^ k = N / 18446744073709551616 ^ (k + 1) * 18446744073709551616 + limb N k := by
 unfold limb
 rw [Nat.pow_succ, ← Nat.div_div_eq_div_mul, Nat.mul_comm]
 exact (Nat.div_add_mod _ _).symm
theorem Zim {X Y m : Nat} (hX : X < 18446744073709551616 ^ m) (hY : Y < 18446744073709551616 ^ m) : ∀ (d k : Nat), k + d = m → (∀ j, k ≤ j → j < m → limb X j = limb Y j) → X / 18446744073709551616 ^ k = Y / 18446744073709551616 ^ k
 | 0, k, h, _ => by
  obtain rfl : k = m := by omega
  rw [Nat.div_eq_of_lt hX, Nat.div_eq_of_lt hY]
 | d + 1, k, h, he => by
  rw [Zdu X k, Zdu Y k, Zim hX hY d (k + 1) (by omega) (fun j h1 h2 => he j (by omega) h2), he k (Nat.le_refl _) (by omega)]
theorem Zmq {X Y m k : Nat} (hX : X < 18446744073709551616 ^ m) (hY : Y < 18446744073709551616 ^ m) (hk : k < m) (he : ∀ j, k + 1 ≤ j → j < m → limb X j = limb Y j) (hne : limb X k ≠ limb Y k) : decide (limb X k < limb Y k) = decide (X < Y) := by
 have h1 := Zim hX hY (m - (k + 1)) (k + 1) (by omega) he
 have hx := Zdu X k
 have hy := Zdu Y k
 rw [h1] at hx
 have hP : 0 < 18446744073709551616 ^ k := Nat.pow_pos (by decide)
 generalize 18446744073709551616 ^ k = P at *
 generalize Y / 18446744073709551616 ^ (k + 1) * 18446744073709551616 = Q at *
 generalize limb X k = a at *
 generalize limb Y k = b at *
 have ex := Nat.div_add_mod X P
 have ey := Nat.div_add_mod Y P
 have lx := Nat.mod_lt X hP
 have ly := Nat.mod_lt Y hP
 rw [hx] at ex
 rw [hy] at ey
 rw [decide_eq_decide]
 constructor
 ·
  intro h
  have := Nat.mul_le_mul_left P (show Q + a + 1 ≤ Q + b by omega)
  rw [Nat.mul_add, Nat.mul_one] at this
  omega
 ·
  intro h
  apply Nat.lt_of_not_le
  intro hc
  have := Nat.mul_le_mul_left P (show Q + b + 1 ≤ Q + a by omega)
  rw [Nat.mul_add, Nat.mul_one] at this
  omega
theorem Tryz.infoW : (Tryz.prog.info? 27).map (fun i => (i.zero, i.size, i.bytes)) = some (some (.int .u64 0), 1, 8) := by kernel_rfl
theorem Tryz.undL : Tryz.prog.underlying 37 = some (.slice 27) := by kernel_rfl
def cw (n : Nat) (f : Nat → Nat) : Array Value := ((List.range n).map (fun j => Value.int .u64 (f j))).toArray
theorem Zd8 (n : Nat) (f : Nat → Nat) : (cw n f).size = n := by simp [cw]
theorem Zb2 {n : Nat} (f : Nat → Nat) {j : Nat} (h : j < n) : (cw n f)[j]? = some (.int .u64 (f j)) := by
 unfold cw
 rw [List.getElem?_toArray]
 simp [h]
theorem ZeU {n : Nat} {f g : Nat → Nat} (h : ∀ j, j < n → f j = g j) : cw n f = cw n g := by
 unfold cw
 congr 1
 exact List.map_congr_left fun j hj => by rw [h j (List.mem_range.1 hj)]
theorem Zd9 {n : Nat} (f : Nat → Nat) {j : Nat} (v : Nat) : (cw n f).setIfInBounds j (.int .u64 v) = cw n (fun i => if i = j then v else f i) := by
 apply Array.ext_getElem?
 intro i
 rw [Array.getElem?_setIfInBounds]
 by_cases hi : i < n
 ·
  by_cases h : j = i
  ·
   subst h; rw [Zb2 (fun i => if i = j then v else f i) hi]; simp [Zd8, hi]
  ·
   rw [if_neg h, Zb2 _ hi, Zb2 _ hi, if_neg (fun e => h e.symm)]
 ·
  have e : ∀ f, (cw n f)[i]? = none := fun f => by rw [Array.getElem?_eq_none]; rw [Zd8]; omega
  by_cases h : j = i
  ·
   subst h; simp [Zd8, hi]
  ·
   rw [if_neg h, e, e]
theorem ZaV (W : World) (n : Nat) (hn : n ≤ 64) : (Instr.makeSlice 37 (.int .i64 (n : Int)) (.int .i64 (n : Int))).run Tryz.prog W = .ok (.slice (some ⟨W.heap.size, 0, none⟩) n n) (W.alloc (.cells (cw n (fun _ => 0)) 27)) := by
 obtain ⟨i0, hi, hz, hs, hb⟩ := info_parts Tryz.infoW
 have := run_makeSlice (P := Tryz.prog) (w := W) 37 27 i0 (.int .u64 0) Tryz.undL hi hz .i64 .i64 n n (by omega) (by omega) (by rw [hs]; omega) (by rw [hb]; omega) (by omega)
 have e : madeCells (Value.int IntKind.u64 0).cells (Int.toNat n * 1) = cw n (fun _ => 0) := by
  apply Array.ext_getElem?
  intro i
  rw [Nat.mul_one, Int.toNat_natCast]
  by_cases h : i < n
  ·
   rw [Zb2 _ h]
   simp [madeCells, h, Value.cells, Nat.mod_one]
  ·
   rw [Array.getElem?_eq_none (by rw [size_madeCells]; omega), Array.getElem?_eq_none (by rw [Zd8]; omega)]
 rw [this, hs, e]
 simp
structure LW (w : World) (v : Value) (n : Nat) (f : Nat → Nat) : Prop where
 ex : ∃ g o c, v = .slice (some ⟨g, o, none⟩) n c ∧ n ≤ c ∧ c ≤ maxLen ∧ g < w.heap.size ∧ ∀ j, j < n → w.cell? ⟨g, o + j, none⟩ = some (.int .u64 (f j))
theorem LW.moved {w w' : World} {v : Value} {n : Nat} {f : Nat → Nat} (h : LW w v n f) (hb : Below w.heap.size w w') : LW w' v n f := by
 obtain ⟨g, o, c, e, h1, h2, hg, hc⟩ := h.ex
 exact ⟨g, o, c, e, h1, h2, Nat.lt_of_lt_of_le hg hb.size, fun j hj => (hb.cell (p := ⟨g, o + j, none⟩) hg).trans (hc j hj)⟩
theorem LW.congr {w : World} {v : Value} {n : Nat} {f g : Nat → Nat} (h : LW w v n f) (e : ∀ j, j < n → f j = g j) : LW w v n g := by
 obtain ⟨b, o, c, e0, h1, h2, hg, hc⟩ := h.ex
 exact ⟨b, o, c, e0, h1, h2, hg, fun j hj => by rw [← e j hj]; exact hc j hj⟩
theorem Zcd {w : World} {g n : Nat} {f : Nat → Nat} (hn : n ≤ 64) (h : w.heap[g]? = some (.cells (cw n f) 27 (0, 0))) : LW w (.slice (some ⟨g, 0, none⟩) n n) n f :=
 ⟨g, 0, n, rfl, Nat.le_refl _, by unfold maxLen; omega, Zab h, fun j hj => by rw [Nat.zero_add]; exact Zac h (Zb2 f hj)⟩
theorem LW.num {w : World} {v : Value} {n : Nat} {f : Nat → Nat} (h : LW w v n f) (hf : ∀ j, f j < 18446744073709551616) : LW w v n (limb (val f n)) :=
 h.congr fun _ hj => (Zcq n (fun j _ => hf j) hj).symm
theorem Zal {n X : Nat} (h : X < 18446744073709551616 ^ n) : val (limb X) n = X := by
 rw [ZeM, Nat.mod_eq_of_lt h]
structure AI (W wr : World) (D n : Nat) (x y gk : Nat → Nat) (k c : Nat) : Prop where
 lt : ∀ j, gk j < 18446744073709551616
 sum : val x k + val y k = val gk k + 18446744073709551616 ^ k * c
 c : c ≤ 1
 cells : wr.heap[D]? = some (.cells (cw n gk) 27 (0, 0))
 but : But D W wr
theorem AI.put {W wr wr' : World} {D n : Nat} {x y gk : Nat → Nat} {k c s c' : Nat} (I : AI W wr D n x y gk k c) (hw : wr'.heap = wr.heap) (hB : But D wr wr') (hs : s < 18446744073709551616) (hc : c' ≤ 1)
  (e : x k + y k + c = s + 18446744073709551616 * c') :
  AI W (wr'.setCell ⟨D, k, none⟩ (.int .u64 s)) D n x y (fun i => if i = k then s else gk i) (k + 1) c' := by
 refine ⟨fun j => ?_, ?_, hc, ?_, (I.but.trans hB).set _ _⟩
 ·
  split
  ·
   exact hs
  ·
   exact I.lt j
 ·
  have h1 : val (fun j => if j = k then s else gk j) k = val gk k := Za0 k (fun j hj => by rw [if_neg (by omega)])
  show val x k + x k * 18446744073709551616 ^ k + (val y k + y k * 18446744073709551616 ^ k) = val (fun j => if j = k then s else gk j) k + (if k = k then s else gk k) * 18446744073709551616 ^ k + 18446744073709551616 ^ (k + 1) * c'
  rw [h1, if_pos rfl, Nat.pow_succ]
  have h2 := I.sum
  grind
 ·
  have h3 : wr'.heap[D]? = some (.cells (cw n gk) 27 (0, 0)) := by rw [hw]; exact I.cells
  have := Zaw (o := k) h3 (.int .u64 s)
  rw [Zd9 gk s] at this
  exact this
structure SI (W wr : World) (D n : Nat) (x y gk : Nat → Nat) (k c : Nat) : Prop where
 lt : ∀ j, gk j < 18446744073709551616
 sum : val x k + 18446744073709551616 ^ k * c = val gk k + val y k
 c : c ≤ 1
 cells : wr.heap[D]? = some (.cells (cw n gk) 27 (0, 0))
 but : But D W wr
theorem SI.put {W wr wr' : World} {D n : Nat} {x y gk : Nat → Nat} {k c s c' : Nat} (I : SI W wr D n x y gk k c) (hw : wr'.heap = wr.heap) (hB : But D wr wr') (hs : s < 18446744073709551616) (hc : c' ≤ 1)
  (e : x k + 18446744073709551616 * c' = s + y k + c) :
  SI W (wr'.setCell ⟨D, k, none⟩ (.int .u64 s)) D n x y (fun i => if i = k then s else gk i) (k + 1) c' := by
 refine ⟨fun j => ?_, ?_, hc, ?_, (I.but.trans hB).set _ _⟩
 ·
  split
  ·
   exact hs
  ·
   exact I.lt j
 ·
  have h1 : val (fun j => if j = k then s else gk j) k = val gk k := Za0 k (fun j hj => by rw [if_neg (by omega)])
  show val x k + x k * 18446744073709551616 ^ k + 18446744073709551616 ^ (k + 1) * c' = val (fun j => if j = k then s else gk j) k + (if k = k then s else gk k) * 18446744073709551616 ^ k + (val y k + y k * 18446744073709551616 ^ k)
  rw [h1, if_pos rfl, Nat.pow_succ]
  have h2 := I.sum
  grind
 ·
  have h3 : wr'.heap[D]? = some (.cells (cw n gk) 27 (0, 0)) := by rw [hw]; exact I.cells
  have := Zaw (o := k) h3 (.int .u64 s)
  rw [Zd9 gk s] at this
  exact this
theorem Zin (x y c : Nat) (hx : x < 18446744073709551616) (hy : y < 18446744073709551616) (hc : c ≤ 1) : ∃ s t d : Nat, t < 18446744073709551616 ∧ d ≤ 1 ∧ x + y + c = t + 18446744073709551616 * d ∧ IntKind.u64.wrap ((x : Int) + (y : Int)) = (s : Int) ∧ IntKind.u64.wrap ((s : Int) + (c : Int)) = (t : Int) ∧
  (((s : Int) < (x : Int) ∧ ¬ (t : Int) < (s : Int) ∧ d = 1) ∨ (¬ (s : Int) < (x : Int) ∧ (t : Int) < (s : Int) ∧ d = 1) ∨ (¬ (s : Int) < (x : Int) ∧ ¬ (t : Int) < (s : Int) ∧ d = 0)) := by
 simp only [IntKind.wrap_u64]
 by_cases h1 : x + y < 18446744073709551616
 ·
  by_cases h2 : x + y + c < 18446744073709551616
  ·
   exact ⟨x + y, x + y + c, 0, by omega, by omega, by omega, by omega, by omega, by omega⟩
  ·
   exact ⟨x + y, x + y + c - 18446744073709551616, 1, by omega, by omega, by omega, by omega, by omega, by omega⟩
 ·
  exact ⟨x + y - 18446744073709551616, x + y + c - 18446744073709551616, 1, by omega, by omega, by omega, by omega, by omega, by omega⟩
theorem Zio (x y c : Nat) (hx : x < 18446744073709551616) (hy : y < 18446744073709551616) (hc : c ≤ 1) : ∃ s t d : Nat, t < 18446744073709551616 ∧ d ≤ 1 ∧ x + 18446744073709551616 * d = t + y + c ∧ IntKind.u64.wrap ((x : Int) - (y : Int)) = (s : Int) ∧ IntKind.u64.wrap ((s : Int) - (c : Int)) = (t : Int) ∧
  (((x : Int) < (y : Int) ∧ ¬ (s : Int) < (c : Int) ∧ d = 1) ∨ (¬ (x : Int) < (y : Int) ∧ (s : Int) < (c : Int) ∧ d = 1) ∨ (¬ (x : Int) < (y : Int) ∧ ¬ (s : Int) < (c : Int) ∧ d = 0)) := by
 simp only [IntKind.wrap_u64]
 by_cases h1 : x < y
 ·
  exact ⟨x + 18446744073709551616 - y, x + 18446744073709551616 - y - c, 1, by omega, by omega, by omega, by omega, by omega, by omega⟩
 ·
  by_cases h2 : x < y + c
  ·
   exact ⟨x - y, x + 18446744073709551616 - y - c, 1, by omega, by omega, by omega, by omega, by omega, by omega⟩
  ·
   exact ⟨x - y, x - y - c, 0, by omega, by omega, by omega, by omega, by omega, by omega⟩
theorem Zkx {n : Nat} (hn : n ≤ 8) (x y : Nat → Nat) (hx : ∀ j, x j < 18446744073709551616) (hy : ∀ j, y j < 18446744073709551616) (w : World) (u v : Value) (hu : LW w u n x) (hv : LW w v n y) :
  Calls Tryz.prog 68 #[u, v] w fun r w' => (∃ g c : Nat, r = .returned (.tuple #[.slice (some ⟨g, 0, none⟩) n n, .int .u64 c]) ∧ ∃ f : Nat → Nat, w'.heap[g]? = some (.cells (cw n f) 27 (0, 0)) ∧ w.heap.size ≤ g ∧ (∀ j, f j < 18446744073709551616) ∧ c ≤ 1 ∧ val x n + val y n = val f n + 18446744073709551616 ^ n * c) ∧ Below w.heap.size w w' := by
 obtain ⟨g1, o1, c1, rfl, _, _, l1, h1⟩ := hu.ex
 obtain ⟨g2, o2, c2, rfl, _, _, l2, h2⟩ := hv.ex
 have H1 := hideP h1
 have H2 := hideP h2
 have HX := hideP hx
 have HY := hideP hy
 have HN := hideP hn
 have hmk := ZaV w n (by omega)
 have ew : IntKind.i64.wrap (n : Int) = (n : Int) := by rw [IntKind.wrap_i64]; omega
 clear h1 h2 hu hv hx hy hn
 go_enter Tryz.func68, Tryz.ntmps68
 go_wp2_with fail
 refine Zaj (fun W0 hW0 => ?_)
 have hD : W0.heap[w.heap.size]? = some (.cells (cw n (fun _ => 0)) 27 (0, 0)) := by
  rw [hW0]
  exact Zaf _ _
 have HBW : Hid (Below w.heap.size w W0) := by
  show Below _ _ _
  rw [hW0]
  repeat first | exact Below.refl _ _ | (refine Below.alloc ?_ (by simp <;> omega) _)
 have HI0 : Hid (AI W0 W0 w.heap.size n x y (fun _ => 0) 0 0) := ⟨fun _ => by decide, by simp [val], by omega, hD, But.refl _ _⟩
 clear hW0 hD hmk
 go_loopw [7, 17] (fun c i wr => ∃ (k cv : Nat) (gk : Nat → Nat), k ≤ n ∧ i = .int .i64 k ∧ c = .int .u64 cv ∧ AI W0 wr w.heap.size n x y gk k cv) (fun _ i _ => n - (intOf i).toNat)
 case atStart => exact ⟨0, 0, fun _ => 0, Nat.zero_le _, rfl, rfl, HI0.out⟩
 case round =>
  obtain ⟨k, cv, gk, hk, rfl, rfl, I⟩ := hrel
  have HI := hideP I
  clear I
  by_cases hlt : k < n
  ·
   have hn := HN.out
   obtain ⟨s, t, d, ht, hd, e, w1, w2, hc⟩ := Zin (x k) (y k) cv (HX.out _) (HY.out _) HI.out.c
   have ca : wr.cell? ⟨g1, o1 + k, none⟩ = some (.int .u64 (x k)) := by
    rw [HI.out.but.cell (show g1 ≠ w.heap.size by omega), HBW.out.cell (p := ⟨g1, o1 + k, none⟩) l1]
    exact H1.out _ hlt
   have cb : wr.cell? ⟨g2, o2 + k, none⟩ = some (.int .u64 (y k)) := by
    rw [HI.out.but.cell (show g2 ≠ w.heap.size by omega), HBW.out.cell (p := ⟨g2, o2 + k, none⟩) l2]
    exact H2.out _ hlt
   have fr : ∀ o, wr.frozen? ⟨w.heap.size, o, none⟩ = false := fun o => Zap HI.out.cells
   have cd := Zac HI.out.cells (Zb2 gk hlt)
   have HP := hideP (HI.out.put (wr' := wr.drew) rfl ((But.refl _ _).drew) ht hd e)
   have hlt' : (k : Int) < n := by omega
   have e4 : IntKind.i64.wrap ((k : Int) + 1) = (k : Int) + 1 := by rw [IntKind.wrap_i64]; omega
   have HKS : Hid (k + 1 ≤ n) := hlt
   generalize x k = xk at *
   generalize y k = yk at *
   clear e ht hd hk hlt hn HI
   rcases hc with ⟨q1, q2, rfl⟩ | ⟨q1, q2, rfl⟩ | ⟨q1, q2, rfl⟩
   all_goals
    go_wp2_with fail
    go_region
    go_wp2_with fail
    refine ⟨⟨k + 1, _, _, HKS.out, by go_num, rfl, HP.out⟩, by have := HKS.out; simp [intOf]; omega⟩
  ·
   have hkn : k = n := by omega
   have hnl : ¬ (k : Int) < n := by omega
   have HJ : Hid (AI W0 wr w.heap.size n x y gk n cv) := hkn ▸ HI.out
   clear hk hlt hkn HI
   go_wp2
   go_ret2
   exact ⟨⟨_, cv, rfl, gk, HJ.out.cells, Nat.le_refl _, HJ.out.lt, HJ.out.c, HJ.out.sum⟩, HBW.out.trans HJ.out.but.below⟩
theorem Zky {n : Nat} (hn : n ≤ 8) (x y : Nat → Nat) (hx : ∀ j, x j < 18446744073709551616) (hy : ∀ j, y j < 18446744073709551616) (w : World) (u v : Value) (hu : LW w u n x) (hv : LW w v n y) :
  Calls Tryz.prog 216 #[u, v] w fun r w' => (∃ g c : Nat, r = .returned (.tuple #[.slice (some ⟨g, 0, none⟩) n n, .int .u64 c]) ∧ ∃ f : Nat → Nat, w'.heap[g]? = some (.cells (cw n f) 27 (0, 0)) ∧ w.heap.size ≤ g ∧ (∀ j, f j < 18446744073709551616) ∧ c ≤ 1 ∧ val x n + 18446744073709551616 ^ n * c = val f n + val y n) ∧ Below w.heap.size w w' := by
 obtain ⟨g1, o1, c1, rfl, _, _, l1, h1⟩ := hu.ex
 obtain ⟨g2, o2, c2, rfl, _, _, l2, h2⟩ := hv.ex
 have H1 := hideP h1
 have H2 := hideP h2
 have HX := hideP hx
 have HY := hideP hy
 have HN := hideP hn
 have hmk := ZaV w n (by omega)
 have ew : IntKind.i64.wrap (n : Int) = (n : Int) := by rw [IntKind.wrap_i64]; omega
 clear h1 h2 hu hv hx hy hn
 go_enter Tryz.func216, Tryz.ntmps216
 go_wp2_with fail
 refine Zaj (fun W0 hW0 => ?_)
 have hD : W0.heap[w.heap.size]? = some (.cells (cw n (fun _ => 0)) 27 (0, 0)) := by
  rw [hW0]
  exact Zaf _ _
 have HBW : Hid (Below w.heap.size w W0) := by
  show Below _ _ _
  rw [hW0]
  repeat first | exact Below.refl _ _ | (refine Below.alloc ?_ (by simp <;> omega) _)
 have HI0 : Hid (SI W0 W0 w.heap.size n x y (fun _ => 0) 0 0) := ⟨fun _ => by decide, by simp [val], by omega, hD, But.refl _ _⟩
 clear hW0 hD hmk
 go_loopw [7, 17] (fun c i wr => ∃ (k cv : Nat) (gk : Nat → Nat), k ≤ n ∧ i = .int .i64 k ∧ c = .int .u64 cv ∧ SI W0 wr w.heap.size n x y gk k cv) (fun _ i _ => n - (intOf i).toNat)
 case atStart => exact ⟨0, 0, fun _ => 0, Nat.zero_le _, rfl, rfl, HI0.out⟩
 case round =>
  obtain ⟨k, cv, gk, hk, rfl, rfl, I⟩ := hrel
  have HI := hideP I
  clear I
  by_cases hlt : k < n
  ·
   have hn := HN.out
   obtain ⟨s, t, d, ht, hd, e, w1, w2, hc⟩ := Zio (x k) (y k) cv (HX.out _) (HY.out _) HI.out.c
   have ca : wr.cell? ⟨g1, o1 + k, none⟩ = some (.int .u64 (x k)) := by
    rw [HI.out.but.cell (show g1 ≠ w.heap.size by omega), HBW.out.cell (p := ⟨g1, o1 + k, none⟩) l1]
    exact H1.out _ hlt
   have cb : wr.cell? ⟨g2, o2 + k, none⟩ = some (.int .u64 (y k)) := by
    rw [HI.out.but.cell (show g2 ≠ w.heap.size by omega), HBW.out.cell (p := ⟨g2, o2 + k, none⟩) l2]
    exact H2.out _ hlt
   have fr : ∀ o, wr.frozen? ⟨w.heap.size, o, none⟩ = false := fun o => Zap HI.out.cells
   have cd := Zac HI.out.cells (Zb2 gk hlt)
   have HP := hideP (HI.out.put (wr' := wr.drew.drew) rfl ((But.refl _ _).drew.drew) ht hd e)
   have hlt' : (k : Int) < n := by omega
   have e4 : IntKind.i64.wrap ((k : Int) + 1) = (k : Int) + 1 := by rw [IntKind.wrap_i64]; omega
   have HKS : Hid (k + 1 ≤ n) := hlt
   generalize x k = xk at *
   generalize y k = yk at *
   clear e ht hd hk hlt hn HI
   rcases hc with ⟨q1, q2, rfl⟩ | ⟨q1, q2, rfl⟩ | ⟨q1, q2, rfl⟩
   all_goals
    go_wp2_with fail
    go_region
    go_wp2_with fail
    go_region
    go_wp2_with fail
    refine ⟨⟨k + 1, _, _, HKS.out, by go_num, rfl, HP.out⟩, by have := HKS.out; simp [intOf]; omega⟩
  ·
   have hkn : k = n := by omega
   have hnl : ¬ (k : Int) < n := by omega
   have HJ : Hid (SI W0 wr w.heap.size n x y gk n cv) := hkn ▸ HI.out
   clear hk hlt hkn HI
   go_wp2
   go_ret2
   exact ⟨⟨_, cv, rfl, gk, HJ.out.cells, Nat.le_refl _, HJ.out.lt, HJ.out.c, HJ.out.sum⟩, HBW.out.trans HJ.out.but.below⟩
theorem ZeV {n : Nat} (hn : n ≤ 8) (X Y : Nat) (hX : X < 18446744073709551616 ^ n) (hY : Y < 18446744073709551616 ^ n) (w : World) (u v : Value) (hu : LW w u n (limb X)) (hv : LW w v n (limb Y)) : Calls Tryz.prog 112 #[u, v] w fun r w' => r = .returned (.bool (decide (X < Y))) ∧ Below w.heap.size w w' := by
 obtain ⟨g1, o1, c1, rfl, _, _, l1, h1⟩ := hu.ex
 obtain ⟨g2, o2, c2, rfl, _, _, l2, h2⟩ := hv.ex
 have H1 := hideP h1
 have H2 := hideP h2
 have HXY : Hid (X < 18446744073709551616 ^ n ∧ Y < 18446744073709551616 ^ n) := ⟨hX, hY⟩
 have HN := hideP hn
 have ew : IntKind.i64.wrap ((n : Int) - 1) = (n : Int) - 1 := by rw [IntKind.wrap_i64]; omega
 clear h1 h2 hu hv hX hY hn
 go_enter Tryz.func112, Tryz.ntmps112
 go_wp2_with fail
 go_loopw [5] (fun i wr => ∃ k : Nat, k ≤ n ∧ i = .int .i64 ((k : Int) - 1) ∧ (∀ j, k ≤ j → j < n → limb X j = limb Y j) ∧ Below w.heap.size w wr) (fun i _ => (intOf i + 1).toNat)
 case atStart => exact ⟨n, Nat.le_refl _, rfl, fun j h1 h2 => absurd h2 (by omega), Below.refl _ _⟩
 case round =>
  obtain ⟨k, hk, rfl, heq, hb⟩ := hrel
  have hn := HN.out
  by_cases hz : 0 < k
  ·
   have ca : wr.cell? ⟨g1, o1 + (k - 1), none⟩ = some (.int .u64 (limb X (k - 1))) := (hb.cell (p := ⟨g1, o1 + (k - 1), none⟩) l1).trans (H1.out _ (by omega))
   have cb : wr.cell? ⟨g2, o2 + (k - 1), none⟩ = some (.int .u64 (limb Y (k - 1))) := (hb.cell (p := ⟨g2, o2 + (k - 1), none⟩) l2).trans (H2.out _ (by omega))
   have HR0 : Hid (limb X (k - 1) ≠ limb Y (k - 1) → decide (limb X (k - 1) < limb Y (k - 1)) = decide (X < Y)) := fun hne => Zmq (m := n) HXY.out.1 HXY.out.2 (by omega) (fun j h1 h2 => heq j (by omega) h2) hne
   have e1 : (k : Int) - 1 = ((k - 1 : Nat) : Int) := by omega
   have HKS : Hid (k - 1 ≤ n ∧ 0 < k) := ⟨by omega, hz⟩
   have HE := hideP heq
   have HB := hideP hb
   have g3 : ((k - 1 : Nat) : Int) < n := by omega
   have e2 : IntKind.i64.wrap (((k - 1 : Nat) : Int) - 1) = ((k - 1 : Nat) : Int) - 1 := by rw [IntKind.wrap_i64]; omega
   rw [e1]
   by_cases hne : limb X (k - 1) = limb Y (k - 1)
   ·
    have HE2 : Hid (∀ j, k - 1 ≤ j → j < n → limb X j = limb Y j) := fun j h1 h2 => by
     by_cases h3 : j = k - 1
     ·
      rw [h3]; exact hne
     ·
      exact heq j (by omega) h2
    rw [hne] at ca
    generalize limb Y (k - 1) = y at *
    generalize limb X (k - 1) = x at *
    generalize hk1 : k - 1 = k1 at *
    clear heq hb hk hz HR0 hne e1 hn
    go_wp2_with fail
    go_region
    go_wp2_with fail
    refine ⟨⟨k1, HKS.out.1, by go_num, HE2.out, HB.out.drew⟩, ?_⟩
    have := HKS.out.2
    simp [intOf] <;> omega
   ·
    have hne2 : ¬ ((limb X (k - 1) : Int) = (limb Y (k - 1) : Int)) := by omega
    have HR := hideP (HR0.out hne)
    generalize limb X (k - 1) = x at *
    generalize limb Y (k - 1) = y at *
    generalize hk1 : k - 1 = k1 at *
    clear heq hb hk hz HR0 hne e1 hn
    go_wp2_with fail
    go_region
    go_wp2_with fail
    go_region
    go_wp2
    go_ret
    refine ⟨?_, HB.out.drew.drew⟩
    rw [← HR.out]
    simp
  ·
   have hk0 : k = 0 := by omega
   subst hk0
   have HXY2 : Hid (decide (X < Y) = false) := by
    show _ = _
    have : X = Y := by
     rw [← Zal HXY.out.1, ← Zal HXY.out.2]
     exact Za0 _ (fun j hj => heq j (by omega) hj)
    rw [this]
    simp
   have HB := hideP hb
   clear heq hb hk hz hn
   simp only [Int.natCast_zero, Int.zero_sub]
   go_wp2
   go_ret
   exact ⟨by rw [HXY2.out]; rfl, HB.out⟩
theorem ZbG {n : Nat} (hn : n ≤ 8) (X Y : Nat) (hX : X < 18446744073709551616 ^ n) (hY : Y < 18446744073709551616 ^ n) (w : World) (u v : Value) (hu : LW w u n (limb X)) (hv : LW w v n (limb Y)) :
  Calls Tryz.prog 216 #[u, v] w fun r w' => (∃ (v' : Value) (c : Nat), r = .returned (.tuple #[v', .int .u64 c]) ∧ LW w' v' n (limb (if X < Y then X + 18446744073709551616 ^ n - Y else X - Y)) ∧ c = if X < Y then 1 else 0) ∧ Below w.heap.size w w' := by
 refine (Zky hn (limb X) (limb Y) (Zaz X) (Zaz Y) w u v hu hv).mono ?_
 rintro r w' ⟨⟨g, c, rfl, f, hg, _, hf, hc, hs⟩, hb⟩
 refine ⟨⟨_, c, rfl, ?_, ?_⟩, hb⟩
 ·
  have h1 := (Zcd (by omega) hg).num hf
  have h2 := ZbK n (fun j _ => hf j)
  rw [Zal hX, Zal hY] at hs
  generalize 18446744073709551616 ^ n = P at *
  generalize val f n = Z at *
  have e : (if X < Y then X + P - Y else X - Y) = Z := by
   rcases (show c = 0 ∨ c = 1 by omega) with rfl | rfl
   ·
    rw [if_neg (by omega)]; omega
   ·
    rw [if_pos (by omega)]; omega
  rw [e]
  exact h1
 ·
  have h2 := ZbK n (fun j _ => hf j)
  rw [Zal hX, Zal hY] at hs
  generalize 18446744073709551616 ^ n = P at *
  generalize val f n = Z at *
  rcases (show c = 0 ∨ c = 1 by omega) with rfl | rfl
  ·
   rw [if_neg (by omega)]
  ·
   rw [if_pos (by omega)]
theorem Zhn {n : Nat} (hn : n ≤ 8) (X Y : Nat) (hX : X < 18446744073709551616 ^ n) (hY : Y < 18446744073709551616 ^ n) (w : World) (u v : Value) (hu : LW w u n (limb X)) (hv : LW w v n (limb Y)) :
  Calls Tryz.prog 68 #[u, v] w fun r w' => (∃ (v' : Value) (c : Nat), r = .returned (.tuple #[v', .int .u64 c]) ∧ LW w' v' n (limb (if X + Y < 18446744073709551616 ^ n then X + Y else X + Y - 18446744073709551616 ^ n)) ∧ c = if X + Y < 18446744073709551616 ^ n then 0 else 1) ∧ Below w.heap.size w w' := by
 refine (Zkx hn (limb X) (limb Y) (Zaz X) (Zaz Y) w u v hu hv).mono ?_
 rintro r w' ⟨⟨g, c, rfl, f, hg, _, hf, hc, hs⟩, hb⟩
 refine ⟨⟨_, c, rfl, ?_, ?_⟩, hb⟩
 ·
  have h1 := (Zcd (by omega) hg).num hf
  have h2 := ZbK n (fun j _ => hf j)
  rw [Zal hX, Zal hY] at hs
  generalize 18446744073709551616 ^ n = P at *
  generalize val f n = Z at *
  have e : (if X + Y < P then X + Y else X + Y - P) = Z := by
   rcases (show c = 0 ∨ c = 1 by omega) with rfl | rfl
   ·
    rw [if_pos (by omega)]; omega
   ·
    rw [if_neg (by omega)]; omega
  rw [e]
  exact h1
 ·
  have h2 := ZbK n (fun j _ => hf j)
  rw [Zal hX, Zal hY] at hs
  generalize 18446744073709551616 ^ n = P at *
  generalize val f n = Z at *
  rcases (show c = 0 ∨ c = 1 by omega) with rfl | rfl
  ·
   rw [if_pos (by omega)]
  ·
   rw [if_neg (by omega)]
theorem Zdv {X M : Nat} (h : M ≤ X) (h2 : X < 2 * M) : X % M = X - M := by
 rw [Nat.mod_eq_sub_mod h, Nat.mod_eq_of_lt (by omega)]
theorem Zgx {n : Nat} (hn : n ≤ 8) (X Y M : Nat) (hX : X < M) (hY : Y < M) (hM : M < 18446744073709551616 ^ n) (w : World) (u v m : Value) (hu : LW w u n (limb X)) (hv : LW w v n (limb Y)) (hm : LW w m n (limb M)) :
  Calls Tryz.prog 166 #[u, v, m] w fun r w' => (∃ v', r = .returned v' ∧ LW w' v' n (limb ((X + Y) % M))) ∧ Below w.heap.size w w' := by
 have C1 := hideP (Zhn hn X Y (by omega) (by omega) w u v hu hv)
 have HM := hideP hm
 have HH : Hid (X < M ∧ Y < M ∧ M < 18446744073709551616 ^ n ∧ n ≤ 8) := ⟨hX, hY, hM, hn⟩
 clear hu hv hm hX hY hM hn
 go_enter Tryz.func166, Tryz.ntmps166
 go_wp2_with fail
 refine C1.out.mono ?_
 rintro r w1 ⟨⟨v1, c, rfl, h1, hc⟩, hb⟩
 have HM1 := hideP (HM.out.moved hb)
 have HB1 := hideP hb
 have H1 := hideP h1
 obtain ⟨qX, qY, qM, qn⟩ := HH.out
 clear h1 hb C1 HM
 by_cases hov : X + Y < 18446744073709551616 ^ n
 ·
  rw [if_pos hov] at hc H1
  subst hc
  have C2 := hideP (ZeV qn (X + Y) M hov qM w1 v1 m H1.out HM1.out)
  by_cases hlt : X + Y < M
  ·
   rw [decide_eq_true hlt] at C2
   have HE := hideP (Nat.mod_eq_of_lt hlt)
   clear qX qY qM qn hov hlt HH
   go_wp2_with fail
   refine C2.out.mono ?_
   rintro r w2 ⟨rfl, hb⟩
   have HB2 := hideP (HB1.out.trans (hb.mono HB1.out.size))
   have H2 := hideP (H1.out.moved hb)
   clear hb
   go_wp2
   go_ret
   exact ⟨⟨_, rfl, by rw [HE.out]; exact H2.out⟩, HB2.out⟩
  ·
   rw [decide_eq_false hlt] at C2
   have HE := hideP (Zdv (X := X + Y) (M := M) (by omega) (by omega))
   have C3 := hideP (fun w2 (h2 : LW w2 v1 n (limb (X + Y))) (h3 : LW w2 m n (limb M)) => ZbG qn (X + Y) M hov qM w2 v1 m h2 h3)
   rw [if_neg hlt] at C3
   clear qX qY qM qn hov hlt HH
   go_wp2_with fail
   refine C2.out.mono ?_
   rintro r w2 ⟨rfl, hb⟩
   have HB2 := hideP (HB1.out.trans (hb.mono HB1.out.size))
   have H2 := hideP (H1.out.moved hb)
   have HM2 := hideP (HM1.out.moved hb)
   clear hb
   go_wp2_with fail
   refine (C3.out _ H2.out HM2.out).mono ?_
   rintro r w3 ⟨⟨v3, c3, rfl, h3, -⟩, hb⟩
   have HB3 := hideP (HB2.out.trans (hb.mono HB2.out.size))
   have H3 := hideP h3
   clear hb h3
   go_wp2
   go_ret
   exact ⟨⟨_, rfl, by rw [HE.out]; exact H3.out⟩, HB3.out⟩
 ·
  rw [if_neg hov] at hc H1
  subst hc
  have HE := hideP (Zdv (X := X + Y) (M := M) (by omega) (by omega))
  have C3 := hideP (ZbG qn (X + Y - 18446744073709551616 ^ n) M (by omega) qM w1 v1 m H1.out HM1.out)
  rw [if_pos (by omega), show X + Y - 18446744073709551616 ^ n + 18446744073709551616 ^ n - M = X + Y - M by omega] at C3
  clear qX qY qM qn hov HH
  go_wp2_with fail
  refine C3.out.mono ?_
  rintro r w3 ⟨⟨v3, c3, rfl, h3, -⟩, hb⟩
  have HB3 := hideP (HB1.out.trans (hb.mono HB1.out.size))
  have H3 := hideP h3
  clear hb h3
  go_wp2
  go_ret
  exact ⟨⟨_, rfl, by rw [HE.out]; exact H3.out⟩, HB3.out⟩
theorem Zgy {n : Nat} (hn : n ≤ 8) (X Y M : Nat) (hX : X < M) (hY : Y < M) (hM : M < 18446744073709551616 ^ n) (w : World) (u v m : Value) (hu : LW w u n (limb X)) (hv : LW w v n (limb Y)) (hm : LW w m n (limb M)) :
  Calls Tryz.prog 143 #[u, v, m] w fun r w' => (∃ v', r = .returned v' ∧ LW w' v' n (limb ((X + (M - Y)) % M))) ∧ Below w.heap.size w w' := by
 have C1 := hideP (ZbG hn X Y (by omega) (by omega) w u v hu hv)
 have HM := hideP hm
 have HH : Hid (X < M ∧ Y < M ∧ M < 18446744073709551616 ^ n ∧ n ≤ 8) := ⟨hX, hY, hM, hn⟩
 clear hu hv hm hX hY hM hn
 go_enter Tryz.func143, Tryz.ntmps143
 go_wp2_with fail
 refine C1.out.mono ?_
 rintro r w1 ⟨⟨v1, c, rfl, h1, hc⟩, hb⟩
 have HM1 := hideP (HM.out.moved hb)
 have HB1 := hideP hb
 have H1 := hideP h1
 obtain ⟨qX, qY, qM, qn⟩ := HH.out
 clear h1 hb C1 HM
 by_cases hlt : X < Y
 ·
  rw [if_pos hlt] at hc H1
  subst hc
  have HE := hideP (show (X + (M - Y)) % M = X + (M - Y) from Nat.mod_eq_of_lt (by omega))
  have C3 := hideP (Zhn qn (X + 18446744073709551616 ^ n - Y) M (by omega) qM w1 v1 m H1.out HM1.out)
  rw [if_neg (by omega), show X + 18446744073709551616 ^ n - Y + M - 18446744073709551616 ^ n = X + (M - Y) by omega] at C3
  clear qX qY qM qn hlt HH
  go_wp2_with fail
  refine C3.out.mono ?_
  rintro r w3 ⟨⟨v3, c3, rfl, h3, -⟩, hb⟩
  have HB3 := hideP (HB1.out.trans (hb.mono HB1.out.size))
  have H3 := hideP h3
  clear hb h3
  go_wp2
  go_ret
  exact ⟨⟨_, rfl, by rw [HE.out]; exact H3.out⟩, HB3.out⟩
 ·
  rw [if_neg hlt] at hc H1
  subst hc
  have HE := hideP (show (X + (M - Y)) % M = X - Y by
   rw [show X + (M - Y) = X - Y + M by omega, Nat.add_mod_right, Nat.mod_eq_of_lt (by omega)])
  clear qX qY qM qn hlt HH
  go_wp2
  go_ret
  exact ⟨⟨_, rfl, by rw [HE.out]; exact H1.out⟩, HB1.out⟩
structure TI (W wr : World) (D n b : Nat) (x gk : Nat → Nat) (k c : Nat) : Prop where
 lt : ∀ j, gk j < 18446744073709551616
 sum : 2 * val x k + b = val gk k + 18446744073709551616 ^ k * c
 c : c ≤ 1
 cells : wr.heap[D]? = some (.cells (cw n gk) 27 (0, 0))
 but : But D W wr
theorem TI.put {W wr : World} {D n b : Nat} {x gk : Nat → Nat} {k c s c' : Nat} (I : TI W wr D n b x gk k c) (hs : s < 18446744073709551616) (hc : c' ≤ 1)
  (e : 2 * x k + c = s + 18446744073709551616 * c') :
  TI W (wr.setCell ⟨D, k, none⟩ (.int .u64 s)) D n b x (fun i => if i = k then s else gk i) (k + 1) c' := by
 refine ⟨fun j => ?_, ?_, hc, ?_, I.but.set _ _⟩
 ·
  split
  ·
   exact hs
  ·
   exact I.lt j
 ·
  have h1 : val (fun j => if j = k then s else gk j) k = val gk k := Za0 k (fun j hj => by rw [if_neg (by omega)])
  show 2 * (val x k + x k * 18446744073709551616 ^ k) + b = val (fun j => if j = k then s else gk j) k + (if k = k then s else gk k) * 18446744073709551616 ^ k + 18446744073709551616 ^ (k + 1) * c'
  rw [h1, if_pos rfl, Nat.pow_succ]
  have h2 := I.sum
  grind
 ·
  have := Zaw (o := k) I.cells (.int .u64 s)
  rw [Zd9 gk s] at this
  exact this
theorem or_bit (x c : Nat) (hc : c ≤ 1) : bits .or .u64 ((2 * x % 18446744073709551616 : Nat) : Int) (c : Int) = ((2 * x % 18446744073709551616 + c : Nat) : Int) := by
 have h := bits_or_u64_nat (2 * x % 18446744073709551616) c (by omega) (by omega)
 have e : 2 * x % 18446744073709551616 ||| c = 2 * x % 18446744073709551616 + c := by
  have h2 : 2 * x % 18446744073709551616 = 2 ^ 1 * (2 * x % 18446744073709551616 / 2) := by omega
  rw [h2, ← Nat.two_pow_add_eq_or_of_lt (show c < 2 ^ 1 by omega)]
 rw [h, e]
theorem ZhE {n : Nat} (hn : n ≤ 8) (X b M : Nat) (hX : X < M) (hbt : b ≤ 1) (hM : M < 18446744073709551616 ^ n) (w : World) (u m : Value) (hu : LW w u n (limb X)) (hm : LW w m n (limb M)) :
  Calls Tryz.prog 226 #[u, .int .u64 b, m] w fun r w' => (∃ v', r = .returned v' ∧ LW w' v' n (limb ((2 * X + b) % M))) ∧ Below w.heap.size w w' := by
 obtain ⟨g1, o1, c1, rfl, _, _, l1, h1⟩ := hu.ex
 have H1 := hideP h1
 have HM := hideP hm
 have HH : Hid (X < M ∧ b ≤ 1 ∧ M < 18446744073709551616 ^ n ∧ n ≤ 8) := ⟨hX, hbt, hM, hn⟩
 have hmk := ZaV w n (by omega)
 have ew : IntKind.i64.wrap (n : Int) = (n : Int) := by rw [IntKind.wrap_i64]; omega
 clear h1 hu hm hX hbt hM hn
 go_enter Tryz.func226, Tryz.ntmps226
 go_wp2_with fail
 refine Zaj (fun W0 hW0 => ?_)
 have hD : W0.heap[w.heap.size]? = some (.cells (cw n (fun _ => 0)) 27 (0, 0)) := by
  rw [hW0]
  exact Zaf _ _
 have HBW : Hid (Below w.heap.size w W0) := by
  show Below _ _ _
  rw [hW0]
  repeat first | exact Below.refl _ _ | (refine Below.alloc ?_ (by simp <;> omega) _)
 have HI0 : Hid (TI W0 W0 w.heap.size n b (limb X) (fun _ => 0) 0 b) := ⟨fun _ => by decide, by simp [val], HH.out.2.1, hD, But.refl _ _⟩
 clear hW0 hD hmk
 go_loopw [8, 17] (fun c i wr => ∃ (k cv : Nat) (gk : Nat → Nat), k ≤ n ∧ i = .int .i64 k ∧ c = .int .u64 cv ∧ TI W0 wr w.heap.size n b (limb X) gk k cv) (fun _ i _ => n - (intOf i).toNat)
 case atStart => exact ⟨0, b, fun _ => 0, Nat.zero_le _, rfl, rfl, HI0.out⟩
 case round =>
  obtain ⟨k, cv, gk, hk, rfl, rfl, I⟩ := hrel
  have HI := hideP I
  clear I
  have hn := HH.out.2.2.2
  by_cases hlt : k < n
  ·
   have hx := Zaz X k
   have hcv := HI.out.c
   have ca : wr.cell? ⟨g1, o1 + k, none⟩ = some (.int .u64 (limb X k)) := by
    rw [HI.out.but.cell (show g1 ≠ w.heap.size by omega), HBW.out.cell (p := ⟨g1, o1 + k, none⟩) l1]
    exact H1.out _ hlt
   have fr : ∀ o, wr.frozen? ⟨w.heap.size, o, none⟩ = false := fun o => Zap HI.out.cells
   have cd := Zac HI.out.cells (Zb2 gk hlt)
   have HP := hideP (HI.out.put (s := 2 * limb X k % 18446744073709551616 + cv) (c' := limb X k / 9223372036854775808) (by omega) (by omega) (by omega))
   have HO := hideP (or_bit (limb X k) cv hcv)
   have w1 : IntKind.u64.wrap ((limb X k : Int) * 2) = ((2 * limb X k % 18446744073709551616 : Nat) : Int) := by rw [IntKind.wrap_u64]; omega
   have HS : Hid ((limb X k : Int) / 9223372036854775808 = ((limb X k / 9223372036854775808 : Nat) : Int)) := by show _ = _; omega
   have hlt' : (k : Int) < n := by omega
   have e4 : IntKind.i64.wrap ((k : Int) + 1) = (k : Int) + 1 := by rw [IntKind.wrap_i64]; omega
   have HKS : Hid (k + 1 ≤ n) := hlt
   generalize limb X k / 9223372036854775808 = sr at *
   generalize 2 * limb X k % 18446744073709551616 = sl at *
   generalize limb X k = xk at *
   clear hk hlt hn HI hx hcv
   go_wp2_with fail
   rw [HO.out, HS.out]
   exact ⟨⟨k + 1, _, _, HKS.out, by go_num, rfl, HP.out⟩, by have := HKS.out; simp [intOf]; omega⟩
  ·
   have hkn : k = n := by omega
   have hnl : ¬ (k : Int) < n := by omega
   have HJ : Hid (TI W0 wr w.heap.size n b (limb X) gk n cv) := hkn ▸ HI.out
   clear hk hlt hkn HI
   obtain ⟨qX, qb, qM, qn⟩ := HH.out
   have hs := HJ.out.sum
   have hvl := ZbK n (fun j _ => HJ.out.lt j)
   rw [Zal (Nat.lt_trans qX qM)] at hs
   have HL := hideP ((Zcd (by omega) HJ.out.cells).num HJ.out.lt)
   have hbw := HBW.out.trans HJ.out.but.below
   have HMr := hideP (HM.out.moved hbw)
   have HB1 := hideP hbw
   have hcv := HJ.out.c
   clear hbw HJ HM HI0 HBW
   generalize val gk n = Z at *
   generalize hP : 18446744073709551616 ^ n = P at *
   rcases (show cv = 0 ∨ cv = 1 by omega) with rfl | rfl
   ·
    have hz : 2 * X + b = Z := by omega
    subst hz
    have C2 := hideP (ZeV qn (2 * X + b) M (by rw [hP]; exact hvl) (by rw [hP]; exact qM) wr _ m HL.out HMr.out)
    by_cases hlt : 2 * X + b < M
    ·
     rw [decide_eq_true hlt] at C2
     have HE := hideP (Nat.mod_eq_of_lt hlt)
     clear qX qb qM qn hs hvl hlt HH hP hn
     go_wp2_with fail
     refine C2.out.mono ?_
     rintro r w2 ⟨rfl, hb⟩
     have HB2 := hideP (HB1.out.trans (hb.mono HB1.out.size))
     have H2 := hideP (HL.out.moved hb)
     clear hb
     go_wp2
     go_ret
     exact ⟨⟨_, rfl, by rw [HE.out]; exact H2.out⟩, HB2.out⟩
    ·
     rw [decide_eq_false hlt] at C2
     have HE := hideP (Zdv (X := 2 * X + b) (M := M) (by omega) (by omega))
     have C3 := hideP (fun w2 v (h2 : LW w2 v n (limb (2 * X + b))) (h3 : LW w2 m n (limb M)) => ZbG qn (2 * X + b) M (by rw [hP]; exact hvl) (by rw [hP]; exact qM) w2 v m h2 h3)
     rw [if_neg hlt] at C3
     clear qX qb qM qn hs hvl hlt HH hP hn
     go_wp2_with fail
     refine C2.out.mono ?_
     rintro r w2 ⟨rfl, hb⟩
     have HB2 := hideP (HB1.out.trans (hb.mono HB1.out.size))
     have H2 := hideP (HL.out.moved hb)
     have HM2 := hideP (HMr.out.moved hb)
     clear hb
     go_wp2_with fail
     refine (C3.out _ _ H2.out HM2.out).mono ?_
     rintro r w3 ⟨⟨v3, c3, rfl, h3, -⟩, hb⟩
     have HB3 := hideP (HB2.out.trans (hb.mono HB2.out.size))
     have H3 := hideP h3
     clear hb h3
     go_wp2
     go_ret
     exact ⟨⟨_, rfl, by rw [HE.out]; exact H3.out⟩, HB3.out⟩
   ·
    have HE := hideP (Zdv (X := 2 * X + b) (M := M) (by omega) (by omega))
    have C3 := hideP (ZbG qn Z M (by rw [hP]; exact hvl) (by rw [hP]; exact qM) wr _ m HL.out HMr.out)
    rw [if_pos (by omega), hP, show Z + P - M = 2 * X + b - M by omega] at C3
    clear qX qb qM qn hs hvl HH hP hn
    go_wp2_with fail
    refine C3.out.mono ?_
    rintro r w3 ⟨⟨v3, c3, rfl, h3, -⟩, hb⟩
    have HB3 := hideP (HB1.out.trans (hb.mono HB1.out.size))
    have H3 := hideP h3
    clear hb h3
    go_wp2
    go_ret
    exact ⟨⟨_, rfl, by rw [HE.out]; exact H3.out⟩, HB3.out⟩
end Go.Proofs.YtcbdbnfgnonacaaGreat
