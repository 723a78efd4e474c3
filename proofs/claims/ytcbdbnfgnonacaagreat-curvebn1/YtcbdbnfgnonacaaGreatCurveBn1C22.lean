/-
 The program's points out of plain ones.
-/
import Derived.Test.YtcbdbnfgnonacaaGreatCurveBn1C21
set_option maxHeartbeats 4000000
set_option maxRecDepth 100000
namespace Go.Proofs.YtcbdbnfgnonacaaGreat
open Go.RowKit Go.Shelf
open P4 (dTimes dOut dAdd dSum dTa dCh dAf P3)
abbrev iY (e : Int) : YV := .one (.v (.int .i64 e))
abbrev pY (p : Nat) (i : Bool) : YV := ptE (.v p) (.v (p + 1)) (.lit i)
def tG (p q : Nat) (i1 i2 : Bool) (e1 e2 : Int) (f : Nat) (xs : List YV) : Option YV := match xs with
 | [.row [.nm 0 [.v 100], .nm 5 [.v 100], .nm 0 [.v 101], .v (.int .i64 1), .nm 1 [.v 102], .nm 8 [.v 110], .nm 1 [.v 111], .nm 1 [.v 113], .cx (.lit false)], .row [.nm 1 [.v a], .nm 1 [.v b], .cx (.lit c)]] =>
  if f = 36 ∧ a = p ∧ b = p + 1 ∧ c = i1 then some (iY e1) else if f = 36 ∧ a = q ∧ b = q + 1 ∧ c = i2 then some (iY e2) else none
 | _ => none
def tT (i : Bool) (k : Nat) (f : Nat) (xs : List YV) : Option YV := match xs with
 | [.row [.nm 0 [.v 100], .nm 5 [.v 100], .nm 0 [.v 101], .v (.int .i64 1), .nm 1 [.v 102], .nm 8 [.v 110], .nm 1 [.v 111], .nm 1 [.v 113], .cx (.lit false)], .row [.nm 1 [.v 0], .nm 1 [.v 1], .cx (.lit c)], .one (.nm 8 [.v t])] =>
  if f = 116 ∧ c = i ∧ t = k then some (ptE (.v 5) (.v 6) (.at_ 0)) else none
 | _ => none
theorem ZjO {n M : Nat} {hn : 2 ≤ n} (hM : FM n M) {v : Nat → Nat} {bo : Nat → Bool} {β : Nat → Nat} {V : World} {cv pv : Value} {X Y : EX} {i : Bool} {e : Int} (hB : dD n M v bo (.v 102) < M) (h1 : (bD n hn M v bo).vd β V K1 cv) (h2 : (bD n hn M v bo).vd β V (ptE X Y (.lit i)) pv) (hp : dD n M v bo X < 18446744073709551616 ^ n ∧ dD n M v bo Y < 18446744073709551616 ^ n ∧ goodD M (dD n M v bo X) (dD n M v bo Y) (dD n M v bo (.v 102)) i = e) :
  Calls Tryz.prog 36 #[cv, pv] V fun r w' => (∃ u, r = .returned u ∧ (bD n hn M v bo).vd β w' (iY e) u) ∧ Below V.heap.size V w' := by
 obtain ⟨l, rfl, h1⟩ := h1
 obtain ⟨m, rfl, h2⟩ := h2
 match l, h1, m, h2 with
 | [a0, a1, a2, a3, a4, a5, a6, a7, a8], ⟨g0, g1, g2, g3, g4, g5, g6, g7, g8, _⟩, [b0, b1, b2], ⟨k0, k1, k2, _⟩ =>
  obtain ⟨fo, rfl, hfo⟩ := g1
  have e3 : a3 = .int .i64 1 := g3
  have e8 : a8 = .bool false := g8
  have e2 : b2 = .bool i := k2
  have q5 : LW V a5 4 (limb (dD n M v bo (.v 110))) := g5
  have q6 : LL V a6 n [dD n M v bo (.v 111)] := g6
  have q7 : LL V a7 n [dD n M v bo (.v 113)] := g7
  subst e3 e8 e2
  have := Zgb hn hM _ _ _ i hp.1 hp.2.1 V a0 a2 a4 a5 a6 a7 (.bool false) b0 b1 fo ⟨a0, fo, a2, rfl, g0, g2, hfo⟩ g0 g4 hB ⟨q5.isSlice, q5.oneC⟩ ⟨q6.isSlice, q6.oneC⟩ ⟨q7.isSlice, q7.oneC⟩ ⟨rfl, rfl⟩ k0 k1
  exact this.mono fun r w' h => ⟨⟨_, h.1, congrArg (Value.int .i64) hp.2.2⟩, h.2⟩
abbrev GOk (n M : Nat) (va : Nat → Nat) (bo : Nat → Bool) (p B : Nat) (i : Bool) (e : Int) : Prop := dD n M va bo (.v p) < 18446744073709551616 ^ n ∧ dD n M va bo (.v (p + 1)) < 18446744073709551616 ^ n ∧ goodD M (dD n M va bo (.v p)) (dD n M va bo (.v (p + 1))) B i = e
theorem tG_ok {n M : Nat} {hn : 2 ≤ n} (hM : FM n M) {v : Nat → Nat} {bo : Nat → Bool} {w : World} {p q : Nat} {i1 i2 : Bool} {e1 e2 : Int} (hB : dD n M v bo (.v 102) < M)
  (hp : GOk n M v bo p (dD n M v bo (.v 102)) i1 e1)
  (hq : GOk n M v bo q (dD n M v bo (.v 102)) i2 e2) :
  TOK2 Tryz.prog (bD n hn M v bo) (tG p q i1 i2 e1 e2) w := fun f xs y h => by
 unfold tG at h
 split at h
 ·
  split at h
  ·
   rename_i e
   obtain ⟨rfl, rfl, rfl, rfl⟩ := e
   cases h
   refine ⟨en Tryz.func36, fun β V vs hV hvs => ?_⟩
   match vs, hvs with
   | [a, b], ⟨h1, h2, _⟩ => exact ZjO hM hB h1 h2 hp
  ·
   split at h
   ·
    rename_i e
    obtain ⟨rfl, rfl, rfl, rfl⟩ := e
    cases h
    refine ⟨en Tryz.func36, fun β V vs hV hvs => ?_⟩
    match vs, hvs with
    | [a, b], ⟨h1, h2, _⟩ => exact ZjO hM hB h1 h2 hq
   ·
    cases h
 ·
  cases h
abbrev vG (x y u v a b X Y U V k B R bx by_ : Nat) : Nat → Nat := fun i => if i = 0 then x else if i = 1 then y else if i = 3 then u else if i = 4 then v else if i = 5 then a else if i = 6 then b else if i = 50 then X else if i = 51 then Y else if i = 53 then U else if i = 54 then V else if i = 60 then k else if i = 102 then B else if i = 110 then R else if i = 111 then bx else if i = 113 then by_ else 0
abbrev vH (x y u v B R bx by_ : Nat) := vG x y u v 0 0 0 0 0 0 0 B R bx by_
theorem vG_lt {x y u v a b X Y U V k B R bx by_ M : Nat} (h0 : 0 < M) (hx : x < M ∧ y < M) (hu : u < M ∧ v < M) (ha : a < M ∧ b < M) (hB : B < M ∧ bx < M ∧ by_ < M) (i : Nat) (hi : flD i = true) : vG x y u v a b X Y U V k B R bx by_ i < M := by
 have n1 : i ≠ 50 := fun e => by subst e; revert hi; decide
 have n2 : i ≠ 51 := fun e => by subst e; revert hi; decide
 have n3 : i ≠ 53 := fun e => by subst e; revert hi; decide
 have n4 : i ≠ 54 := fun e => by subst e; revert hi; decide
 have n5 : i ≠ 60 := fun e => by subst e; revert hi; decide
 have n6 : i ≠ 110 := fun e => by subst e; revert hi; decide
 unfold vG
 rw [if_neg n1, if_neg n2, if_neg n3, if_neg n4, if_neg n5, if_neg n6]
 repeat' split
 all_goals first | exact hx.1 | exact hx.2 | exact hu.1 | exact hu.2 | exact ha.1 | exact ha.2 | exact hB.1 | exact hB.2.1 | exact hB.2.2 | exact h0
theorem DCv.vdG {w : World} {cv : Value} {n M B R bx by_ : Nat} {hn : 2 ≤ n} {x y u v a b X Y U V k : Nat} {bo : Nat → Bool} (h : DCv w cv n M B R bx by_) : (bD n hn M (vG x y u v a b X Y U V k B R bx by_) bo).vd (fun _ => 0) w K1 cv := by
 obtain ⟨mv, fo, tv, b, r, x, y, rfl, hF, h2, h3, h4, h5⟩ := h.ex
 obtain ⟨mv', fo', tv', e, h6, h7, h8⟩ := hF.ex
 cases e
 exact ⟨[mv, .int .u64 fo, tv, .int .i64 1, b, r, x, y, .bool false], rfl, h6, ⟨fo, rfl, h8⟩, h7, rfl, h2, h3, h4, h5, rfl, trivial⟩
theorem ZbE (M x y B : Nat) (i : Bool) : goodD M x y B i = 0 ∨ goodD M x y B i = 70 ∨ goodD M x y B i = 71 := by
 unfold goodD
 repeat' split
 all_goals first | exact Or.inl rfl | exact Or.inr (Or.inl rfl) | exact Or.inr (Or.inr rfl)
theorem Zbr {M x y B : Nat} {i : Bool} (h : goodD M x y B i = 0) : x < M ∧ y < M := by
 unfold goodD at h
 split at h
 ·
  rename_i hc
  exact ⟨hc.1, hc.2.1⟩
 ·
  exact absurd h (by decide)
abbrev nilP : Value := .agg #[.slice none 0 0, .slice none 0 0, .bool false]
abbrev zY : YV := .row [.v (.slice none 0 0), .v (.slice none 0 0), .cx (.lit false)]
noncomputable abbrev runG2 (XT : Nat → List YV → Option YV) (p q : Nat) (i1 i2 : Bool) (e1 e2 : Int) (G : List (CX × Bool)) (fn : Func) (args : List YV) : Option YV := runD G (aheadY (tG p q i1 i2 e1 e2) (aheadY XT (aheadY (tZ G flD) tO))) fn args
abbrev kY (t : Nat) : YV := .one (.nm 8 [.v t])
section
set_option maxRecDepth 100000
theorem rAdd1 (i j : Bool) (e2 : Int) : runG2 noY 50 53 i j 70 e2 [] Tryz.f39 [K1, pY 50 i, pY 53 j] = some (.tup zY (iY 70)) := by cases i <;> cases j <;> kernel_rfl
theorem rAdd2 (i j : Bool) (e2 : Int) : runG2 noY 50 53 i j 71 e2 [] Tryz.f39 [K1, pY 50 i, pY 53 j] = some (.tup zY (iY 71)) := by cases i <;> cases j <;> kernel_rfl
theorem rAdd3 (i j : Bool) : runG2 noY 0 53 i j 0 70 [] Tryz.f39 [K1, pY 0 i, pY 53 j] = some (.tup zY (iY 70)) := by cases i <;> cases j <;> kernel_rfl
theorem rAdd4 (i j : Bool) : runG2 noY 0 53 i j 0 71 [] Tryz.f39 [K1, pY 0 i, pY 53 j] = some (.tup zY (iY 71)) := by cases i <;> cases j <;> kernel_rfl
theorem rAdd5 (j : Bool) : runG2 noY 0 3 true j 0 0 [] Tryz.f39 [K1, pY 0 true, pY 3 j] = some (.tup (pY 3 j) (iY 0)) := by cases j <;> kernel_rfl
theorem rAdd6 : runG2 noY 0 3 false true 0 0 [] Tryz.f39 [K1, pY 0 false, pY 3 true] = some (.tup (pY 0 false) (iY 0)) := by kernel_rfl
theorem rAdd7 : runG2 noY 0 3 false false 0 0 [(.lk 0 (.v 0) (.v 3), false)] Tryz.f39 [K1, pY 0 false, pY 3 false] = some (.tup (ptE (suX suS) (suY suS) (.lit false)) (iY 0)) := by kernel_rfl
theorem rAdd8 : runG2 noY 0 3 false false 0 0 [(.lk 0 (.v 0) (.v 3), true), (zrE (aE (.v 1) (.v 4)), false)] Tryz.f39 [K1, pY 0 false, pY 3 false] = some (.tup (ptE (suX suT) (suY suT) (.lit false)) (iY 0)) := by kernel_rfl
theorem rAdd9 : runG2 noY 0 3 false false 0 0 [(.lk 0 (.v 0) (.v 3), true), (zrE (aE (.v 1) (.v 4)), true)] Tryz.f39 [K1, pY 0 false, pY 3 false] = some (.tup (ptE (.c 0) (.c 0) (.lit true)) (iY 0)) := by kernel_rfl
theorem rNeg1 (i : Bool) (e2 : Int) : runG2 noY 50 53 i false 70 e2 [] Tryz.f42 [K1, pY 50 i] = some (.tup zY (iY 70)) := by cases i <;> kernel_rfl
theorem rNeg2 (i : Bool) (e2 : Int) : runG2 noY 50 53 i false 71 e2 [] Tryz.f42 [K1, pY 50 i] = some (.tup zY (iY 71)) := by cases i <;> kernel_rfl
theorem rNeg3 (e2 : Int) : runG2 noY 0 53 true false 0 e2 [] Tryz.f42 [K1, pY 0 true] = some (.tup (pY 0 true) (iY 0)) := by kernel_rfl
theorem rNeg4 (e2 : Int) : runG2 noY 0 53 false false 0 e2 [] Tryz.f42 [K1, pY 0 false] = some (.tup (ptE (.v 0) (sbE (.c 0) (.v 1)) (.lit false)) (iY 0)) := by kernel_rfl
theorem rMul1 (i : Bool) (e2 : Int) : runG2 noY 50 53 i false 70 e2 [] Tryz.f44 [K1, pY 50 i, kY 60] = some (.tup zY (iY 70)) := by cases i <;> kernel_rfl
theorem rMul2 (i : Bool) (e2 : Int) : runG2 noY 50 53 i false 71 e2 [] Tryz.f44 [K1, pY 50 i, kY 60] = some (.tup zY (iY 71)) := by cases i <;> kernel_rfl
theorem rMul3 (i : Bool) (e2 : Int) : runG2 (tT i 60) 0 53 i false 0 e2 [] Tryz.f44 [K1, pY 0 i, kY 60] = some (.tup (ptE (.v 5) (.v 6) (.at_ 0)) (iY 0)) := by cases i <;> kernel_rfl
theorem rGrp1 (i : Bool) (e2 : Int) : runG2 noY 50 53 i false 70 e2 [] Tryz.f37 [K1, pY 50 i] = some (iY 70) := by cases i <;> kernel_rfl
theorem rGrp2 (i : Bool) (e2 : Int) : runG2 noY 50 53 i false 71 e2 [] Tryz.f37 [K1, pY 50 i] = some (iY 71) := by cases i <;> kernel_rfl
theorem rGrp3 (i : Bool) (e2 : Int) : runG2 (tT i 110) 0 53 i false 0 e2 [(.at_ 0, true)] Tryz.f37 [K1, pY 0 i] = some (iY 0) := by cases i <;> kernel_rfl
theorem rGrp4 (i : Bool) (e2 : Int) : runG2 (tT i 110) 0 53 i false 0 e2 [(.at_ 0, false)] Tryz.f37 [K1, pY 0 i] = some (iY 72) := by cases i <;> kernel_rfl
end
theorem DCv.of {w : World} {cv : Value} {n M : Nat} {hn : 2 ≤ n} {va : Nat → Nat} {bo : Nat → Bool} {β : Nat → Nat} (h : (bD n hn M va bo).vd β w K1 cv) : DCv w cv n M (dD n M va bo (.v 102)) (dD n M va bo (.v 110)) (dD n M va bo (.v 111)) (dD n M va bo (.v 113)) := by
 obtain ⟨l, rfl, h⟩ := h
 match l, h with
 | [a0, a1, a2, a3, a4, a5, a6, a7, a8], ⟨g0, g1, g2, g3, g4, g5, g6, g7, g8, _⟩ =>
  obtain ⟨fo, rfl, hfo⟩ := g1
  have e3 : a3 = .int .i64 1 := g3
  have e8 : a8 = .bool false := g8
  subst e3 e8
  exact ⟨a0, fo, a2, a4, a5, a6, a7, rfl, ⟨a0, fo, a2, rfl, g0, g2, hfo⟩, g4, g5, g6, g7⟩
theorem QD.ofβ {w : World} {v : Value} {n M : Nat} {hn : 2 ≤ n} {va : Nat → Nat} {bo : Nat → Bool} {β : Nat → Nat} {x y : EX} {c : CX} (h : (bD n hn M va bo).vd β w (ptE x y c) v) : QD w v n (dD n M va bo x) (dD n M va bo y) ((alD n M va bo).cx c) := by
 obtain ⟨l, rfl, h⟩ := h
 match l, h with
 | [a, b, c], ⟨h1, h2, h3, _⟩ => exact ⟨a, b, by rw [show c = .bool _ from h3]; rfl, h1, h2⟩
theorem Zln {n M : Nat} {hn : 2 ≤ n} (hM : FM n M) {v : Nat → Nat} {bo : Nat → Bool} {β : Nat → Nat} {V : World} {cv pv kv : Value} {X Y t : EX} {i : Bool} {q : P3} (hB : dD n M v bo (.v 102) < M ∧ dD n M v bo (.v 111) < M ∧ dD n M v bo (.v 113) < M) (hx : dD n M v bo X < M ∧ dD n M v bo Y < M) (h1 : (bD n hn M v bo).vd β V K1 cv) (h2 : (bD n hn M v bo).vd β V (ptE X Y (.lit i)) pv) (h3 : (bD n hn M v bo).vd β V (.one (.nm 8 [t])) kv) (hq : dTimes M (dD n M v bo X) (dD n M v bo Y) i (dD n M v bo t) 256 = q) :
  Calls Tryz.prog 116 #[cv, pv, kv] V fun r w' => (∃ u, r = .returned u ∧ QD w' u n q.1 q.2.1 q.2.2) ∧ Below V.heap.size V w' := by
 subst hq
 exact Zgk hn hM hB V cv pv kv _ _ _ hx.1 hx.2 _ (DCv.of h1) (QD.ofβ h2) h3
theorem tT_ok {n M : Nat} {hn : 2 ≤ n} (hM : FM n M) {v : Nat → Nat} {bo : Nat → Bool} {w : World} {i : Bool} {k : Nat} (hB : dD n M v bo (.v 102) < M ∧ dD n M v bo (.v 111) < M ∧ dD n M v bo (.v 113) < M) (hx : dD n M v bo (.v 0) < M ∧ dD n M v bo (.v 1) < M)
  (hq : dTimes M (dD n M v bo (.v 0)) (dD n M v bo (.v 1)) i (dD n M v bo (.v k)) 256 = (dD n M v bo (.v 5), dD n M v bo (.v 6), bo 0)) : TOK2 Tryz.prog (bD n hn M v bo) (tT i k) w := fun f xs y h => by
 unfold tT at h
 split at h
 ·
  split at h
  ·
   rename_i e
   obtain ⟨rfl, rfl, rfl⟩ := e
   cases h
   refine ⟨en Tryz.func116, fun β V vs hV hvs => ?_⟩
   match vs, hvs with
   | [a, b, c], ⟨h1, h2, h3, _⟩ =>
    refine (Zln hM hB hx h1 h2 h3 hq).mono fun r w' h => ⟨?_, h.2⟩
    obtain ⟨⟨u, e, h⟩, _⟩ := h
    obtain ⟨a, b, rfl, h1, h2⟩ := h.ex
    exact ⟨_, e, [a, b, .bool (bo 0)], rfl, h1, h2, rfl, trivial⟩
  ·
   cases h
 ·
  cases h
theorem Zf1 {w : World} {u : Value} {n M : Nat} {hn : 2 ≤ n} {va : Nat → Nat} {bo : Nat → Bool} {e : Int} (h : (bD n hn M va bo).vd (fun _ => 0) w (.tup zY (iY e)) u) : u = .tuple #[nilP, .int .i64 e] := by
 obtain ⟨a, b, rfl, ⟨l, rfl, h⟩, h2⟩ := h
 match l, h with
 | [s, t, i], ⟨h3, h4, h5, _⟩ =>
  have h2 : b = .int .i64 e := h2
  have h3 : s = .slice none 0 0 := h3
  have h4 : t = .slice none 0 0 := h4
  have h5 : i = .bool false := h5
  subst h2 h3 h4 h5
  rfl
theorem ZjP {w : World} {u : Value} {n M : Nat} {hn : 2 ≤ n} {va : Nat → Nat} {bo : Nat → Bool} {e : Int} {x y : EX} {c : CX} (h : (bD n hn M va bo).vd (fun _ => 0) w (.tup (ptE x y c) (iY e)) u) : ∃ t, u = .tuple #[t, .int .i64 e] ∧ QD w t n (dD n M va bo x) (dD n M va bo y) ((alD n M va bo).cx c) := by
 obtain ⟨a, b, rfl, h1, h2⟩ := h
 have h2 : b = .int .i64 e := h2
 subst h2
 exact ⟨a, rfl, QD.ofβ h1⟩
def PtE (w : World) (r : Ending) (n : Nat) (q : P3) (e : Int) : Prop := ∃ t, r = .returned (.tuple #[t, .int .i64 e]) ∧ (e = 0 → QD w t n q.1 q.2.1 q.2.2) ∧ (e ≠ 0 → t = nilP)
theorem Zel {M x y : Nat} {i : Bool} {k T : Nat} (hm : 0 < M) (hx : x < M ∧ y < M) : (dTimes M x y i k T).1 < M ∧ (dTimes M x y i k T).2.1 < M := by
 unfold dTimes
 split
 ·
  exact hx
 ·
  unfold dOut
  split
  ·
   exact ⟨hm, hm⟩
  ·
   exact ⟨Nat.mod_lt _ hm, Nat.mod_lt _ hm⟩
section
variable {n M B R bx by_ : Nat} (hn : 2 ≤ n) (hM : FM n M) (hB : B < M ∧ bx < M ∧ by_ < M) {w : World} {cv : Value} (hC : DCv w cv n M B R bx by_)
include hn hM hB
theorem Zcc (x y u v a b X Y U V k : Nat) (hx : x < M ∧ y < M) (hu : u < M ∧ v < M) (ha : a < M ∧ b < M) {bo : Nat → Bool} {XT : Nat → List YV → Option YV} {p q : Nat} {i1 i2 : Bool} {e1 e2 : Int} {G : List (CX × Bool)} (hG : ∀ z ∈ G, (alD n M (vG x y u v a b X Y U V k B R bx by_) bo).cx z.1 = z.2)
  (hT : TOK2 Tryz.prog (bD n hn M (vG x y u v a b X Y U V k B R bx by_) bo) XT w)
  (hp : GOk n M (vG x y u v a b X Y U V k B R bx by_) bo p B i1 e1)
  (hq : GOk n M (vG x y u v a b X Y U V k B R bx by_) bo q B i2 e2)
  {f : Nat} {fn : Func} (hf : Tryz.prog.funcs[f]? = some fn) {args : List YV} {z : YV} (h : runG2 XT p q i1 i2 e1 e2 G fn args = some z) {vs : List Value} (hvs : (bD n hn M (vG x y u v a b X Y U V k B R bx by_) bo).vds (fun _ => 0) w args vs) :
  Calls Tryz.prog f vs.toArray w fun e w' => (∃ u', e = .returned u' ∧ (bD n hn M (vG x y u v a b X Y U V k B R bx by_) bo).vd (fun _ => 0) w' z u') ∧ Below w.heap.size w w' :=
 Zh7 hn hM (vG_lt hM.pos hx hu ha hB) G hG (ZbA (tG_ok hM hB.1 hp hq) (ZbA hT (ZbA (ZmP hM (vG_lt hM.pos hx hu ha hB) hG) (tO_ok hM)))) hf h hvs
include hC
theorem Znf {x y u v : Nat} {i j : Bool} {pv qv : Value} (hx : x < 18446744073709551616 ^ n ∧ y < 18446744073709551616 ^ n) (hu : u < 18446744073709551616 ^ n ∧ v < 18446744073709551616 ^ n) (hP : QD w pv n x y i) (hQ : QD w qv n u v j) :
  Calls Tryz.prog 39 #[cv, pv, qv] w fun r w' => PtE w' r n (dAdd M x y i u v j) (if goodD M x y B i = 0 then goodD M u v B j else goodD M x y B i) ∧ Below w.heap.size w w' := by
 have h0 := hM.pos
 have lt : ∀ {a : Nat}, a < M → a < 18446744073709551616 ^ n := fun h => Nat.lt_trans h hM.lt
 obtain ⟨xv, yv, rfl, px, py⟩ := hP.ex
 obtain ⟨uv, vv, rfl, pu, pv2⟩ := hQ.ex
 have bad : ∀ e : Int, e ≠ 0 → goodD M x y B i = e → runG2 noY 50 53 i j e (goodD M u v B j) [] Tryz.f39 [K1, pY 50 i, pY 53 j] = some (.tup zY (iY e)) → Calls Tryz.prog 39 #[cv, .agg #[xv, yv, .bool i], .agg #[uv, vv, .bool j]] w fun r w' => PtE w' r n (dAdd M x y i u v j) e ∧ Below w.heap.size w w' := fun e h1 h2 h =>
  (Zcc hn hM hB 0 0 0 0 0 0 x y u v 0 ⟨h0, h0⟩ ⟨h0, h0⟩ ⟨h0, h0⟩ (bo := fun _ => false) (by simp) (Zdq w) (p := 50) (q := 53) ⟨hx.1, hx.2, h2⟩ ⟨hu.1, hu.2, rfl⟩ (by kernel_rfl) h (vs := [cv, .agg #[xv, yv, .bool i], .agg #[uv, vv, .bool j]]) ⟨hC.vdG, ⟨[xv, yv, .bool i], rfl, px, py, rfl, trivial⟩, ⟨[uv, vv, .bool j], rfl, pu, pv2, rfl, trivial⟩, trivial⟩).mono fun r w' h3 => ⟨by
   obtain ⟨⟨t, e3, h3⟩, _⟩ := h3
   exact ⟨nilP, by rw [e3, Zf1 h3], fun e4 => absurd e4 h1, fun _ => rfl⟩, h3.2⟩
 have bad2 : ∀ e : Int, e ≠ 0 → goodD M x y B i = 0 → goodD M u v B j = e → runG2 noY 0 53 i j 0 e [] Tryz.f39 [K1, pY 0 i, pY 53 j] = some (.tup zY (iY e)) → Calls Tryz.prog 39 #[cv, .agg #[xv, yv, .bool i], .agg #[uv, vv, .bool j]] w fun r w' => PtE w' r n (dAdd M x y i u v j) e ∧ Below w.heap.size w w' := fun e h1 h0' h2 h =>
  (Zcc hn hM hB x y 0 0 0 0 0 0 u v 0 (Zbr h0') ⟨h0, h0⟩ ⟨h0, h0⟩ (bo := fun _ => false) (by simp) (Zdq w) (p := 0) (q := 53) ⟨hx.1, hx.2, h0'⟩ ⟨hu.1, hu.2, h2⟩ (by kernel_rfl) h (vs := [cv, .agg #[xv, yv, .bool i], .agg #[uv, vv, .bool j]]) ⟨hC.vdG, ⟨[xv, yv, .bool i], rfl, px, py, rfl, trivial⟩, ⟨[uv, vv, .bool j], rfl, pu, pv2, rfl, trivial⟩, trivial⟩).mono fun r w' h3 => ⟨by
   obtain ⟨⟨t, e3, h3⟩, _⟩ := h3
   exact ⟨nilP, by rw [e3, Zf1 h3], fun e4 => absurd e4 h1, fun _ => rfl⟩, h3.2⟩
 have good : ∀ (G : List (CX × Bool)) (z1 z2 : EX) (c : CX) (i' j' : Bool), i = i' → j = j' → goodD M x y B i' = 0 → goodD M u v B j' = 0 → (∀ z ∈ G, (alD n M (vH x y u v B R bx by_) (fun _ => false)).cx z.1 = z.2) → runG2 noY 0 3 i' j' 0 0 G Tryz.f39 [K1, pY 0 i', pY 3 j'] = some (.tup (ptE z1 z2 c) (iY 0)) → dAdd M x y i' u v j' = (dD n M (vH x y u v B R bx by_) (fun _ => false) z1, dD n M (vH x y u v B R bx by_) (fun _ => false) z2, (alD n M (vH x y u v B R bx by_) (fun _ => false)).cx c) → Calls Tryz.prog 39 #[cv, .agg #[xv, yv, .bool i], .agg #[uv, vv, .bool j]] w fun r w' => PtE w' r n (dAdd M x y i u v j) 0 ∧ Below w.heap.size w w' := by
  intro G z1 z2 c i' j' rfl rfl h1 h2 hG h hd
  exact (Zcc hn hM hB x y u v 0 0 0 0 0 0 0 (Zbr h1) (Zbr h2) ⟨h0, h0⟩ (bo := fun _ => false) (by exact hG) (Zdq w) (p := 0) (q := 3) ⟨hx.1, hx.2, h1⟩ ⟨hu.1, hu.2, h2⟩ (by kernel_rfl) h (vs := [cv, .agg #[xv, yv, .bool i], .agg #[uv, vv, .bool j]]) ⟨hC.vdG, ⟨[xv, yv, .bool i], rfl, px, py, rfl, trivial⟩, ⟨[uv, vv, .bool j], rfl, pu, pv2, rfl, trivial⟩, trivial⟩).mono fun r w' h3 => ⟨by
   obtain ⟨⟨t, e3, h3⟩, _⟩ := h3
   obtain ⟨t2, e4, h4⟩ := ZjP h3
   exact ⟨t2, by rw [e3, e4], fun _ => by rw [hd]; exact h4, fun e5 => absurd rfl e5⟩, h3.2⟩
 rcases ZbE M x y B i with h1 | h1 | h1
 ·
  rw [if_pos h1]
  rcases ZbE M u v B j with h2 | h2 | h2
  ·
   rw [h2]
   cases i with
   | true => exact good [] _ _ _ true j rfl rfl h1 h2 (by simp) (rAdd5 j) rfl
   | false =>
    cases j with
    | true => exact good [] _ _ _ false true rfl rfl h1 h2 (by simp) rAdd6 rfl
    | false =>
     have e0 : dAdd M x y false u v false = dSum M x y u v := rfl
     by_cases hxu : x = u
     ·
      by_cases hyv : aD M y v = 0
      ·
       refine good [(.lk 0 (.v 0) (.v 3), true), (zrE (aE (.v 1) (.v 4)), true)] _ _ _ false false rfl rfl h1 h2 (fun z hz => by rcases List.mem_cons.1 hz with rfl | hz; exact decide_eq_true hxu; cases List.mem_singleton.1 hz; exact decide_eq_true hyv) rAdd9 ?_
       rw [e0]
       unfold dSum
       rw [if_pos hxu, if_pos hyv]
       rfl
      ·
       refine good [(.lk 0 (.v 0) (.v 3), true), (zrE (aE (.v 1) (.v 4)), false)] _ _ _ false false rfl rfl h1 h2 (fun z hz => by rcases List.mem_cons.1 hz with rfl | hz; exact decide_eq_true hxu; cases List.mem_singleton.1 hz; exact decide_eq_false hyv) rAdd8 ?_
       rw [e0]
       unfold dSum
       rw [if_pos hxu, if_neg hyv]
       rfl
     ·
      refine good [(.lk 0 (.v 0) (.v 3), false)] _ _ _ false false rfl rfl h1 h2 (fun z hz => by cases List.mem_singleton.1 hz; exact decide_eq_false hxu) rAdd7 ?_
      rw [e0]
      unfold dSum
      rw [if_neg hxu]
      rfl
  ·
   rw [h2]
   exact bad2 70 (by decide) h1 h2 (rAdd3 i j)
  ·
   rw [h2]
   exact bad2 71 (by decide) h1 h2 (rAdd4 i j)
 ·
  rw [if_neg (by rw [h1]; decide), h1]
  exact bad 70 (by decide) h1 (rAdd1 i j _)
 ·
  rw [if_neg (by rw [h1]; decide), h1]
  exact bad 71 (by decide) h1 (rAdd2 i j _)
def dNeg (M x y : Nat) (i : Bool) : P3 := if i = true then (x, y, true) else (x, (0 + (M - y)) % M, false)
theorem Zng {x y : Nat} {i : Bool} {pv : Value} (hx : x < 18446744073709551616 ^ n ∧ y < 18446744073709551616 ^ n) (hP : QD w pv n x y i) :
  Calls Tryz.prog 42 #[cv, pv] w fun r w' => PtE w' r n (dNeg M x y i) (goodD M x y B i) ∧ Below w.heap.size w w' := by
 have h0 := hM.pos
 have lt : ∀ {a : Nat}, a < M → a < 18446744073709551616 ^ n := fun h => Nat.lt_trans h hM.lt
 obtain ⟨xv, yv, rfl, px, py⟩ := hP.ex
 have bad : ∀ e : Int, e ≠ 0 → goodD M x y B i = e → runG2 noY 50 53 i false e (goodD M 0 0 B false) [] Tryz.f42 [K1, pY 50 i] = some (.tup zY (iY e)) → Calls Tryz.prog 42 #[cv, .agg #[xv, yv, .bool i]] w fun r w' => PtE w' r n (dNeg M x y i) e ∧ Below w.heap.size w w' := fun e h1 h2 h =>
  (Zcc hn hM hB 0 0 0 0 0 0 x y 0 0 0 ⟨h0, h0⟩ ⟨h0, h0⟩ ⟨h0, h0⟩ (bo := fun _ => false) (by simp) (Zdq w) (p := 50) (q := 53) ⟨hx.1, hx.2, h2⟩ ⟨lt h0, lt h0, rfl⟩ (by kernel_rfl) h (vs := [cv, .agg #[xv, yv, .bool i]]) ⟨hC.vdG, ⟨[xv, yv, .bool i], rfl, px, py, rfl, trivial⟩, trivial⟩).mono fun r w' h3 => ⟨by
   obtain ⟨⟨t, e3, h3⟩, _⟩ := h3
   exact ⟨nilP, by rw [e3, Zf1 h3], fun e4 => absurd e4 h1, fun _ => rfl⟩, h3.2⟩
 have good : ∀ (z1 z2 : EX) (c : CX) (i' : Bool), i = i' → goodD M x y B i' = 0 → runG2 noY 0 53 i' false 0 (goodD M 0 0 B false) [] Tryz.f42 [K1, pY 0 i'] = some (.tup (ptE z1 z2 c) (iY 0)) → dNeg M x y i' = (dD n M (vH x y 0 0 B R bx by_) (fun _ => false) z1, dD n M (vH x y 0 0 B R bx by_) (fun _ => false) z2, (alD n M (vH x y 0 0 B R bx by_) (fun _ => false)).cx c) → Calls Tryz.prog 42 #[cv, .agg #[xv, yv, .bool i]] w fun r w' => PtE w' r n (dNeg M x y i) 0 ∧ Below w.heap.size w w' := by
  intro z1 z2 c i' rfl h1 h hd
  exact (Zcc hn hM hB x y 0 0 0 0 0 0 0 0 0 (Zbr h1) ⟨h0, h0⟩ ⟨h0, h0⟩ (bo := fun _ => false) (by simp) (Zdq w) (p := 0) (q := 53) ⟨hx.1, hx.2, h1⟩ ⟨lt h0, lt h0, rfl⟩ (by kernel_rfl) h (vs := [cv, .agg #[xv, yv, .bool i]]) ⟨hC.vdG, ⟨[xv, yv, .bool i], rfl, px, py, rfl, trivial⟩, trivial⟩).mono fun r w' h3 => ⟨by
   obtain ⟨⟨t, e3, h3⟩, _⟩ := h3
   obtain ⟨t2, e4, h4⟩ := ZjP h3
   exact ⟨t2, by rw [e3, e4], fun _ => by rw [hd]; exact h4, fun e5 => absurd rfl e5⟩, h3.2⟩
 rcases ZbE M x y B i with h1 | h1 | h1
 ·
  rw [h1]
  cases i with
  | true => exact good _ _ _ true rfl h1 (rNeg3 _) rfl
  | false => exact good _ _ _ false rfl h1 (rNeg4 _) rfl
 ·
  rw [h1]
  exact bad 70 (by decide) h1 (rNeg1 i _)
 ·
  rw [h1]
  exact bad 71 (by decide) h1 (rNeg2 i _)
theorem Znh {x y k : Nat} {i : Bool} {pv kv : Value} (hx : x < 18446744073709551616 ^ n ∧ y < 18446744073709551616 ^ n) (hP : QD w pv n x y i) (hK : LW w kv 4 (limb k)) :
  Calls Tryz.prog 44 #[cv, pv, kv] w fun r w' => PtE w' r n (dTimes M x y i k 256) (goodD M x y B i) ∧ Below w.heap.size w w' := by
 have h0 := hM.pos
 have lt : ∀ {a : Nat}, a < M → a < 18446744073709551616 ^ n := fun h => Nat.lt_trans h hM.lt
 obtain ⟨xv, yv, rfl, px, py⟩ := hP.ex
 have bad : ∀ e : Int, e ≠ 0 → goodD M x y B i = e → runG2 noY 50 53 i false e (goodD M 0 0 B false) [] Tryz.f44 [K1, pY 50 i, kY 60] = some (.tup zY (iY e)) → Calls Tryz.prog 44 #[cv, .agg #[xv, yv, .bool i], kv] w fun r w' => PtE w' r n (dTimes M x y i k 256) e ∧ Below w.heap.size w w' := fun e h1 h2 h =>
  (Zcc hn hM hB 0 0 0 0 0 0 x y 0 0 k ⟨h0, h0⟩ ⟨h0, h0⟩ ⟨h0, h0⟩ (bo := fun _ => false) (by simp) (Zdq w) (p := 50) (q := 53) ⟨hx.1, hx.2, h2⟩ ⟨lt h0, lt h0, rfl⟩ (by kernel_rfl) h (vs := [cv, .agg #[xv, yv, .bool i], kv]) ⟨hC.vdG, ⟨[xv, yv, .bool i], rfl, px, py, rfl, trivial⟩, hK, trivial⟩).mono fun r w' h3 => ⟨by
   obtain ⟨⟨t, e3, h3⟩, _⟩ := h3
   exact ⟨nilP, by rw [e3, Zf1 h3], fun e4 => absurd e4 h1, fun _ => rfl⟩, h3.2⟩
 rcases ZbE M x y B i with h1 | h1 | h1
 ·
  rw [h1]
  have hxy := Zbr h1
  have hl := Zel (i := i) (k := k) (T := 256) h0 hxy
  have main : ∀ q : P3, q.1 < M ∧ q.2.1 < M → dTimes M x y i k 256 = q → Calls Tryz.prog 44 #[cv, .agg #[xv, yv, .bool i], kv] w fun r w' => PtE w' r n q 0 ∧ Below w.heap.size w w' := fun q hq he =>
   (Zcc hn hM hB x y 0 0 q.1 q.2.1 0 0 0 0 k hxy ⟨h0, h0⟩ hq (bo := fun _ => q.2.2) (by simp) (tT_ok hM (k := 60) hB hxy he) (p := 0) (q := 53) ⟨hx.1, hx.2, h1⟩ ⟨lt h0, lt h0, rfl⟩ (by kernel_rfl) (rMul3 i _) (vs := [cv, .agg #[xv, yv, .bool i], kv]) ⟨hC.vdG, ⟨[xv, yv, .bool i], rfl, px, py, rfl, trivial⟩, hK, trivial⟩).mono fun r w' h3 => ⟨by
   obtain ⟨⟨t, e3, h3⟩, _⟩ := h3
   obtain ⟨t2, e4, h4⟩ := ZjP h3
   exact ⟨t2, by rw [e3, e4], fun _ => by exact h4, fun e5 => absurd rfl e5⟩, h3.2⟩
  exact main _ hl rfl
 ·
  rw [h1]
  exact bad 70 (by decide) h1 (rMul1 i _)
 ·
  rw [h1]
  exact bad 71 (by decide) h1 (rMul2 i _)
theorem ZjQ {x y : Nat} {i : Bool} {pv : Value} (hx : x < 18446744073709551616 ^ n ∧ y < 18446744073709551616 ^ n) (hP : QD w pv n x y i) :
  Calls Tryz.prog 37 #[cv, pv] w fun r w' => r = .returned (.int .i64 (if goodD M x y B i = 0 then (if (dTimes M x y i R 256).2.2 = true then 0 else 72) else goodD M x y B i)) ∧ Below w.heap.size w w' := by
 have h0 := hM.pos
 have lt : ∀ {a : Nat}, a < M → a < 18446744073709551616 ^ n := fun h => Nat.lt_trans h hM.lt
 obtain ⟨xv, yv, rfl, px, py⟩ := hP.ex
 have bad : ∀ e : Int, e ≠ 0 → goodD M x y B i = e → runG2 noY 50 53 i false e (goodD M 0 0 B false) [] Tryz.f37 [K1, pY 50 i] = some (iY e) → Calls Tryz.prog 37 #[cv, .agg #[xv, yv, .bool i]] w fun r w' => r = .returned (.int .i64 e) ∧ Below w.heap.size w w' := fun e h1 h2 h =>
  (Zcc hn hM hB 0 0 0 0 0 0 x y 0 0 0 ⟨h0, h0⟩ ⟨h0, h0⟩ ⟨h0, h0⟩ (bo := fun _ => false) (by simp) (Zdq w) (p := 50) (q := 53) ⟨hx.1, hx.2, h2⟩ ⟨lt h0, lt h0, rfl⟩ (by kernel_rfl) h (vs := [cv, .agg #[xv, yv, .bool i]]) ⟨hC.vdG, ⟨[xv, yv, .bool i], rfl, px, py, rfl, trivial⟩, trivial⟩).mono fun r w' h3 => ⟨by
   obtain ⟨⟨t, e3, h3⟩, _⟩ := h3
   rw [e3, show t = .int .i64 e from h3], h3.2⟩
 rcases ZbE M x y B i with h1 | h1 | h1
 ·
  rw [if_pos h1]
  have hxy := Zbr h1
  have hl := Zel (i := i) (k := R) (T := 256) h0 hxy
  have main : ∀ (q : P3) (c : Bool) (e : Int), q.1 < M ∧ q.2.1 < M → dTimes M x y i R 256 = q → q.2.2 = c → runG2 (tT i 110) 0 53 i false 0 (goodD M 0 0 B false) [(.at_ 0, c)] Tryz.f37 [K1, pY 0 i] = some (iY e) → Calls Tryz.prog 37 #[cv, .agg #[xv, yv, .bool i]] w fun r w' => r = .returned (.int .i64 e) ∧ Below w.heap.size w w' := fun q c e hq he hc h =>
   (Zcc hn hM hB x y 0 0 q.1 q.2.1 0 0 0 0 0 hxy ⟨h0, h0⟩ hq (bo := fun _ => q.2.2) (by intro z hz; cases List.mem_singleton.1 hz; exact hc) (tT_ok hM (k := 110) hB hxy he) (p := 0) (q := 53) ⟨hx.1, hx.2, h1⟩ ⟨lt h0, lt h0, rfl⟩ (by kernel_rfl) h (vs := [cv, .agg #[xv, yv, .bool i]]) ⟨hC.vdG, ⟨[xv, yv, .bool i], rfl, px, py, rfl, trivial⟩, trivial⟩).mono fun r w' h3 => ⟨by
   obtain ⟨⟨t, e3, h3⟩, _⟩ := h3
   rw [e3, show t = .int .i64 e from h3], h3.2⟩
  by_cases hc : (dTimes M x y i R 256).2.2 = true
  ·
   rw [if_pos hc]
   exact main _ true 0 hl rfl hc (rGrp3 i _)
  ·
   rw [if_neg hc]
   exact main _ false 72 hl rfl (by simpa using hc) (rGrp4 i _)
 ·
  rw [if_neg (by rw [h1]; decide), h1]
  exact bad 70 (by decide) h1 (rGrp1 i _)
 ·
  rw [if_neg (by rw [h1]; decide), h1]
  exact bad 71 (by decide) h1 (rGrp2 i _)
end
end Go.Proofs.YtcbdbnfgnonacaaGreat
namespace Go.Proofs.YtcbdbnfgnonacaaGreat.Q4
open Go.RowKit Go.Shelf
abbrev K := Nat × Nat
noncomputable def ev (m : Nat) (x : K) : Array Value := Classical.choose (⟨_, rfl⟩ : ∃ C : Array Value, C = P4.ev m x.1 ++ P4.ev m x.2)
theorem Zb0 (m : Nat) (x : K) : ev m x = P4.ev m x.1 ++ P4.ev m x.2 := Classical.choose_spec (⟨_, rfl⟩ : ∃ C : Array Value, C = P4.ev m x.1 ++ P4.ev m x.2)
noncomputable def nv (x : K) : Array Value := Classical.choose (⟨_, rfl⟩ : ∃ C : Array Value, C = P4.nv x.1 ++ P4.nv x.2)
theorem Za3 (x : K) : nv x = P4.nv x.1 ++ P4.nv x.2 := Classical.choose_spec (⟨_, rfl⟩ : ∃ C : Array Value, C = P4.nv x.1 ++ P4.nv x.2)
def Fits (x : K) : Prop := P4.Fits x.1 ∧ P4.Fits x.2
def k0 : K := (0, 0)
def k1 : K := (1, 0)
theorem ZaF (m : Nat) (x : K) : (ev m x).size = 2 * 4 := by rw [Zb0, Array.size_append, P4.ZaF, P4.ZaF]
theorem Zao (x : K) : (nv x).size = 2 * 4 := by rw [Za3, Array.size_append, P4.Zao, P4.Zao]
theorem Zem {A B : Array Value} (h1 : A.all (·.oneCell') = true) (h2 : B.all (·.oneCell') = true) : (A ++ B).all (·.oneCell') = true := by
 rw [Array.all_append, h1, h2]; rfl
theorem Zb4 (m : Nat) (x : K) : (ev m x).all (·.oneCell') = true := by rw [Zb0]; exact Zem (P4.Zb4 _ _) (P4.Zb4 _ _)
theorem Zba (x : K) : (nv x).all (·.oneCell') = true := by rw [Za3]; exact Zem (P4.Zba _) (P4.Zba _)
abbrev FOK (w : World) (p m : Nat) : Prop := W4.Good w p m
structure RAt (w : World) (p m : Nat) : Prop where
 ok : FOK w p m
 plt : p < w.heap.size
theorem RAt.below {w w' : World} {p m : Nat} (h : RAt w p m) (hb : Below w.heap.size w w') : RAt w' p m := ⟨h.ok.of_same (hb.block _ h.plt), Nat.lt_of_lt_of_le h.plt hb.size⟩
def szq : Nat → Nat := fun _ => 4
noncomputable abbrev alq (m p : Nat) (v : Nat → Nat) : Al szq where
 K := Nat
 v := v
 c := fun _ => 0
 u := fun _ x => x
 b := fun _ x _ => x
 cells := fun k x => match k with
  | 0 => P4.ev m x
  | _ => P4.nv x
 hs := fun k x => match k with
  | 0 => P4.ZaF m x
  | _ + 1 => P4.Zao x
 h1 := fun k x => match k with
  | 0 => P4.Zb4 m x
  | _ + 1 => P4.Zba x
 lk := fun _ _ _ => false
 bo := fun _ => false
 xb := fun _ => p
 ov := fun _ => .bool false
 ho := fun _ => ⟨rfl, rfl⟩
def rT (fl : Nat → Bool) (f : Nat) (xs : List SV) : Option SV := match xs with
 | [.one (.xp 0 0), .row [.e 1 (.v i)]] => if f = 274 ∧ fl i = true then some (.row [.e 0 (.v i)]) else none
 | _ => none
section
variable {w : World} {p m : Nat} (hG : RAt w p m) {fl : Nat → Bool} (v : Nat → Nat)
theorem h_e (x : EX) (β : Nat → Nat) : ((alq m p v).rw β [.e 0 x]).toArray = P4.ev m ((alq m p v).d x) := by simp [Al.rw, Al.ch, alq]
theorem h_n (x : EX) (β : Nat → Nat) : ((alq m p v).rw β [.e 1 x]).toArray = P4.nv ((alq m p v).d x) := by simp [Al.rw, Al.ch, alq]
include hG
theorem Zni (hv : ∀ i, fl i = true → P4.Fits (v i)) : TOK Tryz.prog (alq m p v) (rT fl) w := fun f xs y β V h hV => by
 have H := (hG.below hV).ok
 unfold rT at h
 split at h
 ·
  split at h
  ·
   rename_i e; obtain ⟨rfl, hi⟩ := e; cases h; refine ⟨en Tryz.func274, ?_⟩; simp only [Al.sv, List.map_cons, List.map_nil, h_e, h_n]; exact P4.c_In H _ (hv _ hi)
  ·
   cases h
 ·
  cases h
theorem ZjR (hv : ∀ i, fl i = true → P4.Fits (v i)) {f : Nat} {fn : Func} (hf : Tryz.prog.funcs[f]? = some fn) {args : List SV} {y : SV} (h : runS Tryz.prog szq (env0 (rT fl)) fn 100 args = some y) : Calls Tryz.prog f (args.map ((alq m p v).sv fun _ => 0)).toArray w fun e w' => e = .returned ((alq m p v).sv (fun _ => 0) y) ∧ Below w.heap.size w w' :=
 ZfQ (by kernel_rfl) (ZcY (Zni hG v hv)) hf h
end
abbrev rcE : SV := .row [.s (.xp 0 0)]
def qv (x y : K) : Nat → Nat
 | 0 => x.1
 | 1 => x.2
 | 2 => y.1
 | _ => y.2
section
variable {p m : Nat} {v : Nat → Nat}
theorem Zn2 : (alq m p v).sv (fun _ => 0) rcE = .agg #[.pointer (some ⟨p, 0, none⟩)] := rfl
theorem sq_e (x y : EX) : (alq m p v).sv (fun _ => 0) (.row [.e 0 x, .e 0 y]) = .agg (ev m ((alq m p v).d x, (alq m p v).d y)) := by
 rw [Al.sv, Zb0]
 congr 1
 apply Array.toList_inj.1
 simp [Al.rw, Al.ch]
theorem sq_n (x y : EX) : (alq m p v).sv (fun _ => 0) (.row [.e 1 x, .e 1 y]) = .agg (nv ((alq m p v).d x, (alq m p v).d y)) := by
 rw [Al.sv, Za3]
 congr 1
 apply Array.toList_inj.1
 simp [Al.rw, Al.ch]
end
set_option maxRecDepth 100000
theorem qIn {w : World} {p m : Nat} (hG : RAt w p m) (x : K) (hx : Fits x) : Calls Tryz.prog 287 #[.agg #[.pointer (some ⟨p, 0, none⟩)], .agg (nv x)] w fun e w' => e = .returned (.agg (ev m (x))) ∧ Below w.heap.size w w' := by
 have := ZjR hG (fl := fun i => i == 0 || i == 1) (qv x x) (fun i h => by match i, h with | 0, _ => exact hx.1 | 1, _ => exact hx.2) Tryz.func287 (args := [rcE, .row [.e 1 (.v 0), .e 1 (.v 1)]]) (y := .row [.e 0 (.v 0), .e 0 (.v 1)]) (by kernel_rfl)
 simp only [List.map_cons, List.map_nil, Zn2, sq_e, sq_n] at this
 exact this
def ifv (p : Nat) : Value := .iface 131 (.agg #[.pointer (some ⟨p, 0, none⟩)])
def rcv (p : Nat) : Value := .agg #[.pointer (some ⟨p, 0, none⟩)]
section
variable (p : Nat) (a b : Value) (w : World)
set_option maxRecDepth 100000
theorem ZgF : (callMethod (ifv p) "In" #[a]).run Tryz.prog w = .ok (.enter 287 #[rcv p, a]) w := by kernel_rfl
theorem ZgG : (nilAhead (Tryz.prog.types.size + Made.depth) 131 (rcv p) "In").run Tryz.prog w = .ok (some false) w := by kernel_rfl
end
theorem RAt.of {w : World} {p m : Nat} (h : FOK w p m) : RAt w p m := by
 obtain ⟨f, h1, h2⟩ := h.ex
 exact ⟨h, h2.lt⟩
section
variable {w : World} {p m : Nat} (hg : FOK w p m) (x y : K)
include hg
theorem c_In (hx : Fits x) : Calls Tryz.prog 287 #[rcv p, .agg (nv x)] w fun e w' => e = .returned (.agg (ev m x)) ∧ Below w.heap.size w w' := qIn (RAt.of hg) x hx
end
theorem Zfl : Fits k0 := ⟨P4.Zfl, P4.Zfl⟩
structure GAt (w : World) (g p m : Nat) (b : K) : Prop where
 fld : w.cell? ⟨g, 0, none⟩ = some (ifv p)
 zero : w.rangeAt g 1 (ev m k0).toList
 one : w.rangeAt g (1 + 8) (ev m k1).toList
 b : w.rangeAt g (1 + 2 * 8) (ev m b).toList
 ok : FOK w p m
 glt : g < w.heap.size
 plt : p < w.heap.size
theorem Zay {w w' : World} {g o : Nat} {l : List Value} (h : w'.heap[g]? = w.heap[g]?) (hr : w.rangeAt g o l) : w'.rangeAt g o l := fun j v hv => by
 have := hr j v hv
 unfold World.cell? at this ⊢
 rw [h]
 exact this
theorem GAt.same {w w' : World} {g p m : Nat} {b : K} (h : GAt w g p m b) (hg : w'.heap[g]? = w.heap[g]?) (hp : w'.heap[p]? = w.heap[p]?) (hs : w.heap.size ≤ w'.heap.size) : GAt w' g p m b :=
 ⟨by have := h.fld; unfold World.cell? at this ⊢; rw [hg]; exact this, Zay hg h.zero, Zay hg h.one, Zay hg h.b, h.ok.of_same hp, Nat.lt_of_lt_of_le h.glt hs, Nat.lt_of_lt_of_le h.plt hs⟩
theorem GAt.below {w w' : World} {g p m : Nat} {b : K} (h : GAt w g p m b) (hb : Below w.heap.size w w') : GAt w' g p m b := h.same (hb.block _ h.glt) (hb.block _ h.plt) hb.size
def zn : Array Value := Array.replicate 8 (.int .u64 0)
noncomputable def pt (x y : K) (i : Bool) : Array Value := Classical.choose (⟨_, rfl⟩ : ∃ C : Array Value, C = nv x ++ (nv y ++ #[.bool i]))
theorem Zbh (x y : K) (i : Bool) : pt x y i = nv x ++ (nv y ++ #[.bool i]) := Classical.choose_spec (⟨_, rfl⟩ : ∃ C : Array Value, C = nv x ++ (nv y ++ #[.bool i]))
theorem ZcB : nv k0 = zn := by first | (rw [Za3]; rfl) | (rw [Za3, P4.Za3, P4.Za3]; rfl)
def sz : Nat → Nat
 | 2 => 4
 | _ => 8
structure Dt where
 m : Nat
 g : Nat
 p : Nat
 b : K
 bx : K
 bY : K
 kw : Nat
 v : Nat → K
 bo : Nat → Bool
 cv : Nat
noncomputable abbrev al (D : Dt) : Al sz where
 K := K
 v := D.v
 c := fun _ => k0
 u := fun _ x => x
 b := fun _ x _ => x
 cells := fun k x => match k with
  | 0 => ev D.m x
  | 2 => W4.cs (limb D.kw)
  | _ => nv x
 hs := fun k x => match k with
  | 0 => ZaF D.m x
  | 1 => Zao x
  | 2 => rfl
  | _ + 3 => Zao x
 h1 := fun k x => match k with
  | 0 => Zb4 D.m x
  | 1 => Zba x
  | 2 => W4.one _
  | _ + 3 => Zba x
 lk := fun _ _ _ => true
 bo := D.bo
 xb := fun _ => D.g
 ov := fun _ => ifv D.p
 ho := fun _ => ⟨rfl, rfl⟩
def ft (fl : Nat → Bool) : EX → Bool
 | .v i => fl i
 | .c 0 => true
 | _ => false
def eI (fl : Nat → Bool) (s : String) (xs : List SV) : Option SV := match xs with
 | [.one (.ov _), .row [.e 1 x]] => if s = "In" ∧ ft fl x = true then some (.row [.e 0 x]) else none
 | _ => none
abbrev zE : Ch := .e 1 (.c 0)
abbrev fE : Ch := .s (.cx (.lit false))
abbrev zI : Ch := .s (.v (.int .u64 0))
def eZ (t : Nat) : Option (List Ch) := if t = 47 then some [zE] else if t = 240 then some [.s (.v .nilIface), zE, zE, zE, zE, zE, fE, zI, zI, zI, zI] else none
structure FAt (w : World) (p m : Nat) : Prop where
 ok : FOK w p m
 plt : p < w.heap.size
theorem FAt.below {w w' : World} {p m : Nat} (h : FAt w p m) (hb : Below w.heap.size w w') : FAt w' p m := ⟨h.ok.of_same (hb.block _ h.plt), Nat.lt_of_lt_of_le h.plt hb.size⟩
def envF (fl : Nat → Bool) (G : List (CX × Bool)) (X : Nat → List SV → Option SV) (XL : Nat → Nat → Nat → Option SV) (T : Nat → List SV → Option SV) : Env := ⟨aheadT X T, eI fl, XL, eZ, fun _ _ _ => none, G, fun s _ => s == "In"⟩
section
variable {D : Dt} {β : Nat → Nat}
theorem rw_w (x : EX) : ((al D).rw β [.e 2 x]).toArray = W4.cs (limb D.kw) := by simp [Al.rw, Al.ch]
end
def XLOK {sz : Nat → Nat} (A : Al sz) (XL : Nat → Nat → Nat → Option SV) (w : World) : Prop := ∀ i q t y β V, XL i q t = some y → Below w.heap.size w V → (loadVar t ⟨A.xb i, q, none⟩).run Tryz.prog V = .ok (A.sv β y) V
theorem XLOK.mono {sz : Nat → Nat} {A : Al sz} {XL : Nat → Nat → Nat → Option SV} {w V : World} (h : XLOK A XL w) (hV : Below w.heap.size w V) : XLOK A XL V := fun i q t y β U e hU => h i q t y β U e (hV.trans (hU.mono hV.size))
theorem z_ok {D : Dt} {t : Nat} {l : List Ch} (β : Nat → Nat) (V : World) (h : eZ t = some l) : ∃ z, (zeroValue t).run Tryz.prog V = .ok z V ∧ z.cells = ((al D).rw β l).toArray := by
 have hz : ((al D).ch β zE) = zn.toList := by
  show (nv k0).toList = _
  rw [ZcB]
 unfold eZ at h
 split at h
 ·
  rename_i hc
  subst hc
  cases h
  refine ⟨.agg zn, by kernel_rfl, ?_⟩
  simp only [Al.rw, hz]
  rfl
 rename_i hc
 clear hc
 split at h
 ·
  rename_i hc
  subst hc
  cases h
  refine ⟨.agg (#[.nilIface] ++ zn ++ zn ++ zn ++ zn ++ zn ++ #[.bool false] ++ Array.replicate 4 (.int .u64 0)), by kernel_rfl, ?_⟩
  simp only [Al.rw, hz]
  rfl
 ·
  cases h
theorem Zdc {D : Dt} {fl : Nat → Bool} (hv : ∀ i, fl i = true → Fits (D.v i)) {x : EX} (h : ft fl x = true) : Fits ((al D).d x) := by
 unfold ft at h
 split at h
 ·
  exact hv _ h
 ·
  exact Zfl
 ·
  cases h
theorem Zb9 {w : World} {D : Dt} {fl : Nat → Bool} {G : List (CX × Bool)} {X T : Nat → List SV → Option SV} {XL : Nat → Nat → Nat → Option SV} (HG : FAt w D.p D.m) (hv : ∀ i, fl i = true → Fits (D.v i)) (hG : ∀ x ∈ G, (al D).cx x.1 = x.2) (hX : TOK Tryz.prog (al D) X w) (hL : XLOK (al D) XL w) (hT : TOK Tryz.prog (al D) T w) : EnvOK Tryz.prog (al D) (envF fl G X XL T) w where
 G := hG
 F := fun s i h => by
  refine ⟨_, _, rfl, fun V => ?_⟩
  simp only [envF, beq_iff_eq] at h
  subst h
  exact ZgG D.p V
 T := Zdy hX hT
 I := fun s xs y β V h hV => by
  have hF := (HG.below hV).ok
  have h : eI fl s xs = some y := h
  unfold eI at h
  split at h
  ·
   split at h
   ·
    cases h; rename_i hs; obtain ⟨rfl, hx⟩ := hs; exact ⟨_, _, ZgF D.p _ V, by simpa [Al.sv, Al.rw, Al.ch, al, Al.d] using c_In hF _ (Zdc hv hx)⟩
   ·
    cases h
  ·
   cases h
 X := hL
 Z := fun t l β V h => z_ok β V h
 E := fun t l k c β V h => by cases h
def tab : Nat → Option Func := fun _ => none
theorem Zee : TabOK Tryz.prog tab := fun _ _ h => by cases h
theorem mixed : Tryz.prog.follows .mixedOrders = true := by kernel_rfl
theorem ZfW {w : World} {D : Dt} {fl : Nat → Bool} {G : List (CX × Bool)} {X : Nat → List SV → Option SV} {XL : Nat → Nat → Nat → Option SV} (HG : FAt w D.p D.m) (hv : ∀ i, fl i = true → Fits (D.v i)) (hG : ∀ x ∈ G, (al D).cx x.1 = x.2) (hX : TOK Tryz.prog (al D) X w) (hL : XLOK (al D) XL w) : EnvOK Tryz.prog (al D) (envF fl G X XL (Tk Tryz.prog sz (envF fl G X XL) tab 6)) w :=
 Zb9 HG hv hG hX hL (ZiM (A := al D) mixed Zee (fun _ _ hV hT => Zb9 (HG.below hV) hv hG (hX.mono hV) (hL.mono hV) hT) 6 w (Below.refl _ _))
theorem noL {A : Al sz} (w : World) : XLOK A (fun _ _ _ => none) w := fun _ _ _ _ _ _ h => by cases h
def fit2 : Nat → Bool
 | 0 => true
 | 1 => true
 | _ => false
def noX : Nat → Nat → Nat → Option SV := fun _ _ _ => none
abbrev v5 (x y z u t : K) : Nat → K
 | 0 => x
 | 1 => y
 | 2 => z
 | 3 => u
 | _ => t
theorem fits2 {x y z u t : K} (hx : Fits x) (hy : Fits y) : ∀ i, fit2 i = true → Fits (v5 x y z u t i)
 | 0, _ => hx
 | 1, _ => hy
 | _ + 2, h => by cases h
section
variable {w : World} {g p m : Nat} {b : K} (HG : GAt w g p m b) (x y z : K)
include HG
set_option maxRecDepth 100000
end
attribute [local go_sem] Oper.semAt_some
structure GB (w : World) (g : Nat) (x y : K) (k : Nat) : Prop where
 base : w.rangeAt g (1 + 3 * 8) (pt x y false).toList
 ord : w.rangeAt g (2 + 5 * 8) (W4.cs (limb k)).toList
 lt : g < w.heap.size
theorem GB.below {w w' : World} {g k : Nat} {x y : K} (h : GB w g x y k) (hb : Below w.heap.size w w') : GB w' g x y k :=
 ⟨Zay (hb.block _ h.lt) h.base, Zay (hb.block _ h.lt) h.ord, Nat.lt_of_lt_of_le h.lt hb.size⟩
structure CAt (w : World) (c g p m : Nat) (b bx bY : K) (k : Nat) : Prop where
 at_ : w.cell? ⟨c, 2, none⟩ = some (.pointer (some ⟨g, 0, none⟩))
 ga : GAt w g p m b
 gb : GB w g bx bY k
 clt : c < w.heap.size
theorem CAt.below {w w' : World} {c g p m : Nat} {b bx bY : K} {k : Nat} (h : CAt w c g p m b bx bY k) (hb : Below w.heap.size w w') : CAt w' c g p m b bx bY k :=
 ⟨(hb.cell (p := ⟨c, 2, none⟩) h.clt).trans h.at_, h.ga.below hb, h.gb.below hb, Nat.lt_of_lt_of_le h.clt hb.size⟩
end Go.Proofs.YtcbdbnfgnonacaaGreat.Q4
namespace Go.Proofs.YtcbdbnfgnonacaaGreat
open Go.RowKit Go.Shelf
noncomputable def pn (a b c d : Nat) (i : Bool) : Array Value := Classical.choose (⟨_, rfl⟩ : ∃ C : Array Value, C = W6.cs (limb a) ++ (W6.cs (limb b) ++ (W6.cs (limb c) ++ (W6.cs (limb d) ++ #[.bool i]))))
theorem Zcg (a b c d : Nat) (i : Bool) : pn a b c d i = W6.cs (limb a) ++ (W6.cs (limb b) ++ (W6.cs (limb c) ++ (W6.cs (limb d) ++ #[.bool i]))) := Classical.choose_spec (⟨_, rfl⟩ : ∃ C : Array Value, C = W6.cs (limb a) ++ (W6.cs (limb b) ++ (W6.cs (limb c) ++ (W6.cs (limb d) ++ #[.bool i]))))
def lo4 (a : Nat) : Nat := a % W4.R
theorem Za5 (a : Nat) : P4.Fits (lo4 a) := Nat.mod_lt _ (by decide +kernel)
theorem ZbH (a j : Nat) (hj : j < 4) : limb (lo4 a) j = limb a j := by
 unfold lo4 limb
 have e : W4.R = 18446744073709551616 ^ j * 18446744073709551616 * 18446744073709551616 ^ (3 - j) := by
  rw [← Nat.pow_succ, ← Nat.pow_add, show j.succ + (3 - j) = 4 by omega]
  decide +kernel
 rw [e, Nat.mul_assoc, Nat.mod_mul_right_div_self, Nat.mod_mul_right_mod]
theorem Zf2 (a : Nat) : W6.cs (limb a) = P4.nv (lo4 a) ++ #[.int .u64 (limb a 4), .int .u64 (limb a 5)] := by
 rw [P4.Za3, show W4.cs (limb (lo4 a)) = #[.int .u64 (limb (lo4 a) 0), .int .u64 (limb (lo4 a) 1), .int .u64 (limb (lo4 a) 2), .int .u64 (limb (lo4 a) 3)] from rfl, ZbH a 0 (by omega), ZbH a 1 (by omega), ZbH a 2 (by omega), ZbH a 3 (by omega)]
 rfl
section
variable {w : World} {B t a b c d : Nat} {i : Bool}
theorem pn_0 (h : w.heap[B]? = some (.cells (pn a b c d i) t (0, 0))) : w.rangeAt B 0 (P4.nv (lo4 a)).toList := by
 rw [Zcg, Zf2 a, Array.append_assoc] at h
 exact Zbt (A := #[]) (by rw [Array.empty_append]; exact h) rfl
theorem pn_2 (h : w.heap[B]? = some (.cells (pn a b c d i) t (0, 0))) : w.rangeAt B 12 (P4.nv (lo4 c)).toList := by
 rw [Zcg, Zf2 c, Array.append_assoc (xs := P4.nv (lo4 c)), ← Array.append_assoc (xs := W6.cs (limb a))] at h
 exact Zbt (A := W6.cs (limb a) ++ W6.cs (limb b)) h (by rw [Array.size_append, W6.Za6, W6.Za6])
theorem pn_i (h : w.heap[B]? = some (.cells (pn a b c d i) t (0, 0))) : w.cell? ⟨B, 24, none⟩ = some (.bool i) := by
 rw [Zcg, ← Array.append_assoc (xs := W6.cs (limb c)), ← Array.append_assoc (xs := W6.cs (limb b)), ← Array.append_assoc (xs := W6.cs (limb a))] at h
 have := Zbt (A := W6.cs (limb a) ++ (W6.cs (limb b) ++ (W6.cs (limb c) ++ W6.cs (limb d)))) (B := #[.bool i]) (C := #[]) (o := 24) (by rw [Array.append_empty]; exact h) (by rw [Array.size_append, Array.size_append, Array.size_append, W6.Za6, W6.Za6, W6.Za6, W6.Za6])
 exact this 0 _ rfl
end
theorem Zbc (a b c d : Nat) (i : Bool) : (pn a b c d i).size = 25 := by
 rw [Zcg, Array.size_append, Array.size_append, Array.size_append, Array.size_append, W6.Za6, W6.Za6, W6.Za6, W6.Za6]
 rfl
theorem Zf3 : Tryz.prog.underlying 30 = some (.struct (fsOf (Tryz.prog.underlying 30))) := by kernel_rfl
theorem infoPn {C : Array Value} (h : C.size = 25) : (Tryz.prog.info? 30).map (·.size) = some C.size := by rw [h]; kernel_rfl
theorem Zdr (B o : Nat) (W : World) : (Instr.arrayAt 32 (.slice (some ⟨B, o, none⟩) 4 6)).run Tryz.prog W = .ok (.pointer (some ⟨B, o, none⟩)) W := by
 simp [Instr.arrayAt, run_underlying W4.under]
theorem Zev {P : Program} {ops : Array Oper} {S : World → Prop} {op : Oper} {a : Act} (hw : Region.wanted op (yielded ops a.tmps) = true) (t : TypeId) (ps : Array (Nat × Operand)) (vs : Array (Nat × Value)) (ho : op.op = .build t ps) (hps : ps.map (fun x => (x.1, a.eval x.2)) = vs) {v : Value} (hb : ∀ w, (Instr.build t vs).run P w = .ok v w) : YieldsIf P ops S op v a :=
 .inl ⟨hw, fun w _ => by
  unfold execOp
  simp only [ho, hps, hb, Sem.run_bind, Sem.run_pure, Result.andThen]⟩
theorem ZjS (a b c d : Nat) (i : Bool) (w : World) : Calls Tryz.prog 33 #[.agg (pn a b c d i)] w fun e w' => e = .returned (.agg (P4.pt (lo4 a) (lo4 c) i)) ∧ Below w.heap.size w w' := by
 go_enter Tryz.func33, Tryz.ntmps33
 refine Zae (fun K0 HK0 => ?_)
 go_wp2_with fail
 refine HK0.out _ _ ?_
 clear HK0 K0
 refine Zaj (fun W0 hW0 => ?_)
 have hb0 : W0.heap[w.heap.size]? = some (.cells (pn a b c d i) 30 (0, 0)) := by
  rw [hW0]
  exact ((Zah _ _ (by simp <;> omega)).trans (Zaf _ _))
 have hbr : ∃ C : Array Value, W0.heap[w.heap.size + 1]? = some (.cells C 34 (0, 0)) ∧ C.size = 9 := by
  rw [hW0]
  exact ⟨_, Zat _ _ _, rfl⟩
 have hbw : Below w.heap.size w W0 := by
  rw [hW0]
  repeat first | exact Below.refl _ _ | (refine Below.alloc ?_ (by simp <;> omega) _)
 clear hW0
 obtain ⟨C, hC, hs⟩ := hbr
 have HC := hideP hC
 have H0 := hideP hb0
 have HBW := hideP hbw
 clear hC hb0 hbw
 generalize w.heap.size = N at *
 generalize hB1 : N + 1 = B1 at *
 have o1 : N < B1 := by omega
 clear hB1
 refine Zae (fun K1 HK1 => ?_)
 refine Zai (S := fun V => KQ W0 B1 9 34 V) (by kernel_rfl) (KQ.init HC.out hs) (fun hS => ?_)
 refine tkG 0 hS ?_
 simp only [Zaa, Zs, Zz]
 refine tkI 1 (.slice (some ⟨N, 0, none⟩) 4 6) hS ?_ ?_
 ·
  intro V hV
  go_simp
  (try with_reducible rfl)
 simp only [Zaa, Zs, Zz]
 refine tkI 2 (.pointer (some ⟨N, 0, none⟩)) hS ?_ ?_
 ·
  intro V hV
  have har := Zdr N 0 V
  go_simp
  (try with_reducible rfl)
 simp only [Zaa, Zs, Zz]
 refine Zak (i := 3) (v := .agg (P4.nv (lo4 a))) rfl (by kernel_rfl) (by kernel_rfl) (by kernel_rfl) (fun _ _ _ h => h) (Zbu (by kernel_rfl) 32 _ rfl N 0 rfl (P4.nv (lo4 a)) _ (fun V hV => pn_0 (hV.box H0.out (by omega))) P4.underE rfl (P4.infoE (P4.Zao _))) hS ?_
 simp only [Zaa, Zs, Zz]
 refine tkG 4 hS ?_
 simp only [Zaa, Zs, Zz]
 refine tkI 5 (.slice (some ⟨N, 12, none⟩) 4 6) hS ?_ ?_
 ·
  intro V hV
  go_simp
  (try with_reducible rfl)
 simp only [Zaa, Zs, Zz]
 refine tkI 6 (.pointer (some ⟨N, 12, none⟩)) hS ?_ ?_
 ·
  intro V hV
  have har := Zdr N 12 V
  go_simp
  (try with_reducible rfl)
 simp only [Zaa, Zs, Zz]
 refine Zak (i := 7) (v := .agg (P4.nv (lo4 c))) rfl (by kernel_rfl) (by kernel_rfl) (by kernel_rfl) (fun _ _ _ h => h) (Zbu (by kernel_rfl) 32 _ rfl N 12 rfl (P4.nv (lo4 c)) _ (fun V hV => pn_2 (hV.box H0.out (by omega))) P4.underE rfl (P4.infoE (P4.Zao _))) hS ?_
 simp only [Zaa, Zs, Zz]
 refine tkG 8 hS ?_
 simp only [Zaa, Zs, Zz]
 refine tkI 9 (.bool i) hS ?_ ?_
 ·
  intro V hV
  have hf := pn_i (hV.box H0.out (by omega))
  go_simp
  (try with_reducible rfl)
 simp only [Zaa, Zs, Zz]
 refine Zak (i := 10) (v := .agg (P4.pt (lo4 a) (lo4 c) i)) rfl (by kernel_rfl) (by kernel_rfl) (by kernel_rfl) (fun _ _ _ h => h) (Zev (by kernel_rfl) 34 _ #[(0, .agg (P4.nv (lo4 a))), (1, .agg (P4.nv (lo4 c))), (2, .bool i)] rfl (by simp only [List.map_toArray, List.map_cons, List.map_nil]; rfl) (fun w => P4.bd_a3 _ _ _ w)) hS ?_
 simp only [Zaa, Zs, Zz]
 refine rd1 11 (fun K hK => ?_)
 refine Za7 (by kernel_rfl) ?_
 refine Zan 34 (.tmp 2) (.tmp 13) rfl rfl B1 0 (P4.pt (lo4 a) (lo4 c) i) rfl rfl (hS.there (P4.Zau _ _ _)) (P4.infoA (P4.Zau _ _ _)) (P4.Zdm _ _ _) ?_
 have g1 := hS.put (C := P4.pt (lo4 a) (lo4 c) i) (P4.Zau _ _ _)
 have hS9 := hS.store (C := P4.pt (lo4 a) (lo4 c) i) (P4.Zau _ _ _)
 clear hS
 generalize World.setCells _ B1 0 (P4.pt (lo4 a) (lo4 c) i).toList = x1 at g1 hS9 ⊢
 refine hK.out _ _ hS9 (fun hS => ?_)
 clear hK K hS9
 refine wpAnyH_done (by kernel_rfl) ?_ _
 (try simp only [Zas])
 refine HK1.out _ _ ?_
 refine wp_ret ?_
 exact bodyPost_ret_by (ZaD rfl rfl (loadC _ B1 0 34 (P4.pt (lo4 a) (lo4 c) i) _ (Zag g1) P4.underA rfl (P4.infoA (P4.Zau _ _ _)))) rfl ⟨rfl, HBW.out.trans (hS.below.mono (by omega))⟩
end Go.Proofs.YtcbdbnfgnonacaaGreat
