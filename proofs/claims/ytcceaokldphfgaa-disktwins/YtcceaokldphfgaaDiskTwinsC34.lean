/- YtcceaokldphfgaaDiskTwinsC34 -/
import Derived.Test.YtcceaokldphfgaaDiskTwinsC22
import Derived.Test.YtcceaokldphfgaaDiskTwinsC33
namespace Go.Proofs.Ytcceaokldphfgaa
open Go.RowKit Go.Shelf

/-- A row of new memory stays while only later blocks are written. -/
theorem own_below {w w' : World} {base e size n : Nat} {v : Value} {xs : List Value} (h : w.ownsRow base e size v n xs) (hb : Below w.heap.size w w') : w'.ownsRow base e size v n xs := by
  refine ⟨h.1, ?_⟩
  rcases h.2 with hn | ⟨g, cap, cur, h1, h2, hg, h4⟩
  · exact .inl hn
  · exact .inr ⟨g, cap, cur, h1, h2, (hb.block g (Array.getElem?_eq_some_iff.1 hg).1).trans hg, h4⟩

end Go.Proofs.Ytcceaokldphfgaa

namespace Go.Proofs.Ytcceaokldphfgaa
open Go.RowKit Go.Shelf

/-- An operation, without its memory. -/
structure AOp where
  kind : Int
  name : ByteArray
  to : ByteArray
  at_ : Int
  long : Int
  data : List UInt8
  crash : Int
  room : Int
  keep : List Int
  fail : List Int
  full : List Int

def doA (a : ASt) (o : AOp) : ASt × Int :=
  if o.kind = 0 then createA a o.name else if o.kind = 1 then appendA a o.name o.data else if o.kind = 2 then writeA a o.name o.at_ o.data else if o.kind = 3 then cutA a o.name o.long
  else if o.kind = 4 then syncA a o.name else if o.kind = 5 then renameA a o.name o.to else if o.kind = 6 then removeA a o.name else if o.kind = 7 then (startA a o.crash o.room o.keep o.fail o.full, 0)
  else (a, (readA a o.name o.at_ o.long).2)

def Sm (e : Int) : Prop := 0 ≤ e ∧ e ≤ 15

theorem begin_small (a : ASt) : Sm (beginA a).2 := by
  unfold beginA Sm
  split
  · simp
  · split
    · simp
    · dsimp only
      split <;> simp

theorem on_small (a : ASt) (t : ByteArray) (k : ASt → AFile → ASt × Int) (hk : ∀ b f, Sm (k b f).2) : Sm (onA a t k).2 := by
  unfold onA
  split
  · exact begin_small a
  · split
    · exact ⟨by simp, by simp⟩
    · exact hk _ _

theorem chg_small (c : Chg) (a : ASt) (f : AFile) : Sm (chgA c a f).2 := by
  unfold chgA Sm
  split <;> simp

theorem do_small (a : ASt) (o : AOp) : Sm (doA a o).2 := by
  unfold doA
  split
  · unfold createA
    split
    · exact begin_small a
    · unfold Sm; split
      · simp
      · split
        · simp
        · split
          · simp
          · split <;> simp
  split
  · refine on_small _ _ _ fun b f => ?_
    split
    · exact ⟨by simp, by simp⟩
    · exact chg_small _ _ _
  split
  · refine on_small _ _ _ fun b f => ?_
    split
    · exact ⟨by simp, by simp⟩
    · split
      · exact ⟨by simp, by simp⟩
      · exact chg_small _ _ _
  split
  · refine on_small _ _ _ fun b f => ?_
    split
    · exact ⟨by simp, by simp⟩
    · split
      · exact ⟨by simp, by simp⟩
      · exact chg_small _ _ _
  split
  · exact on_small _ _ _ fun b f => ⟨by simp, by simp⟩
  split
  · refine on_small _ _ _ fun b f => ?_
    unfold Sm
    split
    · simp
    · split <;> simp
  split
  · exact on_small _ _ _ fun b f => ⟨by simp, by simp⟩
  split
  · exact ⟨by simp, by simp⟩
  · unfold readA Sm
    split
    · simp
    · split
      · simp
      · split <;> simp

/-- An operation's value, and what it reads in memory. -/
structure OpAt (w : World) (a a1 a2 a3 : Option Addr) (c c1 c2 c3 : Nat) (o : AOp) : Prop where
  nil : a = none → o.data = [] ∧ c = 0
  lt : ∀ b, a = some b → o.data ≠ [] → b.block < w.heap.size
  cell : ∀ b, a = some b → ∀ (j : Nat) (u : UInt8), o.data[j]? = some u → w.cell? (b.add j) = some (byteV u)
  len : o.data.length ≤ 140737488351232
  keep : RdS w a1 c1 (o.keep.map (Value.int .i64)) 8
  fail : RdS w a2 c2 (o.fail.map (Value.int .i64)) 8
  full : RdS w a3 c3 (o.full.map (Value.int .i64)) 8
  iAt : I64 o.at_
  iLong : I64 o.long
  iC : I64 o.crash
  iR : I64 o.room
  iK : ∀ x ∈ o.keep, I64 x
  iF : ∀ x ∈ o.fail, I64 x
  iU : ∀ x ∈ o.full, I64 x
  lK : o.keep.length * 8 ≤ 140737488351232
  lF : o.fail.length * 8 ≤ 140737488351232
  lU : o.full.length * 8 ≤ 140737488351232

abbrev opV (a a1 a2 a3 : Option Addr) (c c1 c2 c3 : Nat) (o : AOp) : Value :=
  .agg #[.int .i64 o.kind, .string o.name, .string o.to, .int .i64 o.at_, .int .i64 o.long, .slice a o.data.length c, .int .i64 o.crash, .slice a1 o.keep.length c1, .slice a2 o.fail.length c2, .slice a3 o.full.length c3, .int .i64 o.room]

/-- Where Do's loop over its own bytes is. -/
structure LoopI (w wr : World) (role : Role) (D B : Nat) (x : ASt) (v : Value) (n : Nat) (ys : List Value) : Prop where
  own : wr.ownsRow B 5 1 v n ys
  ex : ∃ role' s', DiskOK wr role' D s' ∧ Stp role role' w wr ∧ abs s' = x ∧ ∀ g, v.ownBlock = some g → role' g = none

theorem LoopI.of {w W1 w' : World} {role : Role} {D B : Nat} {s : DSt} {x : ASt × Int} {v : Value} {n : Nat} {ys : List Value} {r : Ending} (h : DiskOK w role D s) (hb : Below w.heap.size w W1) (hB : w.heap.size ≤ B) (ho : W1.ownsRow B 5 1 v n ys) (hd : Done W1 role D x r w') :
    r = .returned (.int .i64 x.2) ∧ Hid (LoopI w w' role D B x.1 v n ys) := by
  obtain ⟨h1, role', s', h2, h3, h4⟩ := hd
  have hnone : ∀ g, v.ownBlock = some g → role g = none := fun g e => no_role h (Nat.le_trans hB (ho.lt g e).1)
  refine ⟨h1, ?_, role', s', h2, (Stp.still hb).trans h3, h4, fun g e => ?_⟩
  · refine row_to ho (Nat.le_refl _) fun k hk hl => h3.keep k hl (.inl (no_role h (Nat.le_trans hB hk)))
  · rw [h3.ext g (ho.lt g e).2]; exact hnone g e

theorem LoopI.store {w wr : World} {role : Role} {D B g n cap j : Nat} {x : ASt} {ys : List Value} (h : LoopI w wr role D B x (.slice (some ⟨g, 0, none⟩) n cap) n ys) (hB : w.heap.size ≤ B) (u : Value) : LoopI w (wr.setCell ⟨g, j, none⟩ u) role D B x (.slice (some ⟨g, 0, none⟩) n cap) n (ys.set j u) := by
  obtain ⟨role', s', h1, h2, h3, h4⟩ := h.ex
  have hg := h4 g rfl
  exact ⟨(h.own.stored j u).1, role', s', h1.poke hg u, h2.poke (Nat.le_trans hB (h.own.lt g rfl).1) u, h3, h4⟩

end Go.Proofs.Ytcceaokldphfgaa
