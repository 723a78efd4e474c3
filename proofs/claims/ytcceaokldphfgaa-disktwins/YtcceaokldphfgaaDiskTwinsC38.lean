/- YtcceaokldphfgaaDiskTwinsC38 -/
import Derived.Test.YtcceaokldphfgaaDiskTwinsC34
import Derived.Test.YtcceaokldphfgaaDiskTwinsC22
import Derived.Test.YtcceaokldphfgaaDiskTwinsC32
import Derived.Test.YtcceaokldphfgaaDiskTwinsC20
namespace Go.Proofs.Ytcceaokldphfgaa
open Go.RowKit Go.Shelf

theorem putObj_heap_other (W : World) (l k : Nat) (o : Obj) (h : k ≠ l) : (W.putObj l o).heap[k]? = W.heap[k]? := by
  simp [World.putObj, Ne.symm h]

end Go.Proofs.Ytcceaokldphfgaa

namespace Go.Proofs.Ytcceaokldphfgaa
open Go.ChangeShapes Go.WideShapes Go.ChangeAt Go.RowKit Go.Shelf

theorem Try.own : ownKnob Try.prog.godebug = none := by kernel_rfl

theorem Try.laidOut : laidOutB Try.prog = true := by kernel_rfl

end Go.Proofs.Ytcceaokldphfgaa

namespace Go.Proofs.Ytcceaokldphfgaa
open Go.RowKit Go.Shelf

/-- Two cells for each file: its name, and its bytes in a row of their own. -/
def Told (B : Nat) (W : World) (cs : List Value) (l : List (ByteArray × List UInt8)) : Prop :=
  ∀ (j : Nat) (x : ByteArray × List UInt8), l[j]? = some x → ∃ bv, cs[2 * j]? = some (.string x.1) ∧ cs[2 * j + 1]? = some bv ∧ W.ownsRow B 5 1 bv x.2.length (x.2.map byteV)

def colL {fs : List FRep} (col : FRep → List UInt8) (pre : List (Of fs)) : List (ByteArray × List UInt8) := pre.map fun x => (x.1.a.name, col x.1)

/-- What Files has gathered. -/
structure FilesJ (w : World) {fs : List FRep} (col : FRep → List UInt8) (pre : List (Of fs)) (W : World) : Prop where
  ex : ∃ a c cs, W.heap[w.heap.size]? = some (.cells #[.slice a pre.length c] 53 (0, 0)) ∧ W.ownsRow w.heap.size 69 2 (.slice a pre.length c) pre.length cs ∧ Told w.heap.size W cs (colL col pre)
  below : Below w.heap.size w W

theorem Told.same {B : Nat} {W W' : World} {cs : List Value} {l : List (ByteArray × List UInt8)} (h : Told B W cs l) (hs : ∀ k cur, B ≤ k → W.heap[k]? = some (.cells cur 5 (0, 0)) → W'.heap[k]? = W.heap[k]?) : Told B W' cs l := by
  intro j x hx
  obtain ⟨bv, h1, h2, h3⟩ := h j x hx
  refine ⟨bv, h1, h2, ?_⟩
  obtain ⟨hl, h0 | ⟨g, cap, cur, rfl, hb, hg, hr⟩⟩ := h3
  · exact ⟨hl, .inl h0⟩
  · exact ⟨hl, .inr ⟨g, cap, cur, rfl, hb, (hs g cur hb hg).trans hg, hr⟩⟩

theorem Told.snoc {B : Nat} {W : World} {cs : List Value} {l : List (ByteArray × List UInt8)} {nm : ByteArray} {bs : List UInt8} {bv : Value} (h : Told B W cs l) (hl : cs.length = 2 * l.length) (hb : W.ownsRow B 5 1 bv bs.length (bs.map byteV)) : Told B W (cs ++ [.string nm, bv]) (l ++ [(nm, bs)]) := by
  intro j x hx
  rw [List.getElem?_append] at hx
  by_cases hj : j < l.length
  · rw [if_pos hj] at hx
    obtain ⟨v, h1, h2, h3⟩ := h j x hx
    exact ⟨v, by rw [List.getElem?_append_left (by omega)]; exact h1, by rw [List.getElem?_append_left (by omega)]; exact h2, h3⟩
  · rw [if_neg hj] at hx
    have hj0 : j = l.length := by
      have := (List.getElem?_eq_some_iff.1 hx).1
      simp at this; omega
    subst hj0
    simp only [Nat.sub_self, List.getElem?_cons_zero, Option.some.injEq] at hx
    subst hx
    refine ⟨bv, ?_, ?_, hb⟩
    · rw [List.getElem?_append_right (by omega), show 2 * l.length - cs.length = 0 by omega]; rfl
    · rw [List.getElem?_append_right (by omega), show 2 * l.length + 1 - cs.length = 1 by omega]; rfl

theorem filesJ_own {w : World} {fs : List FRep} {col : FRep → List UInt8} {B : Nat} (hB : w.heap.size ≤ B) : OwnFrom B (fun (pre : List (Of fs)) W => FilesJ w col pre W) := by
  intro pre W W' row h hg hr
  have hn : ∀ r, row = some r → ¬ isC W r := by
    rintro r e ⟨cs, t, fr, hc⟩
    obtain ⟨_, o, ho, hcc⟩ := hr r e
    rw [hc] at ho
    cases ho
    simp [Obj.isCells] at hcc
  obtain ⟨a, c, cs, h1, h2, h3⟩ := h.ex
  refine ⟨⟨a, c, cs, (hg.block _ (Array.getElem?_eq_some_iff.1 h1).1 (fun e => hn _ e.symm ⟨_, _, _, h1⟩)).trans h1, h2.kept hg ?_, h3.same fun k cur _ hk => hg.block k (Array.getElem?_eq_some_iff.1 hk).1 (fun e => hn _ e.symm ⟨_, _, _, hk⟩)⟩, h.below.grown hg h.below.size (fun k e => Nat.le_trans hB (hr k e).1)⟩
  cases e : (Value.slice a pre.length c).ownBlock with
  | none => exact .inl rfl
  | some g =>
    right
    intro e'
    obtain ⟨cur, hgg, _⟩ := own_block h2 e
    exact hn g e'.symm ⟨_, _, _, hgg⟩

/-- One file more. -/
theorem filesJ_step {w W w2 : World} {role : Role} {D : Nat} {s : DSt} {col : FRep → List UInt8} {pre : List (Of s.fs)} {x : Of s.fs} {d2 : Value} {a : Option Addr} {c : Nat} {cs : List Value} (h : DiskOK w role D s)
    (hbx : W.heap[w.heap.size]? = some (.cells #[.slice a pre.length c] 53 (0, 0))) (hown : W.ownsRow w.heap.size 69 2 (.slice a pre.length c) pre.length cs) (htold : Told w.heap.size W cs (colL col pre)) (hb : Below w.heap.size w W) (hb2 : Below W.heap.size W w2) (hn : pre.length < 4096) (hd : d2.oneCell' = true)
    (hnew : w2.ownsRow w.heap.size 5 1 d2 (col x.1).length ((col x.1).map byteV)) :
    ∃ a3 n3 c3 w3, (Builtin.append_ #[53, 53] 53 #[.slice a pre.length c, .slice (some ⟨w2.heap.size, 0, none⟩) 1 1]).run Try.prog (w2.alloc (.cells #[.string x.1.a.name, d2] 69)) = .ok (.slice a3 n3 c3) w3 ∧
      w3.cell? ⟨w.heap.size, 0, none⟩ = some (.slice a pre.length c) ∧ w3.frozen? ⟨w.heap.size, 0, none⟩ = false ∧ Below w.heap.size w w3 ∧ Below w.heap.size w (w3.setCell ⟨w.heap.size, 0, none⟩ (.slice a3 n3 c3)) ∧
      (∀ B, KeepsFrom B W (w3.setCell ⟨w.heap.size, 0, none⟩ (.slice a3 n3 c3))) ∧ KpR s.filesV s.fs W (w3.setCell ⟨w.heap.size, 0, none⟩ (.slice a3 n3 c3)) ∧ FilesJ w col (pre ++ [x]) (w3.setCell ⟨w.heap.size, 0, none⟩ (.slice a3 n3 c3)) := by
  obtain ⟨i0, hi0, hz0, hz1, hz2⟩ := info_parts Try.info69
  have hBlt : w.heap.size < W.heap.size := (Array.getElem?_eq_some_iff.1 hbx).1
  have hVb : Below W.heap.size W (w2.alloc (.cells #[.string x.1.a.name, d2] 69)) := hb2.alloc hb2.size _
  have hrow : ∀ g, (Value.slice a pre.length c).ownBlock = some g → g < W.heap.size ∧ g ≠ w.heap.size ∧ isC W g := by
    intro g e
    obtain ⟨cur, hg, _⟩ := own_block hown e
    refine ⟨(Array.getElem?_eq_some_iff.1 hg).1, fun e' => ?_, ⟨_, _, _, hg⟩⟩
    rw [e'] at hg
    rw [hg] at hbx
    simp at hbx
  have hownV : (w2.alloc (.cells #[.string x.1.a.name, d2] 69)).ownsRow w.heap.size 69 2 (.slice a pre.length c) pre.length cs := by
    obtain ⟨hl, h' | ⟨g, cap, cur, e, hbg, hg, hr⟩⟩ := hown
    · exact ⟨hl, .inl h'⟩
    · exact ⟨hl, .inr ⟨g, cap, cur, e, hbg, (hVb.block g (Array.getElem?_eq_some_iff.1 hg).1).trans hg, hr⟩⟩
  have hnw : (w2.alloc (.cells #[.string x.1.a.name, d2] 69)).heap[w2.heap.size]? = some (.cells #[.string x.1.a.name, d2] 69 (0, 0)) := World.alloc_heap_new w2 _
  obtain ⟨v3, w3, hrun, hown3, hgr, _⟩ := run_append_own (P := Try.prog) (w2.alloc (.cells #[.string x.1.a.name, d2] 69)) w.heap.size 53 53 69 i0 (.agg #[.string ByteArray.empty, .slice none 0 0]) 2 40 Try.underlying53 hi0 hz0 hz1 hz2 rfl (by decide) (.slice a pre.length c) pre.length cs hownV ⟨w2.heap.size, 0, none⟩ 1 1 [.string x.1.a.name, d2] rfl
    (fun j u hu => by
      rw [Addr.add_lit, Nat.zero_add]
      match j, hu with
      | 0, hu => simp only [List.getElem?_cons_zero, Option.some.injEq] at hu; subst hu; exact blk_cell hnw rfl
      | 1, hu => simp only [List.getElem?_cons_succ, List.getElem?_cons_zero, Option.some.injEq] at hu; subst hu; exact blk_cell hnw rfl
      | j + 2, hu => simp at hu)
    (fun u hu => by
      simp only [List.mem_cons, List.not_mem_nil, or_false] at hu
      rcases hu with rfl | rfl
      · rfl
      · exact hd) (by unfold maxLen; omega) (by omega) (by have := hVb.size; omega)
  obtain ⟨a3, c3, rfl⟩ := own_shape hown3
  have hVW : W.heap.size ≤ (w2.alloc (.cells #[.string x.1.a.name, d2] 69)).heap.size := hVb.size
  have hsame : ∀ k, k < W.heap.size → (Value.slice a pre.length c).ownBlock ≠ some k → w3.heap[k]? = W.heap[k]? := fun k hk hne => (hgr.block k (by omega) (fun e => hne e.symm)).trans (hVb.block k hk)
  have hbx3 : w3.heap[w.heap.size]? = some (.cells #[.slice a pre.length c] 53 (0, 0)) := (hsame _ hBlt (fun e => (hrow _ e).2.1 rfl)).trans hbx
  have hbel3 : Below w.heap.size w w3 := by
    have h1 : Below w.heap.size w (w2.alloc (.cells #[.string x.1.a.name, d2] 69)) := hb.trans (hVb.mono (by omega))
    exact h1.grown hgr (by omega) (fun k e => by
      obtain ⟨_, _, hk⟩ := own_block hown e
      exact hk)
  have hbel4 : Below w.heap.size w (w3.setCell ⟨w.heap.size, 0, none⟩ (.slice a3 (pre.length + 1) c3)) := hbel3.setCell (p := ⟨w.heap.size, 0, none⟩) (Nat.le_refl _) _
  have hoth : Oth W (w3.setCell ⟨w.heap.size, 0, none⟩ (.slice a3 (pre.length + 1) c3)) := by
    refine Oth.trans (B := w3) ⟨by have := hgr.size; omega, fun k hk hn => hsame k hk (fun e => hn (hrow k e).2.2)⟩ (Oth.setCell hbx3 _)
  have hbyte : ∀ (V : World) k cur, k < (w2.alloc (.cells #[.string x.1.a.name, d2] 69)).heap.size → (w2.alloc (.cells #[.string x.1.a.name, d2] 69)).heap[k]? = V.heap[k]? → V.heap[k]? = some (.cells cur 5 (0, 0)) → (w3.setCell ⟨w.heap.size, 0, none⟩ (.slice a3 (pre.length + 1) c3)).heap[k]? = V.heap[k]? := by
    intro V k cur hk hV hc
    have hkb : k ≠ w.heap.size := fun e => by
      subst e
      have h1 := (hVb.block _ hBlt).trans hbx
      rw [hV, hc] at h1
      simp at h1
    refine (Below.heap_setCell w3 _ _ k hkb).trans ((hgr.block k hk (fun e => ?_)).trans hV)
    obtain ⟨cur2, hg2, _⟩ := own_block hownV e.symm
    rw [hV, hc] at hg2
    simp at hg2
  have hcsl : cs.length = 2 * pre.length := by have := hown.1; omega
  refine ⟨a3, _, c3, w3, hrun, blk_cell hbx3 rfl, blk_free hbx3, hbel3, hbel4, fun B => hoth.keeps B, KpR.of_same (fun g e => ?_), ⟨⟨a3, c3, cs ++ [.string x.1.a.name, d2], ?_, ?_, ?_⟩, hbel4⟩⟩
  · have hg := (h.files.lt g e).2
    exact (hbel4.block g hg).trans (hb.block g hg).symm
  · have := blk_set (o := 0) hbx3 (.slice a3 (pre.length + 1) c3)
    simpa using this
  · have hne : (Value.slice a3 (pre.length + 1) c3).ownBlock ≠ some w.heap.size := fun e => by
      obtain ⟨cur, hg, _⟩ := own_block hown3 e
      rw [hg] at hbx3
      simp at hbx3
    have := ownsRow_setCell_other hown3 (a := ⟨w.heap.size, 0, none⟩) hne (.slice a3 (pre.length + 1) c3)
    simpa using this
  · have e : colL col (pre ++ [x]) = colL col pre ++ [(x.1.a.name, col x.1)] := by simp [colL]
    rw [e]
    refine Told.snoc (htold.same fun k cur hk hc => hbyte W k cur (by have := (Array.getElem?_eq_some_iff.1 hc).1; omega) (hVb.block k (Array.getElem?_eq_some_iff.1 hc).1) hc) (by rw [hcsl]; simp [colL]) ?_
    obtain ⟨hl, h0 | ⟨g, cap, cur, rfl, hbg, hg, hr⟩⟩ := hnew
    · exact ⟨hl, .inl h0⟩
    · have hglt := (Array.getElem?_eq_some_iff.1 hg).1
      refine ⟨hl, .inr ⟨g, cap, cur, rfl, hbg, (hbyte w2 g cur (by simp; omega) (Below.heap_alloc w2 _ g hglt) hg).trans hg, hr⟩⟩

end Go.Proofs.Ytcceaokldphfgaa
