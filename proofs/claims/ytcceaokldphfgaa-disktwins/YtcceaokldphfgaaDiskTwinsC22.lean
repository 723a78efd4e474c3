/- YtcceaokldphfgaaDiskTwinsC22 -/
import Derived.Lib.SlBytesConst
import Derived.Test.YtcceaokldphfgaaDiskTwinsC21
import Derived.Test.YtcceaokldphfgaaRows
import Derived.ProofKit
import Derived.SizedLaws
import Derived.Deep.Slices
namespace Go.Proofs.Ytcceaokldphfgaa
open Go.RowKit Go.Shelf

def fA : AFile := { name := ⟨#[97]⟩, safe := [], chs := [], data := [] }

theorem own_zero {w : World} {B e size n : Nat} {v : Value} {xs : List Value} (h : w.ownsRow B e size v n xs) : w.ownsRow 0 e size v n xs := by
  obtain ⟨h1, h2 | ⟨g, cap, cur, h3, h4, h5⟩⟩ := h
  · exact ⟨h1, .inl h2⟩
  · exact ⟨h1, .inr ⟨g, cap, cur, h3, Nat.zero_le _, h5⟩⟩

set_option maxHeartbeats 1000000 in
set_option maxRecDepth 100000 in
theorem awake_any (w : World) :
    Calls Try.prog 9 #[] w fun r w' => r = .returned (.bool true) ∧ Below w.heap.size w w' := by
  have hb0 : Below w.heap.size w (w.alloc (.cells #[.int .i64 2] 3)) := (Below.refl _ w).alloc (Nat.le_refl _) _
  have hnew := is_new (w.alloc (.cells #[.int .i64 2] 3)) (.slice (some ⟨w.heap.size, 0, none⟩) 1 1) [2] 4 (.inr ⟨_, _, _, rfl, by simp, fun j x hx => by
    match j, hx with
    | 0, hx => simp at hx; subst hx; exact World.cell?_alloc_mark w _ 3 _ 0
    | j + 1, hx => simp at hx⟩) (by simp) (fun a n c e => by cases e; simp) (by simp [I64]) (by simp [I64])
  have HN := hideP hnew
  have HB := hideP hb0
  clear hnew hb0
  have kc := fun (w : World) (C : Array Value) (n c : Nat) => Lib.run_convert_bytes_const (P := Try.prog) w 33 5 C n c Try.underlying33 Try.underlying5
  go_enter Try.func9, Try.ntmps9
  go_wp2_with fail
  refine HN.out.mono ?_
  rintro r w1 ⟨D, rfl, H1⟩
  have hc1 := is_create H1.out ⟨#[97]⟩ (by omega) (by omega) (by decide) (by simp) (by simp)
  have HC1 := hideP hc1
  clear hc1
  go_wp2_with fail
  refine HC1.out.mono ?_
  rintro r w2 ⟨rfl, H2⟩
  have hc2 := is_append (a := fA) H2.out [97, 98, 99] #[.int .u8 97, .int .u8 98, .int .u8 99] (by rfl) (3, 4) (by omega) (by omega) (by simp [fA])
  have HC2 := hideP hc2
  clear hc2
  go_wp2_with fail
  refine HC2.out.mono ?_
  rintro r w3 ⟨rfl, H3⟩
  have hc3 := is_none H3.out ⟨#[98]⟩ (by omega) (by omega) (by decide)
  have HC3 := hideP hc3
  clear hc3
  go_wp2_with fail
  refine HC3.out.mono ?_
  rintro r w4 ⟨rfl, H4⟩
  have hc4 := is_crash H4.out ⟨#[97]⟩ [100, 101] #[.int .u8 100, .int .u8 101] (by rfl) (2, 3) (by omega) (by omega) (by simp)
  have HC4 := hideP hc4
  clear hc4
  go_wp2_with fail
  refine HC4.out.mono ?_
  rintro r w5 ⟨rfl, H5⟩
  have hc5 := is_dead H5.out
  have hc6 := is_ops H5.out
  have HC5 := hideP hc5
  have HC6 := hideP hc6
  clear hc5 hc6
  go_wp2_with fail
  refine HC5.out.mono ?_
  rintro r w6 ⟨rfl, hw⟩
  subst hw
  go_wp2_with fail
  refine HC6.out.mono ?_
  rintro r w6 ⟨rfl, hw⟩
  subst hw
  go_wp2_with fail
  have hc7 := is_start H5.out (by simp [dieAll, dieA])
  have HC7 := hideP hc7
  clear hc7
  refine HC7.out.mono ?_
  rintro r w7 ⟨rfl, H7⟩
  have hfd : (dieAll [2] 0 [changeA (.inl (fA.data.length, [97, 98, 99])) fA]).find? (fun a => cmpS a.name ⟨#[97]⟩ == 0) = some { name := ⟨#[97]⟩, safe := [97, 98], chs := [], data := [97, 98] } := by rfl
  have hc8 := is_read H7.out ⟨#[97]⟩ hfd 2 (by simp) (by simp)
  have HC8 := hideP hc8
  clear hc8 hfd
  go_wp2_with fail
  refine HC8.out.mono ?_
  rintro r w8 ⟨b, rfl, ho, H8⟩
  have hcv : (convert 33 9 (.slice (some ⟨b, 0, none⟩) 2 2)).run Try.prog w8 = .ok (.string ⟨#[97, 98]⟩) w8 :=
    run_convert_bytes_back (P := Try.prog) w8 33 9 5 ⟨b, 0, none⟩ 2 [97, 98] Try.underlying33 Try.underlying5 Try.underlying9 (fun j hj => by
      obtain ⟨_, _, e, _, hc⟩ := Rd.of_own (l := [97, 98]) (own_zero ho)
      cases e
      obtain ⟨ad, ea, hc⟩ := hc j _ (List.getElem?_eq_getElem hj)
      cases ea
      exact hc)
  have HC9 := hideP (is_files H8.out)
  clear ho
  go_wp2_with fail
  refine HC9.out.mono ?_
  rintro r w9 ⟨⟨a, c, rfl⟩, H9⟩
  go_wp2
  go_ret
  exact ⟨rfl, HB.out.trans (H9.out.below.mono (by simp))⟩

end Go.Proofs.Ytcceaokldphfgaa

namespace Go.Proofs.Ytcceaokldphfgaa
open Go.RowKit Go.Shelf

/-- append to nil: a row in new memory. -/
theorem append_nil_run {w : World} {t e : TypeId} {bytes : Nat} {z : Value} (ht : Try.prog.underlying t = some (.slice e)) (hi : (Try.prog.info? e).map (fun i => (i.zero, i.size, i.bytes)) = some (some z, 1, bytes)) (hz : z.cells.size = 1) (ty : TypeId)
    (ao : Option Addr) (c : Nat) (xs : List Value) (hs : ao = none → xs = [] ∧ c = 0) (hx : ∀ a, ao = some a → ∀ j u, xs[j]? = some u → w.cell? (a.add j) = some u) (h1 : ∀ u ∈ xs, u.oneCell' = true) (h63 : xs.length ≤ 9223372036854775807) (hby : xs.length * bytes ≤ 140737488355328) :
    ∃ v' w', (Builtin.append_ #[t, t] ty #[.slice none 0 0, .slice ao xs.length c]).run Try.prog w = .ok v' w' ∧ w'.ownsRow w.heap.size e 1 v' xs.length xs ∧ Below w.heap.size w w' := by
  obtain ⟨i0, hi0, hz0, hz1, hz2⟩ := info_parts hi
  cases ao with
  | none =>
    obtain ⟨rfl, rfl⟩ := hs rfl
    have := run_append_owned_none (P := Try.prog) (w := w) w.heap.size t ty e i0 1 ht hi0 (.slice none 0 0) 0 [] (World.ownsRow_nil _ _ _ _)
    exact ⟨_, _, this, World.ownsRow_nil _ _ _ _, Below.refl _ _⟩
  | some a =>
    obtain ⟨v', w', q1, q2, q3, _⟩ := run_append_own (P := Try.prog) w w.heap.size t ty e i0 z 1 bytes ht hi0 hz0 hz1 hz2 hz (by decide) (.slice none 0 0) 0 [] (World.ownsRow_nil _ _ _ _) a xs.length c xs (by simp) (hx a rfl) h1 (by unfold maxLen; omega) (by simpa using hby) (Nat.le_refl _)
    refine ⟨v', w', q1, by simpa using q2, (Below.refl _ _).grown q3 (Nat.le_refl _) (fun k h => by cases h)⟩

set_option maxHeartbeats 400000 in
set_option maxRecDepth 100000 in
theorem twin_any (ao : Option Addr) (c : Nat) (l : List UInt8) (w : World) (hs : ao = none → l = [] ∧ c = 0) (hx : ∀ a, ao = some a → ∀ j u, l[j]? = some u → w.cell? (a.add j) = some (byteV u)) (hl : l.length ≤ 140737488355328) :
    Calls Try.prog 32 #[.slice ao l.length c] w fun e w' => ∃ v', e = .returned v' ∧ w'.ownsRow w.heap.size 5 1 v' l.length (l.map byteV) ∧ Below w.heap.size w w' := by
  obtain ⟨v', w', hrun, ho, hb⟩ := append_nil_run (w := w) Try.underlying33 Try.info5 rfl 33 ao c (l.map byteV) (fun e => by obtain ⟨rfl, h⟩ := hs e; exact ⟨rfl, h⟩)
    (fun a e j u hu => by
      simp only [List.getElem?_map, Option.map_eq_some_iff] at hu
      obtain ⟨x, hx1, rfl⟩ := hu
      exact hx a e j x hx1) (byteV_one l) (by simp; omega) (by simp; omega)
  rw [List.length_map] at hrun ho
  have HQ := hideP (And.intro ho hb)
  have HR := hideP hrun
  clear ho hb hx hs hrun
  go_enter Try.func32, Try.ntmps32
  go_wp2_with (at_builtin; refine Lib.wpList_append_run _ rfl _ _ 33 33 rfl _ _ rfl rfl v' w' HR.out ?_)
  go_ret
  exact ⟨_, rfl, HQ.out⟩

end Go.Proofs.Ytcceaokldphfgaa

namespace Go.Proofs.Ytcceaokldphfgaa
open Go.RowKit Go.Shelf

/-- A slice of one-cell values that can be read, below w's size. -/
structure RdS (w : World) (ao : Option Addr) (c : Nat) (xs : List Value) (bytes : Nat) : Prop where
  nil : ao = none → xs = [] ∧ c = 0
  lt : ∀ a, ao = some a → xs ≠ [] → a.block < w.heap.size
  at_ : ∀ a, ao = some a → ∀ j u, xs[j]? = some u → w.cell? (a.add j) = some u
  one : ∀ u ∈ xs, u.oneCell' = true
  len : xs.length ≤ 9223372036854775807
  room : xs.length * bytes ≤ 140737488355328

theorem RdS.later {w w' : World} {ao : Option Addr} {c : Nat} {xs : List Value} {bytes : Nat} (h : RdS w ao c xs bytes) (hb : Below w.heap.size w w') : RdS w' ao c xs bytes :=
  ⟨h.nil, fun a e hne => Nat.lt_of_lt_of_le (h.lt a e hne) hb.size, fun a e j u hu => (hb.cell (p := a.add j) (by rw [add_block]; exact h.lt a e (by rintro rfl; simp at hu))).trans (h.at_ a e j u hu), h.one, h.len, h.room⟩

theorem RdS.copied {w w0 : World} {ao : Option Addr} {c : Nat} {xs : List Value} (h : RdS w0 ao c xs 8) (hb : Below w0.heap.size w0 w) :
    ∃ v' w', (Builtin.append_ #[22, 22] 22 #[.slice none 0 0, .slice ao xs.length c]).run Try.prog w = .ok v' w' ∧ w'.ownsRow w.heap.size 3 1 v' xs.length xs ∧ Below w.heap.size w w' :=
  have h' := h.later hb
  append_nil_run Try.underlying22 Try.info3 rfl 22 ao c xs h'.nil h'.at_ h'.one h'.len h'.room

end Go.Proofs.Ytcceaokldphfgaa

namespace Go.Proofs.Ytcceaokldphfgaa
open Go.ChangeShapes Go.WideShapes Go.ChangeAt Go.RowKit Go.Shelf Go.Deep

theorem Try.cells3 : Try.prog.cellsOf 3 = 1 := by kernel_rfl

theorem Try.cells5 : Try.prog.cellsOf 5 = 1 := by kernel_rfl

theorem Try.cells9 : Try.prog.cellsOf 9 = 1 := by kernel_rfl

theorem Try.cells22 : Try.prog.cellsOf 22 = 1 := by kernel_rfl

theorem Try.cells33 : Try.prog.cellsOf 33 = 1 := by kernel_rfl

theorem Try.cells24 : Try.prog.cellsOf 24 = 5 := by kernel_rfl

theorem Try.cells35 : Try.prog.cellsOf 35 = 11 := by kernel_rfl

theorem Try.bytes3 : Try.prog.bytesOf 3 = 8 := by kernel_rfl

theorem Try.bytes5 : Try.prog.bytesOf 5 = 1 := by kernel_rfl

theorem list5 {α : Type} {cs : List α} (h : cs.length = 5) : ∃ c0 c1 c2 c3 c4, cs = [c0, c1, c2, c3, c4] := by
  match cs, h with
  | [c0, c1, c2, c3, c4], _ => exact ⟨c0, c1, c2, c3, c4, rfl⟩

theorem list7 {α : Type} {cs : List α} (h : cs.length = 7) : ∃ c0 c1 c2 c3 c4 c5 c6, cs = [c0, c1, c2, c3, c4, c5, c6] := by
  match cs, h with
  | [c0, c1, c2, c3, c4, c5, c6], _ => exact ⟨c0, c1, c2, c3, c4, c5, c6, rfl⟩

theorem list11 {α : Type} {cs : List α} (h : cs.length = 11) : ∃ c0 c1 c2 c3 c4 c5 c6 c7 c8 c9 c10, cs = [c0, c1, c2, c3, c4, c5, c6, c7, c8, c9, c10] := by
  match cs, h with
  | [c0, c1, c2, c3, c4, c5, c6, c7, c8, c9, c10], _ => exact ⟨c0, c1, c2, c3, c4, c5, c6, c7, c8, c9, c10, rfl⟩

section
variable {H : Type} {enc : TypeId × Value → H} {W : World}

theorem bytes_of : ∀ {xs : List Value}, (∀ u ∈ xs, ∃ n, u = .int .u8 n ∧ (Lit.int .u8 n).wf = true) → ∃ l : List UInt8, xs = l.map byteV
  | [], _ => ⟨[], rfl⟩
  | x :: xs, h => by
    obtain ⟨n, rfl, hn⟩ := h x (by simp)
    obtain ⟨l, rfl⟩ := bytes_of (xs := xs) (fun u hu => h u (by simp [hu]))
    have hr : 0 ≤ n ∧ n ≤ 255 := by simp [Lit.wf, IntKind.min, IntKind.max, IntKind.signed, IntKind.bits] at hn; omega
    refine ⟨UInt8.ofNat n.toNat :: l, ?_⟩
    simp only [List.map_cons, List.cons.injEq, and_true, byteV]
    congr 1
    simp [UInt8.toNat_ofNat']
    omega

end
end Go.Proofs.Ytcceaokldphfgaa
