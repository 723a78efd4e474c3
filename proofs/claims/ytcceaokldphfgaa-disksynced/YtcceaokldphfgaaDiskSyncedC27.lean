/- YtcceaokldphfgaaDiskSyncedC27 -/
import Derived.Lib.SlBytesConst
import Derived.Test.YtcceaokldphfgaaDiskSyncedC26
namespace Go.Proofs.Ytcceaokldphfgaa
open Go.RowKit Go.Shelf

def fA : AFile := { name := ⟨#[97]⟩, safe := [], chs := [], data := [] }

theorem own_zero {w : World} {B e size n : Nat} {v : Value} {xs : List Value} (h : w.ownsRow B e size v n xs) : w.ownsRow 0 e size v n xs := by
  obtain ⟨h1, h2 | ⟨g, cap, cur, h3, h4, h5⟩⟩ := h
  · exact ⟨h1, .inl h2⟩
  · exact ⟨h1, .inr ⟨g, cap, cur, h3, Nat.zero_le _, h5⟩⟩

set_option maxHeartbeats 1000000 in
set_option maxRecDepth 100000 in
theorem awake_any (w : World) :
    Calls Try.prog 9 #[] w fun r w' => r = .returned (.bool true) ∧ Below w.heap.size w w' := by
  have hb0 : Below w.heap.size w (w.alloc (.cells #[.int .i64 2] 3)) := (Below.refl _ w).alloc (Nat.le_refl _) _
  have hnew := is_new (w.alloc (.cells #[.int .i64 2] 3)) (.slice (some ⟨w.heap.size, 0, none⟩) 1 1) [2] 4 (.inr ⟨_, _, _, rfl, by simp, fun j x hx => by
    match j, hx with
    | 0, hx => simp at hx; subst hx; exact World.cell?_alloc_mark w _ 3 _ 0
    | j + 1, hx => simp at hx⟩) (by simp) (fun a n c e => by cases e; simp) (by simp [I64]) (by simp [I64])
  have HN := hideP hnew
  have HB := hideP hb0
  clear hnew hb0
  have kc := fun (w : World) (C : Array Value) (n c : Nat) => Lib.run_convert_bytes_const (P := Try.prog) w 33 5 C n c Try.underlying33 Try.underlying5
  go_enter Try.func9, Try.ntmps9
  go_wp2_with fail
  refine HN.out.mono ?_
  rintro r w1 ⟨D, rfl, H1⟩
  have hc1 := is_create H1.out ⟨#[97]⟩ (by omega) (by omega) (by decide) (by simp) (by simp)
  have HC1 := hideP hc1
  clear hc1
  go_wp2_with fail
  refine HC1.out.mono ?_
  rintro r w2 ⟨rfl, H2⟩
  have hc2 := is_append (a := fA) H2.out [97, 98, 99] #[.int .u8 97, .int .u8 98, .int .u8 99] (by rfl) (3, 4) (by omega) (by omega) (by simp [fA])
  have HC2 := hideP hc2
  clear hc2
  go_wp2_with fail
  refine HC2.out.mono ?_
  rintro r w3 ⟨rfl, H3⟩
  have hc3 := is_none H3.out ⟨#[98]⟩ (by omega) (by omega) (by decide)
  have HC3 := hideP hc3
  clear hc3
  go_wp2_with fail
  refine HC3.out.mono ?_
  rintro r w4 ⟨rfl, H4⟩
  have hc4 := is_crash H4.out ⟨#[97]⟩ [100, 101] #[.int .u8 100, .int .u8 101] (by rfl) (2, 3) (by omega) (by omega) (by simp)
  have HC4 := hideP hc4
  clear hc4
  go_wp2_with fail
  refine HC4.out.mono ?_
  rintro r w5 ⟨rfl, H5⟩
  have hc5 := is_dead H5.out
  have hc6 := is_ops H5.out
  have HC5 := hideP hc5
  have HC6 := hideP hc6
  clear hc5 hc6
  go_wp2_with fail
  refine HC5.out.mono ?_
  rintro r w6 ⟨rfl, hw⟩
  subst hw
  go_wp2_with fail
  refine HC6.out.mono ?_
  rintro r w6 ⟨rfl, hw⟩
  subst hw
  go_wp2_with fail
  have hc7 := is_start H5.out (by simp [dieAll, dieA])
  have HC7 := hideP hc7
  clear hc7
  refine HC7.out.mono ?_
  rintro r w7 ⟨rfl, H7⟩
  have hfd : (dieAll [2] 0 [changeA (.inl (fA.data.length, [97, 98, 99])) fA]).find? (fun a => cmpS a.name ⟨#[97]⟩ == 0) = some { name := ⟨#[97]⟩, safe := [97, 98], chs := [], data := [97, 98] } := by rfl
  have hc8 := is_read H7.out ⟨#[97]⟩ hfd 2 (by simp) (by simp)
  have HC8 := hideP hc8
  clear hc8 hfd
  go_wp2_with fail
  refine HC8.out.mono ?_
  rintro r w8 ⟨b, rfl, ho, H8⟩
  have hcv : (convert 33 9 (.slice (some ⟨b, 0, none⟩) 2 2)).run Try.prog w8 = .ok (.string ⟨#[97, 98]⟩) w8 :=
    run_convert_bytes_back (P := Try.prog) w8 33 9 5 ⟨b, 0, none⟩ 2 [97, 98] Try.underlying33 Try.underlying5 Try.underlying9 (fun j hj => by
      obtain ⟨_, _, e, _, hc⟩ := Rd.of_own (l := [97, 98]) (own_zero ho)
      cases e
      obtain ⟨ad, ea, hc⟩ := hc j _ (List.getElem?_eq_getElem hj)
      cases ea
      exact hc)
  have HC9 := hideP (is_files H8.out)
  clear ho
  go_wp2_with fail
  refine HC9.out.mono ?_
  rintro r w9 ⟨⟨a, c, rfl⟩, H9⟩
  go_wp2
  go_ret
  exact ⟨rfl, HB.out.trans (H9.out.below.mono (by simp))⟩

end Go.Proofs.Ytcceaokldphfgaa
