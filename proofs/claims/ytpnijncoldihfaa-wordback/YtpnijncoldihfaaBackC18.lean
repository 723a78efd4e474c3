/-
  Slices of bytes: parts of an array of 32, what is copied, the least bytes of a number.
-/
import Derived.Test.YtpnijncoldihfaaBackC15
import Derived.Test.YtpnijncoldihfaaBackC17
import Derived.Test.YtpnijncoldihfaaBackC16
import Derived.Test.YtpnijncoldihfaaBackC03
import Derived.Laws.CopyOwn
import Derived.OwnWalk
import Derived.Deep.Upon
namespace Go.Proofs.Ytpnijncoldihfaa
open Go.RowKit Go.Shelf

theorem small_limbs {x0 x1 x2 x3 e : Nat} (he : e < 18446744073709551616) (h : num x0 x1 x2 x3 < e) : num x0 x1 x2 x3 = x0 ∧ x0 < e := by
  unfold num at *
  omega

theorem small_mod {e : Nat} (he : e < 18446744073709551616) : e % M256 = e := Nat.mod_eq_of_lt (by unfold M256; omega)

set_option maxHeartbeats 1000000 in
set_option maxRecDepth 100000 in
theorem within_in (N en : Nat) (he : en < 9223372036854775808) (h : N % M256 < en) (w : World) : Calls Try.prog 104 #[wv N, .int .i64 en] w fun e w' => e = .returned (.tuple #[.int .i64 ((N % M256 : Nat) : Int), .bool true]) ∧ Below w.heap.size w w' := by
  have hof := fun W => of_any en (by omega) W
  have hcm := fun W => cmp_any N en W
  rw [small_mod (by omega : en < 18446744073709551616)] at hcm
  rw [cmpI_lt h] at hcm
  have hwe : IntKind.u64.wrap (en : Int) = en := by rw [IntKind.wrap_u64]; omega
  obtain ⟨x0, x1, x2, x3, h0, h1, h2, h3, eX, hX⟩ := wv_limbs N
  rw [eX] at h ⊢
  obtain ⟨hn, hlt⟩ := small_limbs (by omega) h
  rw [hn]
  have hwi : IntKind.i64.wrap (x0 : Int) = x0 := by rw [IntKind.wrap_i64]; omega
  obtain ⟨e0, e1, e2, e3, hE⟩ := wv_form en
  simp only [hX, hE] at hof hcm ⊢
  have HOF := hideP hof
  have HCM := hideP hcm
  clear hof hcm hX hE h h1 h2 h3 h0 eX hn hlt he
  go_enter Try.func104, Try.ntmps104
  go_wp2_with fail
  refine at_world (fun W0 hW0 => ?_)
  have cx0 : W0.cell? ⟨w.heap.size, 0, none⟩ = some (.int .u64 x0) := by rw [hW0]; simp
  have cx1 : W0.cell? ⟨w.heap.size, 1, none⟩ = some (.int .u64 x1) := by rw [hW0]; simp
  have cx2 : W0.cell? ⟨w.heap.size, 2, none⟩ = some (.int .u64 x2) := by rw [hW0]; simp
  have cx3 : W0.cell? ⟨w.heap.size, 3, none⟩ = some (.int .u64 x3) := by rw [hW0]; simp
  have hlx : w.heap.size < W0.heap.size := by rw [hW0]; simp
  have HB : Hid (Below w.heap.size w W0) := by
    show Below _ _ _
    rw [hW0]
    repeat first | exact Below.refl _ _ | apply Below.drew | (refine Below.alloc ?_ (by simp <;> omega) _) | (refine Below.setCell ?_ (by simp <;> omega) _)
  clear hW0
  refine wp_region_heldS (S := fun V => Below W0.heap.size W0 V) (by kernel_rfl) (Below.refl _ _).drew (fun hS => ?_)
  refine wpAnyH_take (i := 0) (v := ?_) rfl (by kernel_rfl) (by kernel_rfl) (by kernel_rfl) (fun _ _ _ h => h) (Or.inl ⟨by rfl, ?_⟩) hS ?_
  rotate_left
  · intro V hV
    have k0 := (hV.cell (p := ⟨w.heap.size, 0, none⟩) hlx).trans cx0
    have k1 := (hV.cell (p := ⟨w.heap.size, 1, none⟩) hlx).trans cx1
    have k2 := (hV.cell (p := ⟨w.heap.size, 2, none⟩) hlx).trans cx2
    have k3 := (hV.cell (p := ⟨w.heap.size, 3, none⟩) hlx).trans cx3
    go_simp
    (try with_reducible rfl)
  simp only [Act.put, List.setIfInBounds_toArray]
  refine wpAnyH_take (i := 1) (v := ?_) rfl (by kernel_rfl) (by kernel_rfl) (by kernel_rfl) (fun _ _ _ h => h) (Or.inl ⟨by rfl, ?_⟩) hS ?_
  rotate_left
  · intro V hV
    go_simp
    (try with_reducible rfl)
  simp only [Act.put]
  refine wpAnyH_take (i := 2) (v := ?_) rfl (by kernel_rfl) (by kernel_rfl) (by kernel_rfl) (fun _ _ _ h => h) (Or.inl ⟨by rfl, ?_⟩) hS ?_
  rotate_left
  · intro V hV
    go_simp
    (try with_reducible rfl)
  simp only [Act.put]
  refine wpAnyH_ready (rs := [3]) (by kernel_rfl) (by simp) (AllReadyH.cons rfl (fun K hK => ?_) AllReadyH.nil)
  go_simp
  refine (HOF.out _).mono ?_
  rintro e U1 ⟨rfl, hbc⟩
  refine hK.out _ _ (hS.trans (hbc.mono hS.size)) (fun hS => ?_)
  clear hK K hbc
  refine wpAnyH_ready (rs := [4]) (by kernel_rfl) (by simp) (AllReadyH.cons rfl (fun K hK => ?_) AllReadyH.nil)
  go_simp
  refine (HCM.out _).mono ?_
  rintro e U2 ⟨rfl, hbc⟩
  refine hK.out _ _ (hS.trans (hbc.mono hS.size)) (fun hS => ?_)
  clear hK K hbc
  refine wpAnyH_take (i := 5) (v := ?_) rfl (by kernel_rfl) (by kernel_rfl) (by kernel_rfl) (fun _ _ _ h => h) (Or.inl ⟨by rfl, ?_⟩) hS ?_
  rotate_left
  · intro V hV
    go_simp
    (try with_reducible rfl)
  simp only [Act.put]
  refine wpAnyH_done (by kernel_rfl) ?_ _
  have k0 := (hS.cell (p := ⟨w.heap.size, 0, none⟩) hlx).trans cx0
  go_wp2
  go_ret2
  exact ⟨rfl, HB.out.trans (hS.mono HB.out.size)⟩

set_option maxHeartbeats 1000000 in
set_option maxRecDepth 100000 in
theorem within_out (N en : Nat) (he : en < 9223372036854775808) (h : en ≤ N % M256) (w : World) : Calls Try.prog 104 #[wv N, .int .i64 en] w fun e w' => e = .returned (.tuple #[.int .i64 0, .bool false]) ∧ Below w.heap.size w w' := by
  rcases Nat.lt_or_eq_of_le h with h | h
  · have hof := fun W => of_any en (by omega) W
    have hcm := fun W => cmp_any N en W
    rw [small_mod (by omega : en < 18446744073709551616)] at hcm
    rw [cmpI_gt h] at hcm
    have hwe : IntKind.u64.wrap (en : Int) = en := by rw [IntKind.wrap_u64]; omega
    obtain ⟨x0, x1, x2, x3, hX⟩ := wv_form N
    obtain ⟨e0, e1, e2, e3, hE⟩ := wv_form en
    simp only [hX, hE] at hof hcm ⊢
    have HOF := hideP hof
    have HCM := hideP hcm
    clear hof hcm hX hE he h
    go_enter Try.func104, Try.ntmps104
    go_wp2_with fail
    refine at_world (fun W0 hW0 => ?_)
    have cx0 : W0.cell? ⟨w.heap.size, 0, none⟩ = some (.int .u64 x0) := by rw [hW0]; simp
    have cx1 : W0.cell? ⟨w.heap.size, 1, none⟩ = some (.int .u64 x1) := by rw [hW0]; simp
    have cx2 : W0.cell? ⟨w.heap.size, 2, none⟩ = some (.int .u64 x2) := by rw [hW0]; simp
    have cx3 : W0.cell? ⟨w.heap.size, 3, none⟩ = some (.int .u64 x3) := by rw [hW0]; simp
    have hlx : w.heap.size < W0.heap.size := by rw [hW0]; simp
    have HB : Hid (Below w.heap.size w W0) := by
      show Below _ _ _
      rw [hW0]
      repeat first | exact Below.refl _ _ | apply Below.drew | (refine Below.alloc ?_ (by simp <;> omega) _) | (refine Below.setCell ?_ (by simp <;> omega) _)
    clear hW0
    refine wp_region_heldS (S := fun V => Below W0.heap.size W0 V) (by kernel_rfl) (Below.refl _ _).drew (fun hS => ?_)
    refine wpAnyH_take (i := 0) (v := ?_) rfl (by kernel_rfl) (by kernel_rfl) (by kernel_rfl) (fun _ _ _ h => h) (Or.inl ⟨by rfl, ?_⟩) hS ?_
    rotate_left
    · intro V hV
      have k0 := (hV.cell (p := ⟨w.heap.size, 0, none⟩) hlx).trans cx0
      have k1 := (hV.cell (p := ⟨w.heap.size, 1, none⟩) hlx).trans cx1
      have k2 := (hV.cell (p := ⟨w.heap.size, 2, none⟩) hlx).trans cx2
      have k3 := (hV.cell (p := ⟨w.heap.size, 3, none⟩) hlx).trans cx3
      go_simp
      (try with_reducible rfl)
    simp only [Act.put, List.setIfInBounds_toArray]
    refine wpAnyH_take (i := 1) (v := ?_) rfl (by kernel_rfl) (by kernel_rfl) (by kernel_rfl) (fun _ _ _ h => h) (Or.inl ⟨by rfl, ?_⟩) hS ?_
    rotate_left
    · intro V hV
      go_simp
      (try with_reducible rfl)
    simp only [Act.put]
    refine wpAnyH_take (i := 2) (v := ?_) rfl (by kernel_rfl) (by kernel_rfl) (by kernel_rfl) (fun _ _ _ h => h) (Or.inl ⟨by rfl, ?_⟩) hS ?_
    rotate_left
    · intro V hV
      go_simp
      (try with_reducible rfl)
    simp only [Act.put]
    refine wpAnyH_ready (rs := [3]) (by kernel_rfl) (by simp) (AllReadyH.cons rfl (fun K hK => ?_) AllReadyH.nil)
    go_simp
    refine (HOF.out _).mono ?_
    rintro e U1 ⟨rfl, hbc⟩
    refine hK.out _ _ (hS.trans (hbc.mono hS.size)) (fun hS => ?_)
    clear hK K hbc
    refine wpAnyH_ready (rs := [4]) (by kernel_rfl) (by simp) (AllReadyH.cons rfl (fun K hK => ?_) AllReadyH.nil)
    go_simp
    refine (HCM.out _).mono ?_
    rintro e U2 ⟨rfl, hbc⟩
    refine hK.out _ _ (hS.trans (hbc.mono hS.size)) (fun hS => ?_)
    clear hK K hbc
    refine wpAnyH_take (i := 5) (v := ?_) rfl (by kernel_rfl) (by kernel_rfl) (by kernel_rfl) (fun _ _ _ h => h) (Or.inl ⟨by rfl, ?_⟩) hS ?_
    rotate_left
    · intro V hV
      go_simp
      (try with_reducible rfl)
    simp only [Act.put]
    refine wpAnyH_done (by kernel_rfl) ?_ _
    go_wp2
    go_ret2
    exact ⟨rfl, HB.out.trans (hS.mono HB.out.size)⟩
  · have hof := fun W => of_any en (by omega) W
    have hcm := fun W => cmp_any N en W
    rw [small_mod (by omega : en < 18446744073709551616)] at hcm
    rw [← h, cmpI_eq] at hcm
    have hwe : IntKind.u64.wrap (en : Int) = en := by rw [IntKind.wrap_u64]; omega
    obtain ⟨x0, x1, x2, x3, hX⟩ := wv_form N
    obtain ⟨e0, e1, e2, e3, hE⟩ := wv_form en
    simp only [hX, hE] at hof hcm ⊢
    have HOF := hideP hof
    have HCM := hideP hcm
    clear hof hcm hX hE he h
    go_enter Try.func104, Try.ntmps104
    go_wp2_with fail
    refine at_world (fun W0 hW0 => ?_)
    have cx0 : W0.cell? ⟨w.heap.size, 0, none⟩ = some (.int .u64 x0) := by rw [hW0]; simp
    have cx1 : W0.cell? ⟨w.heap.size, 1, none⟩ = some (.int .u64 x1) := by rw [hW0]; simp
    have cx2 : W0.cell? ⟨w.heap.size, 2, none⟩ = some (.int .u64 x2) := by rw [hW0]; simp
    have cx3 : W0.cell? ⟨w.heap.size, 3, none⟩ = some (.int .u64 x3) := by rw [hW0]; simp
    have hlx : w.heap.size < W0.heap.size := by rw [hW0]; simp
    have HB : Hid (Below w.heap.size w W0) := by
      show Below _ _ _
      rw [hW0]
      repeat first | exact Below.refl _ _ | apply Below.drew | (refine Below.alloc ?_ (by simp <;> omega) _) | (refine Below.setCell ?_ (by simp <;> omega) _)
    clear hW0
    refine wp_region_heldS (S := fun V => Below W0.heap.size W0 V) (by kernel_rfl) (Below.refl _ _).drew (fun hS => ?_)
    refine wpAnyH_take (i := 0) (v := ?_) rfl (by kernel_rfl) (by kernel_rfl) (by kernel_rfl) (fun _ _ _ h => h) (Or.inl ⟨by rfl, ?_⟩) hS ?_
    rotate_left
    · intro V hV
      have k0 := (hV.cell (p := ⟨w.heap.size, 0, none⟩) hlx).trans cx0
      have k1 := (hV.cell (p := ⟨w.heap.size, 1, none⟩) hlx).trans cx1
      have k2 := (hV.cell (p := ⟨w.heap.size, 2, none⟩) hlx).trans cx2
      have k3 := (hV.cell (p := ⟨w.heap.size, 3, none⟩) hlx).trans cx3
      go_simp
      (try with_reducible rfl)
    simp only [Act.put, List.setIfInBounds_toArray]
    refine wpAnyH_take (i := 1) (v := ?_) rfl (by kernel_rfl) (by kernel_rfl) (by kernel_rfl) (fun _ _ _ h => h) (Or.inl ⟨by rfl, ?_⟩) hS ?_
    rotate_left
    · intro V hV
      go_simp
      (try with_reducible rfl)
    simp only [Act.put]
    refine wpAnyH_take (i := 2) (v := ?_) rfl (by kernel_rfl) (by kernel_rfl) (by kernel_rfl) (fun _ _ _ h => h) (Or.inl ⟨by rfl, ?_⟩) hS ?_
    rotate_left
    · intro V hV
      go_simp
      (try with_reducible rfl)
    simp only [Act.put]
    refine wpAnyH_ready (rs := [3]) (by kernel_rfl) (by simp) (AllReadyH.cons rfl (fun K hK => ?_) AllReadyH.nil)
    go_simp
    refine (HOF.out _).mono ?_
    rintro e U1 ⟨rfl, hbc⟩
    refine hK.out _ _ (hS.trans (hbc.mono hS.size)) (fun hS => ?_)
    clear hK K hbc
    refine wpAnyH_ready (rs := [4]) (by kernel_rfl) (by simp) (AllReadyH.cons rfl (fun K hK => ?_) AllReadyH.nil)
    go_simp
    refine (HCM.out _).mono ?_
    rintro e U2 ⟨rfl, hbc⟩
    refine hK.out _ _ (hS.trans (hbc.mono hS.size)) (fun hS => ?_)
    clear hK K hbc
    refine wpAnyH_take (i := 5) (v := ?_) rfl (by kernel_rfl) (by kernel_rfl) (by kernel_rfl) (fun _ _ _ h => h) (Or.inl ⟨by rfl, ?_⟩) hS ?_
    rotate_left
    · intro V hV
      go_simp
      (try with_reducible rfl)
    simp only [Act.put]
    refine wpAnyH_done (by kernel_rfl) ?_ _
    go_wp2
    go_ret2
    exact ⟨rfl, HB.out.trans (hS.mono HB.out.size)⟩

end Go.Proofs.Ytpnijncoldihfaa

namespace Go.Proofs.Ytpnijncoldihfaa
open Go.RowKit Go.Shelf

theorem putAll32 (g' g : Nat → Nat) : putAll (c32 g') 0 (c32 g).toList = c32 g := by
  simp [c32, putAll]

end Go.Proofs.Ytpnijncoldihfaa

namespace Go.Proofs.Ytpnijncoldihfaa
open Go.RowKit Go.Shelf

theorem Try.bytes5 : (Try.prog.info? 5).map (fun i => (i.zero, i.size, i.bytes)) = some (some (.int .u8 0), 1, 1) := by kernel_rfl

theorem Try.size5 : (Try.prog.info? 5).map (·.size) = some 1 := by kernel_rfl

/-- The row behind an owned slice of one-cell elements. -/
theorem own_row {w : World} {base e n cap g : Nat} {xs : List Value} (h : w.ownsRow base e 1 (.slice (some ⟨g, 0, none⟩) n cap) n xs) :
    ∃ cur : List Value, w.heap[g]? = some (.cells cur.toArray e (0, 0)) ∧ base ≤ g ∧ n ≤ cap ∧ cap ≤ maxLen ∧ cur.length = cap ∧ cur.take n = xs := by
  obtain ⟨hl, h | ⟨g', cap', cur, hv, hb, hg, hn, hm, hs, ht⟩⟩ := h
  · simp at h
  · simp only [Value.slice.injEq, Option.some.injEq, Addr.mk.injEq] at hv
    obtain ⟨⟨rfl, _, _⟩, _, rfl⟩ := hv
    exact ⟨cur.toList, by simpa using hg, hb, hn, hm, by simpa using hs, by simpa using ht⟩

/-- The run of 'copy' into a row that is known whole. -/
theorem copy_run {P : Program} (w : World) (T ty E : TypeId) (hu : P.underlying T = some (.slice E)) (hs : (P.info? E).map (·.size) = some 1) (dp sp : Option Addr) (dLen dCap sLen sCap : Nat)
    (g off : Nat) (cur : List Value) (t : TypeId) (hg : w.heap[g]? = some (.cells cur.toArray t (0, 0))) (cs : List Value) (hn : cs.length = Nat.min sLen dLen)
    (hpos : 0 < cs.length → dp = some ⟨g, off, none⟩ ∧ ∃ ad, sp = some ad ∧ ∀ j v, cs[j]? = some v → w.cell? (ad.add j) = some v)
    (hfit : off + cs.length ≤ cur.length) (h1 : ∀ v ∈ cs, v.oneCell' = true) :
    ∃ w', (Builtin.copy_ #[T, T] ty #[.slice dp dLen dCap, .slice sp sLen sCap]).run P w = .ok (goInt cs.length) w' ∧ w'.heap[g]? = some (.cells (splice cur off cs).toArray t (0, 0)) ∧ w.grownBy w' (some g) := by
  by_cases h0 : cs.length = 0
  · obtain rfl : cs = [] := List.eq_nil_of_length_eq_zero h0
    refine ⟨w, ?_, by simpa [splice] using hg, World.grownBy.refl _ _⟩
    exact run_copy_none (P := P) w T T ty E dp sp dLen dCap sLen sCap hu hs (by simpa using hn.symm)
  · obtain ⟨rfl, ad, rfl, hsrc⟩ := hpos (by omega)
    refine ⟨_, run_copy_row (P := P) w T T ty E g off dLen dCap ad sLen sCap cur.toArray t cs hu hs hg hn hsrc (by simpa using hfit) h1, ?_, ?_⟩
    · simpa [splice] using setRow_heap w g cur.toArray _ t _ hg
    · exact ⟨rfl, rfl, rfl, by simp [World.setRow], fun k hk hne => setRow_other w g k _ (fun e => hne (by rw [e]))⟩

/-- The last bytes of an array of 32. -/
theorem slice32 (B a : Nat) (ha : a ≤ 32) : ∃ sp, (a < 32 → sp = a) ∧ ∀ W : World, (Instr.sliceAt 52 (.pointer (some ⟨B, 0, none⟩)) (some (.int .i64 (a : Int))) none none).run Try.prog W = .ok (.slice (some ⟨B, sp, none⟩) (32 - a) (32 - a)) W := by
  refine ⟨if a = 32 then 0 else a, fun h => if_neg (by omega), fun W => ?_⟩
  have hl : Try.prog.arrayLen 52 = 32 := by kernel_rfl
  have hs : (sizeOf (Try.prog.elem 52)).run Try.prog W = .ok 1 W := by kernel_rfl
  rw [run_sliceAt_array_l (P := Try.prog) W 52 ⟨B, 0, none⟩ (by kernel_rfl) .i64 (a : Int) (by omega) (by rw [hl]; omega), hs, hl]
  have h1 : ((a : Int)).toNat = a := by omega
  by_cases h : a = 32
  · subst h; simp [Result.andThen, slicedAt]
  · have h3 : ¬ (32 = a) := by omega
    simp [Result.andThen, slicedAt, h1, h, h3, Addr.add]
    exact fun h => h.symm

/-- So many bytes a number has without leading noughts. -/
structure LB (X n : Nat) : Prop where
  le : n ≤ 32
  lt : X % M256 < 2 ^ (8 * n)
  ge : 0 < n → 2 ^ (8 * (n - 1)) ≤ X % M256

theorem LB.ofBits {X n : Nat} (h256 : n ≤ 256) (hlt : X % M256 < 2 ^ n) (hge : 0 < n → 2 ^ (n - 1) ≤ X % M256) : LB X ((n + 7) / 8) := by
  refine ⟨by omega, Nat.lt_of_lt_of_le hlt (Nat.pow_le_pow_right (by decide) (by omega)), fun h => ?_⟩
  exact Nat.le_trans (Nat.pow_le_pow_right (by decide) (by omega)) (hge (by omega))

/-- The n lowest bytes, the highest first. -/
def lowB (X n : Nat) : Nat → Nat := fun j => byt X (n - 1 - j)

theorem lowB_lt (X n j : Nat) : lowB X n j < 256 := byt_lt _ _

/-- A row whose bytes are the least ones of a number. -/
structure LRow (w : World) (X : Nat) (v : Value) : Prop where
  ex : ∃ n cap g off, v = .slice (some ⟨g, off, none⟩) n cap ∧ LB X n ∧ g < w.heap.size ∧ ∀ j, j < n → w.cell? ⟨g, off + j, none⟩ = some (.int .u8 (lowB X n j))

end Go.Proofs.Ytpnijncoldihfaa
