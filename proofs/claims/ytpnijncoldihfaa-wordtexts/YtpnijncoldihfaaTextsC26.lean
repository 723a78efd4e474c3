/-
  Digits that are read as a number.
-/
import Derived.Test.YtpnijncoldihfaaTextsC24
import Derived.Test.YtpnijncoldihfaaTextsC25
import Derived.Test.YtpnijncoldihfaaTextsC15
namespace Go.Proofs.Ytpnijncoldihfaa
open Go.RowKit Go.Shelf

/-- Where a word that is read has come to. -/
structure RI (t : Nat) (w wr : World) (V : Nat) : Prop where
  r : wr.heap[w.heap.size]? = some (.cells (c4 (fun _ => 0)) t (0, 0))
  x : wr.heap[w.heap.size + 1]? = some (.cells (c4 (limb V)) t (0, 0))
  b : Below w.heap.size w wr

theorem RI.put {t : Nat} {w wr : World} {V j v V' : Nat} (I : RI t w wr V) (hj : j < 4) (hV : (fun i => if i = j then v else limb V i) = limb V') : RI t w (wr.drew.setCell ⟨w.heap.size + 1, j, none⟩ (.int .u64 v)) V' := by
  refine ⟨(Below.heap_setCell wr.drew _ _ _ (by show w.heap.size ≠ w.heap.size + 1; omega)).trans I.r, ?_, I.b.drew.setCell (p := ⟨w.heap.size + 1, j, none⟩) (by simp <;> omega) _⟩
  have h := blk_set (w := wr.drew) (o := j) I.x (.int .u64 v)
  rw [cset4 _ v hj, hV] at h
  exact h

theorem size24 : (Try.prog.info? 24).map (·.size) = some 4 := by kernel_rfl

end Go.Proofs.Ytpnijncoldihfaa

namespace Go.Proofs.Ytpnijncoldihfaa
open Go.RowKit Go.Shelf

/-- What a digit stands for; 16: it is none. -/
def digV (c : Nat) : Nat := if 48 ≤ c ∧ c ≤ 57 then c - 48 else if 97 ≤ c ∧ c ≤ 102 then c - 97 + 10 else if 65 ≤ c ∧ c ≤ 70 then c - 65 + 10 else 16

/-- A text's bytes. -/
def sb (s : ByteArray) (j : Nat) : Nat := (s.data[j]?.getD 0).toNat

theorem sb_lt (s : ByteArray) (j : Nat) : sb s j < 256 := UInt8.toNat_lt _

/-- The number that the first digits tell. -/
def pre (b : Nat) (s : Nat → Nat) : Nat → Option Nat
  | 0 => some 0
  | k + 1 => match pre b s k with
    | none => none
    | some v => if digV (s k) < b ∧ v * b + digV (s k) < M256 then some (v * b + digV (s k)) else none

theorem pre_none {b : Nat} {s : Nat → Nat} {k : Nat} (h : pre b s k = none) : ∀ n, k ≤ n → pre b s n = none
  | 0, hn => by
    obtain rfl : k = 0 := by omega
    exact h
  | n + 1, hn => by
    by_cases e : k = n + 1
    · rw [← e]; exact h
    · unfold pre
      rw [pre_none h n (by omega)]

theorem pre_bad {b : Nat} {s : Nat → Nat} {k v : Nat} (h : pre b s k = some v) (hbad : ¬ (digV (s k) < b ∧ v * b + digV (s k) < M256)) : pre b s (k + 1) = none := by
  unfold pre
  rw [h]
  exact if_neg hbad

theorem pre_good {b : Nat} {s : Nat → Nat} {k v : Nat} (h : pre b s k = some v) (hg : digV (s k) < b ∧ v * b + digV (s k) < M256) : pre b s (k + 1) = some (v * b + digV (s k)) := by
  show (match pre b s k with
    | none => none
    | some v => if digV (s k) < b ∧ v * b + digV (s k) < M256 then some (v * b + digV (s k)) else none) = _
  rw [h]
  exact if_pos hg

theorem pre_lt {b : Nat} {s : Nat → Nat} : ∀ {k v : Nat}, pre b s k = some v → v < M256
  | 0, v, h => by
    have : v = 0 := by simpa [pre] using h.symm
    rw [this]; decide
  | k + 1, v, h => by
    cases hk : pre b s k with
    | none => rw [pre_none hk (k + 1) (by omega)] at h; cases h
    | some u =>
      by_cases hg : digV (s k) < b ∧ u * b + digV (s k) < M256
      · rw [pre_good hk hg] at h
        cases h
        exact hg.2
      · rw [pre_bad hk hg] at h
        cases h

/-- What is answered. -/
def pres (o : Option Nat) : Value := match o with
  | some v => .tuple #[wv v, .int .i64 0]
  | none => .tuple #[wv 0, .int .i64 20]

/-- Digits that are read: at least one. -/
def preads (b : Nat) (s : ByteArray) : Option Nat := if s.size = 0 then none else pre b (sb s) s.size

theorem empty_size (s : ByteArray) : s.toList.isEmpty = decide (s.size = 0) := by
  rw [ByteArray.toList_eq]
  show s.data.toList.isEmpty = decide (s.data.size = 0)
  rw [← Array.length_toList]
  cases s.data.toList with
  | nil => rfl
  | cons a l => exact (decide_eq_false (by simp)).symm

theorem index_sb (s : ByteArray) (k : Nat) (hk : k < s.size) (W : World) : (Instr.index 9 (.string s) (.int .i64 (k : Int))).run Try.prog W = .ok (.int .u8 (sb s k)) W := by
  have hd : s.data[k]? = some s.data[k] := Array.getElem?_eq_getElem hk
  have h := run_index_string (P := Try.prog) (w := W) 9 s .i64 (k : Int) Try.underlying9
  rw [h]
  unfold sb
  rw [hd]
  have e : ((k : Int)).toNat = k := by omega
  have g : ¬ ((k : Int) < 0 ∨ (s.size : Int) ≤ (k : Int)) := by omega
  simp [e, hk]
  rfl

set_option maxHeartbeats 4000000 in
set_option maxRecDepth 100000 in
theorem digit_any (c : Nat) (hc : c < 256) (w : World) : Calls Try.prog 134 #[.int .u8 c] w fun e w' => e = .returned (.int .u64 (digV c)) ∧ w = w' := by
  rcases (show c < 48 ∨ (48 ≤ c ∧ c ≤ 57) ∨ (57 < c ∧ c < 65) ∨ (65 ≤ c ∧ c ≤ 70) ∨ (70 < c ∧ c < 97) ∨ (97 ≤ c ∧ c ≤ 102) ∨ 102 < c by omega) with h | h | h | h | h | h | h
  · have a0 : ¬ (48 : Int) ≤ (c : Int) := by omega
    have a1 : (c : Int) ≤ 57 := by omega
    have a2 : ¬ (97 : Int) ≤ (c : Int) := by omega
    have a3 : (c : Int) ≤ 102 := by omega
    have a4 : ¬ (65 : Int) ≤ (c : Int) := by omega
    have a5 : (c : Int) ≤ 70 := by omega
    have hv : digV c = 16 := by unfold digV; rw [if_neg (by omega), if_neg (by omega), if_neg (by omega)]
    rw [hv]
    clear hv
    go_enter Try.func134, Try.ntmps134
    go_wp2
    go_ret
    exact ⟨rfl, rfl⟩
  · have a0 : (48 : Int) ≤ (c : Int) := by omega
    have a1 : (c : Int) ≤ 57 := by omega
    have a2 : ¬ (97 : Int) ≤ (c : Int) := by omega
    have a3 : (c : Int) ≤ 102 := by omega
    have a4 : ¬ (65 : Int) ≤ (c : Int) := by omega
    have a5 : (c : Int) ≤ 70 := by omega
    have e1 : IntKind.u8.wrap ((c : Int) - 48) = ((c - 48 : Nat) : Int) := by rw [IntKind.wrap_u8]; omega
    have e2 : IntKind.u64.wrap ((c - 48 : Nat) : Int) = ((c - 48 : Nat) : Int) := by rw [IntKind.wrap_u64]; omega
    have hv : digV c = c - 48 := by unfold digV; rw [if_pos (by omega)]
    rw [hv]
    clear hv
    generalize c - 48 = d at *
    go_enter Try.func134, Try.ntmps134
    go_wp2
    go_ret
    exact ⟨rfl, rfl⟩
  · have a0 : (48 : Int) ≤ (c : Int) := by omega
    have a1 : ¬ (c : Int) ≤ 57 := by omega
    have a2 : ¬ (97 : Int) ≤ (c : Int) := by omega
    have a3 : (c : Int) ≤ 102 := by omega
    have a4 : ¬ (65 : Int) ≤ (c : Int) := by omega
    have a5 : (c : Int) ≤ 70 := by omega
    have hv : digV c = 16 := by unfold digV; rw [if_neg (by omega), if_neg (by omega), if_neg (by omega)]
    rw [hv]
    clear hv
    go_enter Try.func134, Try.ntmps134
    go_wp2
    go_ret
    exact ⟨rfl, rfl⟩
  · have a0 : (48 : Int) ≤ (c : Int) := by omega
    have a1 : ¬ (c : Int) ≤ 57 := by omega
    have a2 : ¬ (97 : Int) ≤ (c : Int) := by omega
    have a3 : (c : Int) ≤ 102 := by omega
    have a4 : (65 : Int) ≤ (c : Int) := by omega
    have a5 : (c : Int) ≤ 70 := by omega
    have e1 : IntKind.u8.wrap ((c : Int) - 65) = ((c - 65 : Nat) : Int) := by rw [IntKind.wrap_u8]; omega
    have e2 : IntKind.u64.wrap ((c - 65 : Nat) : Int) = ((c - 65 : Nat) : Int) := by rw [IntKind.wrap_u64]; omega
    have e3 : IntKind.u64.wrap (((c - 65 : Nat) : Int) + 10) = ((c - 65 + 10 : Nat) : Int) := by rw [IntKind.wrap_u64]; omega
    have hv : digV c = c - 65 + 10 := by unfold digV; rw [if_neg (by omega), if_neg (by omega), if_pos (by omega)]
    rw [hv]
    clear hv
    generalize c - 65 = d at *
    go_enter Try.func134, Try.ntmps134
    go_wp2
    go_ret
    exact ⟨rfl, rfl⟩
  · have a0 : (48 : Int) ≤ (c : Int) := by omega
    have a1 : ¬ (c : Int) ≤ 57 := by omega
    have a2 : ¬ (97 : Int) ≤ (c : Int) := by omega
    have a3 : (c : Int) ≤ 102 := by omega
    have a4 : (65 : Int) ≤ (c : Int) := by omega
    have a5 : ¬ (c : Int) ≤ 70 := by omega
    have hv : digV c = 16 := by unfold digV; rw [if_neg (by omega), if_neg (by omega), if_neg (by omega)]
    rw [hv]
    clear hv
    go_enter Try.func134, Try.ntmps134
    go_wp2
    go_ret
    exact ⟨rfl, rfl⟩
  · have a0 : (48 : Int) ≤ (c : Int) := by omega
    have a1 : ¬ (c : Int) ≤ 57 := by omega
    have a2 : (97 : Int) ≤ (c : Int) := by omega
    have a3 : (c : Int) ≤ 102 := by omega
    have a4 : (65 : Int) ≤ (c : Int) := by omega
    have a5 : ¬ (c : Int) ≤ 70 := by omega
    have e1 : IntKind.u8.wrap ((c : Int) - 97) = ((c - 97 : Nat) : Int) := by rw [IntKind.wrap_u8]; omega
    have e2 : IntKind.u64.wrap ((c - 97 : Nat) : Int) = ((c - 97 : Nat) : Int) := by rw [IntKind.wrap_u64]; omega
    have e3 : IntKind.u64.wrap (((c - 97 : Nat) : Int) + 10) = ((c - 97 + 10 : Nat) : Int) := by rw [IntKind.wrap_u64]; omega
    have hv : digV c = c - 97 + 10 := by unfold digV; rw [if_neg (by omega), if_pos (by omega)]
    rw [hv]
    clear hv
    generalize c - 97 = d at *
    go_enter Try.func134, Try.ntmps134
    go_wp2
    go_ret
    exact ⟨rfl, rfl⟩
  · have a0 : (48 : Int) ≤ (c : Int) := by omega
    have a1 : ¬ (c : Int) ≤ 57 := by omega
    have a2 : (97 : Int) ≤ (c : Int) := by omega
    have a3 : ¬ (c : Int) ≤ 102 := by omega
    have a4 : (65 : Int) ≤ (c : Int) := by omega
    have a5 : ¬ (c : Int) ≤ 70 := by omega
    have hv : digV c = 16 := by unfold digV; rw [if_neg (by omega), if_neg (by omega), if_neg (by omega)]
    rw [hv]
    clear hv
    go_enter Try.func134, Try.ntmps134
    go_wp2
    go_ret
    exact ⟨rfl, rfl⟩

end Go.Proofs.Ytpnijncoldihfaa

namespace Go.Proofs.Ytpnijncoldihfaa
open Go.RowKit Go.Shelf

theorem RI.set {w wr : World} {V V' : Nat} {z0 z1 z2 z3 : Int} (I : RI 24 w wr V) (hz : wv V' = .agg #[.int .u64 z0, .int .u64 z1, .int .u64 z2, .int .u64 z3]) :
    RI 24 w ((((wr.setCell ⟨w.heap.size + 1, 0, none⟩ (.int .u64 z0)).setCell ⟨w.heap.size + 1, 1, none⟩ (.int .u64 z1)).setCell ⟨w.heap.size + 1, 2, none⟩ (.int .u64 z2)).setCell ⟨w.heap.size + 1, 3, none⟩ (.int .u64 z3)) V' := by
  have hc : c4 (limb V') = #[.int .u64 z0, .int .u64 z1, .int .u64 z2, .int .u64 z3] := by
    have h := wv_c4 V'
    rw [hz] at h
    injection h with h
    exact h.symm
  refine ⟨(other4 (by omega)).trans I.r, ?_, below_stored4 I.b (by omega)⟩
  rw [hc]
  exact stored4 I.x

theorem RI.move {w wr V : World} {N : Nat} (I : RI 24 w wr N) (hb : Below wr.heap.size wr V) : RI 24 w V N :=
  ⟨(hb.block _ (lt_of_block I.r)).trans I.r, (hb.block _ (lt_of_block I.x)).trans I.x, I.b.trans (hb.mono I.b.size)⟩

set_option maxHeartbeats 8000000 in
set_option maxRecDepth 100000 in
theorem parseDigits_any (s : ByteArray) (b : Nat) (hb : b = 10 ∨ b = 16) (hs : s.size ≤ 140737488355328) (w : World) :
    Calls Try.prog 125 #[.string s, .int .u64 b] w fun e w' => e = .returned (pres (preads b s)) ∧ Below w.heap.size w w' := by
  have hz0 : wv 0 = .agg #[.int .u64 0, .int .u64 0, .int .u64 0, .int .u64 0] := rfl
  have hbb : b < 18446744073709551616 := by omega
  have HSS := hideP hs
  have HBB := hideP hbb
  generalize hn : s.size = n at *
  have HNN := hideP hn
  have HPR : Hid (preads b s = if n = 0 then none else pre b (sb s) n) := by unfold preads; rw [hn]; exact rfl
  clear hs hb hbb hn
  have HE : Hid (RI 24 w ((w.alloc (.cells #[.int .u64 0, .int .u64 0, .int .u64 0, .int .u64 0] 24 (0, 0))).alloc (.cells #[.int .u64 0, .int .u64 0, .int .u64 0, .int .u64 0] 24 (0, 0))) 0) :=
    ⟨(heap_old _ _ (by simp)).trans (heap_new _ _), by rw [show limb 0 = fun _ => 0 from limb_nought]; exact heap_new1 _ _ _, ((Below.refl _ w).alloc (Nat.le_refl _) _).alloc (by simp) _⟩
  have hsz : s.size = n := HNN.out
  go_enter Try.func125, Try.ntmps125
  go_wp2_with fail
  generalize (w.alloc (.cells #[.int .u64 0, .int .u64 0, .int .u64 0, .int .u64 0] 24 (0, 0))).alloc (.cells #[.int .u64 0, .int .u64 0, .int .u64 0, .int .u64 0] 24 (0, 0)) = W2 at HE ⊢
  go_loopw [12] (fun i wr => ∃ (k V : Nat), k ≤ n ∧ i = .int .i64 k ∧ pre b (sb s) k = some V ∧ RI 24 w wr V) (fun i _ => n - (intOf i).toNat)
  case atStart => exact ⟨0, 0, Nat.zero_le _, rfl, rfl, HE.out⟩
  case round =>
    obtain ⟨k, V, hk, rfl, hpre, I⟩ := hrel
    have HI := hideP I
    have HPK := hideP hpre
    clear I HE hpre
    have hn48 := HSS.out
    by_cases hlt : k < n
    · have HN : Hid (k < n) := hlt
      have hix := fun W => index_sb s k (by omega) W
      have cd := fun W => digit_any (sb s k) (sb_lt s k) W
      have hd16 : digV (sb s k) < 18446744073709551616 := by unfold digV; have := sb_lt s k; split <;> (try split) <;> (try split) <;> omega
      have cm := fun W => multiplyLimb_any V b (digV (sb s k)) HBB.out hd16 W
      have hge := fun h : b ≤ digV (sb s k) => pre_none (pre_bad HPK.out (fun h' => absurd h'.1 (by omega))) n hlt
      have hov := fun h : ¬ V * b + digV (sb s k) < M256 => pre_none (pre_bad HPK.out (fun h' => h h'.2)) n hlt
      have hok := fun (h : digV (sb s k) < b) (h' : V * b + digV (sb s k) < M256) => pre_good HPK.out ⟨h, h'⟩
      have HGE := hideP hge
      have HOV := hideP hov
      have HOK := hideP hok
      have HVM := hideP (pre_lt HPK.out)
      have hse' : ¬ n = 0 := by omega
      have HPS := hideP (show preads b s = pre b (sb s) n from HPR.out.trans (if_neg hse'))
      generalize digV (sb s k) = d at *
      generalize sb s k = c at *
      have g1 : (k : Int) < (n : Int) := by omega
      have e4 : IntKind.i64.wrap ((k : Int) + 1) = (k : Int) + 1 := by rw [IntKind.wrap_i64]; omega
      have CD := hideP cd
      have CM := hideP cm
      clear cd cm hge hov hok hd16 hlt hk hse' hn48
      go_wp2_with fail
      refine (CD.out _).mono ?_
      rintro e w' ⟨rfl, rfl⟩
      by_cases hd : b ≤ d
      · have g2 : ((b : Nat) : Int) ≤ ((d : Nat) : Int) := by omega
        have HR := hideP (HPS.out.trans (HGE.out hd))
        obtain ⟨j0, j1, j2, j3⟩ := cells4 (show wr.heap[w.heap.size]? = some (.cells #[.int .u64 (0 : Nat), .int .u64 (0 : Nat), .int .u64 (0 : Nat), .int .u64 (0 : Nat)] 24 (0, 0)) from HI.out.r)
        have jf : ∀ o, wr.frozen? ⟨w.heap.size, o, none⟩ = false := fun o => blk_free HI.out.r
        have HL := hideP HI.out.b
        clear hd
        go_wp2_with fail
        refine bodyPost_ret (v := .tuple #[.agg #[.int .u64 0, .int .u64 0, .int .u64 0, .int .u64 0], .int .i64 20]) (by simp [results, Try.results125, go_sem, j0, j1, j2, j3, World.cell?_setCell_same]) rfl ⟨?_, ?_⟩
        · rw [HR.out]; rfl
        · exact below_stored4 HL.out (by omega)
      · have g2 : ¬ ((b : Nat) : Int) ≤ ((d : Nat) : Int) := by omega
        have HD := hideP (show d < b by omega)
        clear hd
        have hxx := HI.out.x
        have cm := CM.out
        obtain ⟨v0, v1, v2, v3, hv⟩ := wv_form V
        have hcc : c4 (limb V) = #[.int .u64 v0, .int .u64 v1, .int .u64 v2, .int .u64 v3] := by
          have h := wv_c4 V
          rw [hv] at h
          injection h with h
          exact h.symm
        rw [hcc] at hxx
        obtain ⟨z0, z1, z2, z3, hz⟩ := wv_form (V * b + d)
        rw [hv, hz] at cm
        replace CM := hideP cm
        have HZ := hideP hz
        obtain ⟨cx0, cx1, cx2, cx3⟩ := cells4 hxx
        clear cm hv hcc hz
        go_wp2_with fail
        refine (CM.out _).mono ?_
        rintro e W3 ⟨c', rfl, hc, hb3⟩
        have HI3 := hideP (HI.out.move hb3)
        clear cx0 cx1 cx2 cx3 hxx hb3 CM HI
        have hc' := hc
        rw [Nat.mod_eq_of_lt HVM.out] at hc'
        have hml := Nat.mod_lt (V * b + d) M256_pos
        have hmle := Nat.mod_le (V * b + d) M256
        obtain ⟨cx0, cx1, cx2, cx3⟩ := cells4 (show W3.heap[w.heap.size + 1]? = some (.cells #[.int .u64 (limb V 0), .int .u64 (limb V 1), .int .u64 (limb V 2), .int .u64 (limb V 3)] 24 (0, 0)) from HI3.out.x)
        have xf : ∀ o, W3.frozen? ⟨w.heap.size + 1, o, none⟩ = false := fun o => blk_free HI3.out.x
        have HI4 := hideP (HI3.out.set HZ.out)
        by_cases h0 : c' = 0
        · subst h0
          have HV' := hideP (HOK.out HD.out (by omega))
          clear hc hc' hml hmle HI3
          go_wp2_with fail
          exact ⟨⟨k + 1, V * b + d, HN.out, by go_num, HV'.out, HI4.out⟩, by have := HN.out; simp [intOf]; omega⟩
        · have hM : M256 ≤ M256 * c' := Nat.le_mul_of_pos_right _ (by omega)
          have HR := hideP (HPS.out.trans (HOV.out (by omega)))
          have g3 : ¬ ((c' : Nat) : Int) = 0 := by omega
          have g4 : (((c' : Nat) : Int) == 0) = false := by simp; omega
          obtain ⟨j0, j1, j2, j3⟩ := cells4 (show W3.heap[w.heap.size]? = some (.cells #[.int .u64 (0 : Nat), .int .u64 (0 : Nat), .int .u64 (0 : Nat), .int .u64 (0 : Nat)] 24 (0, 0)) from HI3.out.r)
          have jf : ∀ o, W3.frozen? ⟨w.heap.size, o, none⟩ = false := fun o => blk_free HI3.out.r
          have HL := hideP HI4.out.b
          clear hc hc' hml hmle hM h0 HI3 HI4
          go_wp2_with fail
          refine bodyPost_ret (v := .tuple #[.agg #[.int .u64 0, .int .u64 0, .int .u64 0, .int .u64 0], .int .i64 20]) (by simp [results, Try.results125, go_sem, j0, j1, j2, j3, World.cell?_setCell_same]) rfl ⟨?_, ?_⟩
          · rw [HR.out]; rfl
          · exact below_stored4 HL.out (by omega)
    · have hk6 : k = n := by omega
      subst hk6
      have g1 : ¬ ((k : Nat) : Int) < (k : Int) := by omega
      obtain ⟨j0, j1, j2, j3⟩ := cells4 (show wr.heap[w.heap.size]? = some (.cells #[.int .u64 (0 : Nat), .int .u64 (0 : Nat), .int .u64 (0 : Nat), .int .u64 (0 : Nat)] 24 (0, 0)) from HI.out.r)
      have jf : ∀ o, wr.frozen? ⟨w.heap.size, o, none⟩ = false := fun o => blk_free HI.out.r
      have HL := hideP HI.out.b
      have hemp := empty_size s
      rw [hsz] at hemp
      by_cases h0 : k = 0
      · have hse : s.toList.isEmpty = true := by rw [hemp]; exact decide_eq_true h0
        have HR := hideP (HPR.out.trans (if_pos h0))
        clear hemp h0 hlt hk hn48
        go_wp2_with fail
        refine bodyPost_ret (v := .tuple #[.agg #[.int .u64 0, .int .u64 0, .int .u64 0, .int .u64 0], .int .i64 20]) (by simp [results, Try.results125, go_sem, j0, j1, j2, j3, World.cell?_setCell_same]) rfl ⟨?_, ?_⟩
        · rw [HR.out]; rfl
        · exact below_stored4 HL.out (by omega)
      · have hse : s.toList.isEmpty = false := by rw [hemp]; exact decide_eq_false h0
        have HR := hideP ((HPR.out.trans (if_neg h0)).trans HPK.out)
        have hxx := HI.out.x
        obtain ⟨v0, v1, v2, v3, hv⟩ := wv_form V
        have hcc : c4 (limb V) = #[.int .u64 v0, .int .u64 v1, .int .u64 v2, .int .u64 v3] := by
          have h := wv_c4 V
          rw [hv] at h
          injection h with h
          exact h.symm
        rw [hcc] at hxx
        obtain ⟨cx0, cx1, cx2, cx3⟩ := cells4 hxx
        have HV := hideP hv
        clear hemp h0 hlt hk hn48 hv hcc hxx
        go_wp2_with fail
        refine bodyPost_ret (v := .tuple #[.agg #[.int .u64 v0, .int .u64 v1, .int .u64 v2, .int .u64 v3], .int .i64 0]) (by simp [results, Try.results125, go_sem, j0, j1, j2, j3, World.cell?_setCell_same]) rfl ⟨?_, ?_⟩
        · rw [HR.out]; show _ = Ending.returned (.tuple #[wv V, .int .i64 0]); rw [HV.out]
        · exact below_stored4 HL.out (by omega)

end Go.Proofs.Ytpnijncoldihfaa
