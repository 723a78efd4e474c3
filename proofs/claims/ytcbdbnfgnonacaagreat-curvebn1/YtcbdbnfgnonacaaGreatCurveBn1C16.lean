/-
 Stores into boxes that hold noughts; points and curves of the document.
-/
import Derived.Test.YtcbdbnfgnonacaaGreatCurveBn1C15
import Derived.Test.YtcbdbnfgnonacaaGreatCurveBn1C10
set_option maxHeartbeats 4000000
set_option maxRecDepth 100000
namespace Go.Proofs.YtcbdbnfgnonacaaGreat
open Go.RowKit Go.Shelf
theorem ZhO {n : Nat} (h : 0 < n) (x : Nat) (hx : x < 18446744073709551616) : x < 18446744073709551616 ^ n := by
 have := Nat.pow_le_pow_right (show 0 < 18446744073709551616 by decide) h
 rw [Nat.pow_one] at this
 omega
theorem Zh5 {n M : Nat} (hM : FM n M) (X : Nat) (hX : X < M) (w : World) (fv u : Value) (hF : FF w fv n M) (hu : LW w u n (limb X)) :
  Calls Tryz.prog 167 #[fv, u] w fun r w' => (∃ v', r = .returned v' ∧ LW w' v' n (limb (X ^ (M - 2) % M))) ∧ Below w.heap.size w w' := by
 have HU := hideP hu
 have HFF := hideP hF
 have HH : Hid (FM n M ∧ X < M) := ⟨hM, hX⟩
 clear hu hM hX
 obtain ⟨mv, fo, tv, rfl, hm, ht, hfo⟩ := hF.ex
 have HMV := hideP hm
 have HTV := hideP ht
 have HFO := hideP hfo
 clear hF hm ht hfo
 go_enter Tryz.func167, Tryz.ntmps167
 refine Zae (fun K0 HK0 => ?_)
 go_wp2_with fail
 refine HK0.out _ _ ?_
 refine Zaj (fun W0 hW0 => ?_)
 have hB0 : W0.heap[w.heap.size]? = some (.cells #[mv, .int .u64 fo, tv] 39 (0, 0)) := by
  rw [hW0]
  exact Zaf _ _
 have HBW : Hid (Below w.heap.size w W0) := by
  show Below _ _ _
  rw [hW0]
  repeat first | exact Below.refl _ _ | (refine Below.alloc ?_ (by simp <;> omega) _)
 have HB0 := hideP hB0
 clear hW0 hB0
 obtain ⟨gt, ot, ct, hte, -, -, -, -⟩ := HTV.out.ex
 subst hte
 obtain ⟨gm, om, cm, hme, -, -, -, -⟩ := HMV.out.ex
 subst hme
 refine Zae (fun K1 HK1 => ?_)
 refine Zai (S := fun V => Below W0.heap.size W0 V) (by kernel_rfl) ((Below.refl _ _).drew) (fun hS => ?_)
 refine tkG 0 hS ?_
 simp only [Zaa, Zs, Zz]
 refine tkI 1 ?_ hS ?_ ?_
 rotate_left
 ·
  intro V hV
  have k0 : V.cell? ⟨w.heap.size, 0, none⟩ = some (.slice (some ⟨gm, om, none⟩) n cm) := Zac ((hV.block _ (Zab HB0.out)).trans HB0.out) rfl
  have k1 : V.cell? ⟨w.heap.size, 1, none⟩ = some (.int .u64 fo) := Zac ((hV.block _ (Zab HB0.out)).trans HB0.out) rfl
  have k2 : V.cell? ⟨w.heap.size, 2, none⟩ = some (.slice (some ⟨gt, ot, none⟩) n ct) := Zac ((hV.block _ (Zab HB0.out)).trans HB0.out) rfl
  go_simp
  (try with_reducible rfl)
 simp only [Zaa, Zs, Zz]
 refine tkI 2 ?_ hS ?_ ?_
 rotate_left
 ·
  intro V hV
  have k0 : V.cell? ⟨w.heap.size, 0, none⟩ = some (.slice (some ⟨gm, om, none⟩) n cm) := Zac ((hV.block _ (Zab HB0.out)).trans HB0.out) rfl
  have k1 : V.cell? ⟨w.heap.size, 1, none⟩ = some (.int .u64 fo) := Zac ((hV.block _ (Zab HB0.out)).trans HB0.out) rfl
  have k2 : V.cell? ⟨w.heap.size, 2, none⟩ = some (.slice (some ⟨gt, ot, none⟩) n ct) := Zac ((hV.block _ (Zab HB0.out)).trans HB0.out) rfl
  go_simp
  (try with_reducible rfl)
 simp only [Zaa, Zs, Zz]
 refine rd1 3 (fun K hK => ?_)
 go_simp
 refine (ZhG HH.out.1 2 (by decide) _ _ (HFF.out.moved (HBW.out.trans (hS.mono HBW.out.size)))).mono ?_
 rintro r y1 ⟨⟨v1, rfl, hL⟩, hb⟩
 refine hK.out _ _ (hS.trans (hb.mono hS.size)) (fun hS2 => ?_)
 clear hS
 have hS := hS2
 clear hS2
 have HL1 := hideP hL
 clear hL
 clear hb
 clear hK K
 refine rd1 4 (fun K hK => ?_)
 go_simp
 refine (ZbG HH.out.1.n8 M 2 HH.out.1.lt (ZhO HH.out.1.n0 2 (by decide)) _ _ v1 (HMV.out.moved (HBW.out.trans (hS.mono HBW.out.size))) HL1.out).mono ?_
 rintro r y2 ⟨⟨v2, c2, rfl, hL, -⟩, hb⟩
 refine hK.out _ _ (hS.trans (hb.mono hS.size)) (fun hS2 => ?_)
 clear hS
 have hS := hS2
 clear hS2
 rw [if_neg (by have := HH.out.1.ge; omega)] at hL
 have HL2 := hideP hL
 clear hL
 clear hb
 clear hK K
 refine tkG 5 hS ?_
 simp only [Zaa, Zs, Zz]
 refine tkG 6 hS ?_
 simp only [Zaa, Zs, Zz]
 refine tkG 7 hS ?_
 simp only [Zaa, Zs, Zz]
 refine rd1 8 (fun K hK => ?_)
 go_simp
 refine hK.out _ _ hS (fun hS => ?_)
 clear hK K
 refine rd1 9 (fun K hK => ?_)
 go_simp
 refine hK.out _ _ hS (fun hS => ?_)
 clear hK K
 refine wpAnyH_done (by kernel_rfl) ?_ _
 (try simp only [Zas])
 refine HK1.out _ _ ?_
 have f0 : y2.cell? ⟨w.heap.size, 0, none⟩ = some (.slice (some ⟨gm, om, none⟩) n cm) := Zac ((hS.block _ (Zab HB0.out)).trans HB0.out) rfl
 have f1 : y2.cell? ⟨w.heap.size, 1, none⟩ = some (.int .u64 fo) := Zac ((hS.block _ (Zab HB0.out)).trans HB0.out) rfl
 have f2 : y2.cell? ⟨w.heap.size, 2, none⟩ = some (.slice (some ⟨gt, ot, none⟩) n ct) := Zac ((hS.block _ (Zab HB0.out)).trans HB0.out) rfl
 have HB2 := hideP (HBW.out.trans (hS.mono HBW.out.size))
 have C := hideP (ZkX HH.out.1 X HH.out.2 n HH.out.1.n8 (limb (M - 2)) y2 _ u v2 (HFF.out.moved HB2.out) (HU.out.moved HB2.out) HL2.out.exp)
 rw [Zal (Nat.lt_of_le_of_lt (Nat.sub_le _ _) HH.out.1.lt)] at C
 clear hS HBW HL1
 go_wp2_with fail
 refine C.out.mono ?_
 rintro r y3 ⟨⟨v3, rfl, hL⟩, hb⟩
 have HL3 := hideP hL
 have HB3 := hideP (HB2.out.trans (hb.mono HB2.out.size))
 clear hL hb C
 go_wp2
 go_ret
 exact ⟨⟨_, rfl, HL3.out⟩, HB3.out⟩
theorem Zdd : Tryz.prog.underlying 39 = some (.struct (fsOf (Tryz.prog.underlying 39))) := by kernel_rfl
theorem info39 : (Tryz.prog.info? 39).map (·.size) = some 3 := by kernel_rfl
theorem al39 (w : World) : (Instr.alloc 39 true (.tuple #[])).run Tryz.prog w = .ok (.pointer (some ⟨w.heap.size, 0, none⟩)) (w.alloc (.cells #[.slice none 0 0, .int .u64 0, .slice none 0 0] 39 (0, 0))) := by kernel_rfl
theorem Zbj : Tryz.prog.underlying 42 = some (.struct (fsOf (Tryz.prog.underlying 42))) := by kernel_rfl
theorem info42 : (Tryz.prog.info? 42).map (·.size) = some 3 := by kernel_rfl
theorem al42 (w : World) : (Instr.alloc 42 true (.tuple #[])).run Tryz.prog w = .ok (.pointer (some ⟨w.heap.size, 0, none⟩)) (w.alloc (.cells #[.slice none 0 0, .slice none 0 0, .bool false] 42 (0, 0))) := by kernel_rfl
theorem Zb1 : Tryz.prog.underlying 44 = some (.struct (fsOf (Tryz.prog.underlying 44))) := by kernel_rfl
theorem info44 : (Tryz.prog.info? 44).map (·.size) = some 9 := by kernel_rfl
theorem al44 (w : World) : (Instr.alloc 44 true (.tuple #[])).run Tryz.prog w = .ok (.pointer (some ⟨w.heap.size, 0, none⟩)) (w.alloc (.cells #[.slice none 0 0, .int .u64 0, .slice none 0 0, .int .i64 0, .slice none 0 0, .slice none 0 0, .slice none 0 0, .slice none 0 0, .bool false] 44 (0, 0))) := by kernel_rfl
theorem Zdo : ∀ (vs pre old rest : List Value), old.length = vs.length → putAll (pre ++ (old ++ rest)).toArray pre.length vs = (pre ++ (vs ++ rest)).toArray
 | [], pre, old, rest, h => by
  obtain rfl := List.eq_nil_of_length_eq_zero (by simpa using h)
  rfl
 | v :: vs, pre, [], rest, h => by simp at h
 | v :: vs, pre, x :: old, rest, h => by
  have e : (pre ++ (x :: old ++ rest)).toArray.setIfInBounds pre.length v = ((pre ++ [v]) ++ (old ++ rest)).toArray := by simp
  rw [putAll, e]
  have := Zdo vs (pre ++ [v]) old rest (by simpa using h)
  rw [List.length_append, List.length_singleton] at this
  rw [this]
  simp
theorem ZgO {A B B' C : Array Value} {o : Nat} (hA : A.size = o) (hB : B.size = B'.size) : putAll (A ++ (B ++ C)) o B'.toList = A ++ (B' ++ C) := by
 subst hA
 have h := Zdo B'.toList A.toList B.toList C.toList (by simpa using hB)
 have e : ∀ X Y Z : Array Value, (X.toList ++ (Y.toList ++ Z.toList)).toArray = X ++ (Y ++ Z) := fun X Y Z => by
  apply Array.ext'
  simp only [Array.toList_append]
 rw [e, e, Array.length_toList] at h
 exact h
theorem ZfY {w : World} {b t o n : Nat} {C : Array Value} (h : w.heap[b]? = some (.cells C t (0, 0))) (hn : o + n ≤ C.size) : w.there b o n := fun j hj => by
 refine ⟨?_, Zap h⟩
 rw [Zac h (Array.getElem?_eq_getElem (by omega))]
 rfl
def sb (s : ByteArray) (j : Nat) : Nat := (s.data[j]?.getD 0).toNat
theorem ZkY (s : ByteArray) (k : Nat) (hk : k < s.size) (W : World) : (Instr.index 9 (.string s) (.int .i64 (k : Int))).run Tryz.prog W = .ok (.int .u8 (sb s k)) W := by
 have hd : s.data[k]? = some s.data[k] := Array.getElem?_eq_getElem hk
 have h := run_index_string (P := Tryz.prog) (w := W) 9 s .i64 (k : Int) Tryz.underlying9
 rw [h]
 unfold sb
 rw [hd]
 have e : ((k : Int)).toNat = k := by omega
 have g : ¬ ((k : Int) < 0 ∨ (s.size : Int) ≤ (k : Int)) := by omega
 simp [e, hk]
 rfl
def hxd (c : Nat) : Nat := if 97 ≤ c then c - 97 + 10 else c - 48
def hxv (s : ByteArray) : Nat → Nat
 | 0 => 0
 | k + 1 => hxv s k + hxd (sb s (s.size - 1 - k)) * 16 ^ k
theorem Zet (V d k j : Nat) (hV : V < 16 ^ k) (hd : d < 16) : limb (V + d * 16 ^ k) j = if j = k / 16 then limb V j + d * 2 ^ (4 * (k % 16)) else limb V j := by
 have e : (16 : Nat) ^ k = 2 ^ (4 * (k % 16)) * 18446744073709551616 ^ (k / 16) := by
  rw [show (18446744073709551616 : Nat) = 2 ^ 64 by decide, ← Nat.pow_mul, ← Nat.pow_add, show (16 : Nat) = 2 ^ 4 by decide, ← Nat.pow_mul]
  congr 1
  omega
 have hlow : V / 18446744073709551616 ^ (k / 16) < 2 ^ (4 * (k % 16)) := by
  rw [Nat.div_lt_iff_lt_mul (Nat.pow_pos (by decide)), ← e]
  exact hV
 have hp : 2 ^ (4 * (k % 16)) ≤ 2 ^ 60 := Nat.pow_le_pow_right (by decide) (by omega)
 unfold limb
 by_cases h : j = k / 16
 ·
  subst h
  rw [if_pos rfl, e, ← Nat.mul_assoc, Nat.add_mul_div_right _ _ (Nat.pow_pos (by decide))]
  have h60 : (2 : Nat) ^ 60 = 1152921504606846976 := by decide
  have hm : d * 2 ^ (4 * (k % 16)) ≤ 15 * 2 ^ (4 * (k % 16)) := Nat.mul_le_mul_right _ (by omega)
  generalize d * 2 ^ (4 * (k % 16)) = D at *
  generalize 2 ^ (4 * (k % 16)) = P at *
  generalize V / 18446744073709551616 ^ (k / 16) = Q at *
  omega
 ·
  rw [if_neg h]
  rcases Nat.lt_or_gt_of_ne h with h1 | h1
  ·
   have hk : k / 16 = (k / 16 - j - 1) + 1 + j := by omega
   have e2 : d * 16 ^ k = d * 2 ^ (4 * (k % 16)) * 18446744073709551616 ^ (k / 16 - j - 1) * 18446744073709551616 * 18446744073709551616 ^ j := by
    rw [e]
    conv => lhs; rw [hk, Nat.pow_add, Nat.pow_succ]
    simp only [Nat.mul_assoc]
   rw [e2, Nat.add_mul_div_right _ _ (Nat.pow_pos (by decide)), Nat.add_mul_mod_self_right]
  ·
   have hz : ∀ N, N < 16 ^ (k + 1) → N / 18446744073709551616 ^ j = 0 := fun N hN => by
    apply Nat.div_eq_of_lt
    refine Nat.lt_of_lt_of_le hN ?_
    rw [show (18446744073709551616 : Nat) = 16 ^ 16 by decide, ← Nat.pow_mul]
    exact Nat.pow_le_pow_right (by decide) (by omega)
   have hN : V + d * 16 ^ k < 16 ^ (k + 1) := by
    rw [Nat.pow_succ]
    have := Nat.mul_le_mul_right (16 ^ k) (show d ≤ 15 by omega)
    omega
   rw [hz _ hN, hz V (Nat.lt_trans hV (Nat.pow_lt_pow_right (by decide) (by omega)))]
def Zfv (s : ByteArray) : Prop := ∀ j, j < s.size → (48 ≤ sb s j ∧ sb s j ≤ 57) ∨ (97 ≤ sb s j ∧ sb s j ≤ 102)
theorem ZlV {c : Nat} (h : (48 ≤ c ∧ c ≤ 57) ∨ (97 ≤ c ∧ c ≤ 102)) : hxd c < 16 := by
 unfold hxd
 split <;> omega
theorem ZlW {s : ByteArray} (hs : Zfv s) : ∀ k, k ≤ s.size → hxv s k < 16 ^ k
 | 0, _ => by simp [hxv]
 | k + 1, h => by
  have ih := ZlW hs k (by omega)
  have hd := ZlV (hs (s.size - 1 - k) (by omega))
  rw [hxv, Nat.pow_succ]
  have := Nat.mul_le_mul_right (16 ^ k) (show hxd (sb s (s.size - 1 - k)) ≤ 15 by omega)
  omega
theorem ZkZ (a d n : Nat) (ha : a < 2 ^ n) (hd : d < 16) (hn : n ≤ 60) : bits .or .u64 (a : Int) ((d * 2 ^ n : Nat) : Int) = ((a + d * 2 ^ n : Nat) : Int) := by
 have hp : 2 ^ n ≤ 2 ^ 60 := Nat.pow_le_pow_right (by decide) hn
 have h60 : (2 : Nat) ^ 60 = 1152921504606846976 := by decide
 have hm := Nat.mul_le_mul_right (2 ^ n) (show d ≤ 15 by omega)
 have h := bits_or_u64_nat a (d * 2 ^ n) (by omega) (by omega)
 have e : a ||| d * 2 ^ n = a + d * 2 ^ n := by
  rw [Nat.mul_comm, Nat.or_comm, ← Nat.two_pow_add_eq_or_of_lt ha d, Nat.add_comm]
 rw [h, e]
theorem Zeu {V k : Nat} (hV : V < 16 ^ k) : limb V (k / 16) < 2 ^ (4 * (k % 16)) := by
 unfold limb
 refine Nat.lt_of_le_of_lt (Nat.mod_le _ _) ?_
 rw [Nat.div_lt_iff_lt_mul (Nat.pow_pos (by decide)), show (18446744073709551616 : Nat) = 2 ^ 64 by decide, ← Nat.pow_mul, ← Nat.pow_add]
 refine Nat.lt_of_lt_of_le hV ?_
 rw [show (16 : Nat) = 2 ^ 4 by decide, ← Nat.pow_mul]
 exact Nat.pow_le_pow_right (by decide) (by omega)
end Go.Proofs.YtcbdbnfgnonacaaGreat
namespace Go.Proofs.YtcbdbnfgnonacaaGreat.W4
open Go.RowKit Go.Shelf
theorem infoU' : (Tryz.prog.info? 27).map (fun i => (i.zero, i.size, i.bytes)) = some (some (.int .u64 0), 1, 8) := by kernel_rfl
theorem Zj0 (W : World) : (Instr.makeSlice 37 (.int .i64 (4 : Int)) (.int .i64 (4 : Int))).run Tryz.prog W = .ok (.slice (some ⟨W.heap.size, 0, none⟩) 4 4) (W.alloc (.cells (cs (fun _ => 0)) 27)) := by
 have hT : Tryz.prog.underlying 37 = some (.slice 27) := by kernel_rfl
 obtain ⟨i0, hi, hz, hs, hb⟩ := info_parts infoU'
 have := run_makeSlice (P := Tryz.prog) (w := W) 37 27 i0 (.int .u64 0) hT hi hz .i64 .i64 4 4 (by decide) (by decide) (by rw [hs]; decide) (by rw [hb]; decide) (by decide)
 have e : madeCells (Value.int IntKind.u64 0).cells (Int.toNat 4 * 1) = cs (fun _ => 0) := by kernel_rfl
 rw [this, hs, e]
 rfl
theorem Zj1 (s : ByteArray) (hs : Zfv s) (hL : s.size ≤ 16 * 4) (w : World) : Calls Tryz.prog 94 #[.string s, .int .i64 (4 : Int)] w fun r w' => (∃ g, r = .returned (.slice (some ⟨g, 0, none⟩) 4 4) ∧ w'.heap[g]? = some (.cells (cs (limb (hxv s s.size))) 27 (0, 0))) ∧ Below w.heap.size w w' := by
 have hmk := Zj0 w
 have HS := hideP hs
 have HL := hideP hL
 have hidx := hideP (fun k (hk : k < s.size) W => ZkY s k hk W)
 have e0 : IntKind.i64.wrap ((s.size : Int) - 1) = (s.size : Int) - 1 := by rw [IntKind.wrap_i64]; omega
 clear hs hL
 unfold cs at hmk
 go_enter Tryz.func94, Tryz.ntmps94
 go_wp2_with fail
 refine Zaj (fun W0 hW0 => ?_)
 have hG : W0.heap[w.heap.size]? = some (.cells (cs (fun _ => 0)) 27 (0, 0)) := by
  rw [hW0]
  exact Zaf _ _
 have HBW : Hid (Below w.heap.size w W0) := by
  show Below _ _ _
  rw [hW0]
  repeat first | exact Below.refl _ _ | (refine Below.alloc ?_ (by simp <;> omega) _)
 have HG := hideP hG
 clear hW0 hG hmk
 go_loopw [6] (fun i wr => ∃ k : Nat, k ≤ s.size ∧ i = .int .i64 k ∧ wr.heap[w.heap.size]? = some (.cells (cs (limb (hxv s k))) 27 (0, 0)) ∧ But w.heap.size W0 wr) (fun i _ => s.size - (intOf i).toNat)
 case atStart => exact ⟨0, Nat.zero_le _, rfl, by rw [hxv, Zbe (g := fun _ => 0) (fun j _ => by simp [limb])]; exact HG.out, But.refl _ _⟩
 case round =>
  obtain ⟨k, hk, rfl, hg, hb⟩ := hrel
  by_cases hlt : k < s.size
  ·
   have hL := HL.out
   have hq : k / 16 < 4 := by omega
   have hV := ZlW HS.out k (by omega)
   have hdg := HS.out (s.size - 1 - k) (by omega)
   have hd := ZlV hdg
   have cg := Zac hg (get _ hq)
   have fr : ∀ o, wr.frozen? ⟨w.heap.size, o, none⟩ = false := fun o => Zap hg
   have hor := ZkZ (limb (hxv s k) (k / 16)) (hxd (sb s (s.size - 1 - k))) (4 * (k % 16)) (Zeu hV) hd (by omega)
   have hN := Zet (hxv s k) (hxd (sb s (s.size - 1 - k))) k
   have h3 := Zaw (o := k / 16) hg (.int .u64 ((limb (hxv s k) (k / 16) + hxd (sb s (s.size - 1 - k)) * 2 ^ (4 * (k % 16)) : Nat) : Int))
   rw [set _ _ hq, Zbe (g := limb (hxv s (k + 1))) (fun j _ => by
    rw [hxv, hN j hV hd]
    by_cases h1 : j = k / 16
    ·
     rw [if_pos h1, if_pos h1, h1]
    ·
     rw [if_neg h1, if_neg h1])] at h3
   have H3 := hideP h3
   have HB := hideP hb
   have HKS : Hid (k + 1 ≤ s.size) := hlt
   have hix := hidx.out (s.size - 1 - k) (by omega)
   have hlt' : (k : Int) < s.size := by omega
   have e1 : IntKind.i64.wrap ((s.size : Int) - 1 - (k : Int)) = ((s.size - 1 - k : Nat) : Int) := by rw [IntKind.wrap_i64]; omega
   have e4 : IntKind.i64.wrap ((k : Int) + 1) = (k : Int) + 1 := by rw [IntKind.wrap_i64]; omega
   have d1 : ((k : Int)).tdiv 16 = ((k / 16 : Nat) : Int) := by rw [Int.tdiv_eq_ediv_of_nonneg (by omega)]; omega
   have d1' : IntKind.i64.wrap ((k / 16 : Nat) : Int) = ((k / 16 : Nat) : Int) := by rw [IntKind.wrap_i64]; omega
   have d2 : ((k : Int)).tmod 16 = ((k % 16 : Nat) : Int) := by rw [Int.tmod_eq_emod_of_nonneg (by omega)]; omega
   have d2' : IntKind.i64.wrap ((k % 16 : Nat) : Int) = ((k % 16 : Nat) : Int) := by rw [IntKind.wrap_i64]; omega
   have d3 : IntKind.i64.wrap (4 * ((k % 16 : Nat) : Int)) = ((4 * (k % 16) : Nat) : Int) := by rw [IntKind.wrap_i64]; omega
   have d4 : IntKind.u64.wrap ((4 * (k % 16) : Nat) : Int) = ((4 * (k % 16) : Nat) : Int) := by rw [IntKind.wrap_u64]; omega
   have g1 : ((k / 16 : Nat) : Int) < 4 := by omega
   have g2 : ((4 * (k % 16) : Nat) : Int) < 64 := by omega
   have hp : 2 ^ (4 * (k % 16)) ≤ 2 ^ 60 := Nat.pow_le_pow_right (by decide) (by omega)
   have h60 : (2 : Nat) ^ 60 = 1152921504606846976 := by decide
   have hm := Nat.mul_le_mul_right (2 ^ (4 * (k % 16))) (show hxd (sb s (s.size - 1 - k)) ≤ 15 by omega)
   have hwd : IntKind.u64.wrap ((hxd (sb s (s.size - 1 - k)) : Int) * 2 ^ (4 * (k % 16))) = ((hxd (sb s (s.size - 1 - k)) * 2 ^ (4 * (k % 16)) : Nat) : Int) := by
    have e : ((hxd (sb s (s.size - 1 - k)) : Int) * 2 ^ (4 * (k % 16))) = ((hxd (sb s (s.size - 1 - k)) * 2 ^ (4 * (k % 16)) : Nat) : Int) := by simp
    rw [e, M64.wrapN _ (by omega)]
   have hor2 : bits .or .u64 (limb (hxv s k) (k / 16) : Int) ((hxd (sb s (s.size - 1 - k)) : Int) * 2 ^ (4 * (k % 16))) = ((limb (hxv s k) (k / 16) + hxd (sb s (s.size - 1 - k)) * 2 ^ (4 * (k % 16)) : Nat) : Int) := by
    rw [← hor]
    congr 1
   have HOR := hideP hor2
   clear hor hor2
   have hxe : hxd (sb s (s.size - 1 - k)) = if 97 ≤ sb s (s.size - 1 - k) then sb s (s.size - 1 - k) - 97 + 10 else sb s (s.size - 1 - k) - 48 := rfl
   generalize limb (hxv s k) (k / 16) = lv at *
   generalize hxd (sb s (s.size - 1 - k)) = dg at *
   generalize sb s (s.size - 1 - k) = c at *
   generalize s.size - 1 - k = ix at *
   generalize k / 16 = q at *
   generalize 4 * (k % 16) = sh at *
   generalize k % 16 = r at *
   clear hg hb hk hlt hN hV hL h3 hp h60 hm hd
   rcases hdg with ⟨a1, a2⟩ | ⟨a1, a2⟩
   ·
    have b1 : ¬ (97 : Int) ≤ (c : Int) := by omega
    rw [if_neg (by omega)] at hxe
    have w1 : IntKind.u8.wrap ((c : Int) - 48) = (dg : Int) := by rw [IntKind.wrap_u8]; omega
    have w2 : IntKind.u64.wrap (dg : Int) = (dg : Int) := by rw [IntKind.wrap_u64]; omega
    clear a1 a2 hxe
    go_wp2_with fail
    refine ⟨⟨k + 1, HKS.out, by go_num, ?_, HB.out.set _ _⟩, by have := HKS.out; simp [intOf]; omega⟩
    rw [HOR.out]
    exact H3.out
   ·
    have b1 : (97 : Int) ≤ (c : Int) := by omega
    rw [if_pos (by omega)] at hxe
    have w0 : IntKind.u8.wrap ((c : Int) - 48) = ((c - 48 : Nat) : Int) := by rw [IntKind.wrap_u8]; omega
    have w00 : IntKind.u64.wrap ((c - 48 : Nat) : Int) = ((c - 48 : Nat) : Int) := by rw [IntKind.wrap_u64]; omega
    have w1 : IntKind.u8.wrap ((c : Int) - 97) = ((c - 97 : Nat) : Int) := by rw [IntKind.wrap_u8]; omega
    have w2 : IntKind.u64.wrap ((c - 97 : Nat) : Int) = ((c - 97 : Nat) : Int) := by rw [IntKind.wrap_u64]; omega
    have w3 : IntKind.u64.wrap (((c - 97 : Nat) : Int) + 10) = (dg : Int) := by rw [IntKind.wrap_u64]; omega
    clear a1 a2 hxe
    generalize c - 48 = c48 at *
    generalize c - 97 = c97 at *
    go_wp2_with fail
    refine ⟨⟨k + 1, HKS.out, by go_num, ?_, HB.out.set _ _⟩, by have := HKS.out; simp [intOf]; omega⟩
    rw [HOR.out]
    exact H3.out
  ·
   have hkn : k = s.size := by omega
   have hnl : ¬ (k : Int) < s.size := by omega
   rw [hkn] at hg
   have H3 := hideP hg
   have HB := hideP hb
   clear hg hb hk hlt hkn
   go_wp2
   go_ret
   exact ⟨⟨_, rfl, H3.out⟩, HBW.out.trans HB.out.below⟩
end Go.Proofs.YtcbdbnfgnonacaaGreat.W4
namespace Go.Proofs.YtcbdbnfgnonacaaGreat.W6
open Go.RowKit Go.Shelf
def cs (g : Nat → Nat) : Array Value := #[.int .u64 (g 0), .int .u64 (g 1), .int .u64 (g 2), .int .u64 (g 3), .int .u64 (g 4), .int .u64 (g 5)]
theorem get (g : Nat → Nat) {j : Nat} (h : j < 6) : (cs g)[j]? = some (.int .u64 (g j)) := by
 match j, h with
 | 0, _ => rfl
 | 1, _ => rfl
 | 2, _ => rfl
 | 3, _ => rfl
 | 4, _ => rfl
 | 5, _ => rfl
 | k + 6, h => exact absurd h (by omega)
theorem set (g : Nat → Nat) {j : Nat} (v : Nat) (h : j < 6) : (cs g).setIfInBounds j (.int .u64 v) = cs (fun i => if i = j then v else g i) := by
 match j, h with
 | 0, _ => rfl
 | 1, _ => rfl
 | 2, _ => rfl
 | 3, _ => rfl
 | 4, _ => rfl
 | 5, _ => rfl
 | k + 6, h => exact absurd h (by omega)
theorem under : Tryz.prog.underlying 28 = some (.array 6 27) := by kernel_rfl
theorem info (g : Nat → Nat) : (Tryz.prog.info? 28).map (·.size) = some (cs g).size := by kernel_rfl
theorem one (g : Nat → Nat) : (cs g).all (·.oneCell') = true := by simp [cs, Value.oneCell']
theorem Za6 (g : Nat → Nat) : (cs g).size = 6 := rfl
def R : Nat := 39402006196394479212279040100143613805079739270465446667948293404245721771497210611414266254884915640806627990306816
theorem R_eq : R = 18446744073709551616 ^ 6 := by decide
theorem ZiN : ∃ k, R = 2 ^ k := ⟨64 * 6, by rw [R_eq, show (18446744073709551616 : Nat) = 2 ^ 64 by decide, ← Nat.pow_mul]⟩
def wv (X : Nat) : Value := .agg (cs (limb X))
theorem ZiO (X : Nat) : wv X = .agg #[.int .u64 (limb X 0), .int .u64 (limb X 1), .int .u64 (limb X 2), .int .u64 (limb X 3), .int .u64 (limb X 4), .int .u64 (limb X 5)] := rfl
theorem Zbe {f g : Nat → Nat} (h : ∀ j, j < 6 → f j = g j) : cs f = cs g := by
 unfold cs
 rw [h 0 (by omega), h 1 (by omega), h 2 (by omega), h 3 (by omega), h 4 (by omega), h 5 (by omega)]
theorem Zcf {g : Nat → Nat} (h : ∀ j, j < 6 → g j < 18446744073709551616) : Value.agg (cs g) = wv (val g 6) := by
 unfold wv
 rw [Zbe (fun j hj => (Zcq 6 h hj).symm)]
theorem Zal {X : Nat} (h : X < R) : val (limb X) 6 = X := by
 rw [ZeM, ← R_eq, Nat.mod_eq_of_lt h]
theorem Zbn {g : Nat → Nat} (h : ∀ j, j < 6 → g j < 18446744073709551616) : val g 6 < R := by
 rw [R_eq]; exact ZbK _ h
theorem cells {w : World} {b t : Nat} {g : Nat → Nat} (h : w.heap[b]? = some (.cells (cs g) t (0, 0))) : w.cell? ⟨b, 0, none⟩ = some (.int .u64 (g 0)) ∧ w.cell? ⟨b, 1, none⟩ = some (.int .u64 (g 1)) ∧ w.cell? ⟨b, 2, none⟩ = some (.int .u64 (g 2)) ∧ w.cell? ⟨b, 3, none⟩ = some (.int .u64 (g 3)) ∧ w.cell? ⟨b, 4, none⟩ = some (.int .u64 (g 4)) ∧ w.cell? ⟨b, 5, none⟩ = some (.int .u64 (g 5)) :=
 ⟨Zac h rfl, Zac h rfl, Zac h rfl, Zac h rfl, Zac h rfl, Zac h rfl⟩
end Go.Proofs.YtcbdbnfgnonacaaGreat.W6
namespace Go.Proofs.YtcbdbnfgnonacaaGreat
open Go.RowKit Go.Shelf
def nBnP : Nat := 21888242871839275222246405745257275088696311157297823662689037894645226208583
theorem Zla (w : World) : Calls Tryz.prog 72 #[] w fun r w' => r = .returned (.agg (W4.cs (limb nBnP))) ∧ Below w.heap.size w w' := by
 have HV := hideP (show (Value.agg #[.int .u64 4332616871279656263, .int .u64 10917124144477883021, .int .u64 13281191951274694749, .int .u64 3486998266802970665]) = .agg (W4.cs (limb nBnP)) by kernel_rfl)
 rw [← HV.out]
 go_enter Tryz.func72, Tryz.ntmps72
 go_wp2
 refine bodyPost_ret (v := .agg #[.int .u64 4332616871279656263, .int .u64 10917124144477883021, .int .u64 13281191951274694749, .int .u64 3486998266802970665]) (by simp [results, Tryz.results72, go_sem]) rfl ⟨rfl, ?_⟩
 repeat first | exact Below.refl _ _ | apply Below.drew | (refine Below.alloc ?_ (by simp <;> omega) _) | (refine Below.setCell ?_ (by simp <;> omega) _)
theorem Zlb (w : World) : Calls Tryz.prog 87 #[] w fun r w' => (∃ g, r = .returned (.slice (some ⟨g, 0, none⟩) 4 4) ∧ w'.heap[g]? = some (.cells (W4.cs (limb nBnP)) 27 (0, 0))) ∧ Below w.heap.size w w' := by
 have hc : Calls Tryz.prog 94 #[.string ⟨#[51, 48, 54, 52, 52, 101, 55, 50, 101, 49, 51, 49, 97, 48, 50, 57, 98, 56, 53, 48, 52, 53, 98, 54, 56, 49, 56, 49, 53, 56, 53, 100, 57, 55, 56, 49, 54, 97, 57, 49, 54, 56, 55, 49, 99, 97, 56, 100, 51, 99, 50, 48, 56, 99, 49, 54, 100, 56, 55, 99, 102, 100, 52, 55]⟩, .int .i64 (4 : Int)] w fun r w' => (∃ g, r = .returned (.slice (some ⟨g, 0, none⟩) 4 4) ∧ w'.heap[g]? = some (.cells (W4.cs (limb nBnP)) 27 (0, 0))) ∧ Below w.heap.size w w' := by
  have h := W4.Zj1 ⟨#[51, 48, 54, 52, 52, 101, 55, 50, 101, 49, 51, 49, 97, 48, 50, 57, 98, 56, 53, 48, 52, 53, 98, 54, 56, 49, 56, 49, 53, 56, 53, 100, 57, 55, 56, 49, 54, 97, 57, 49, 54, 56, 55, 49, 99, 97, 56, 100, 51, 99, 50, 48, 56, 99, 49, 54, 100, 56, 55, 99, 102, 100, 52, 55]⟩ (by unfold Zfv; decide +kernel) (by decide) w
  rw [show hxv ⟨#[51, 48, 54, 52, 52, 101, 55, 50, 101, 49, 51, 49, 97, 48, 50, 57, 98, 56, 53, 48, 52, 53, 98, 54, 56, 49, 56, 49, 53, 56, 53, 100, 57, 55, 56, 49, 54, 97, 57, 49, 54, 56, 55, 49, 99, 97, 56, 100, 51, 99, 50, 48, 56, 99, 49, 54, 100, 56, 55, 99, 102, 100, 52, 55]⟩ (ByteArray.size ⟨#[51, 48, 54, 52, 52, 101, 55, 50, 101, 49, 51, 49, 97, 48, 50, 57, 98, 56, 53, 48, 52, 53, 98, 54, 56, 49, 56, 49, 53, 56, 53, 100, 57, 55, 56, 49, 54, 97, 57, 49, 54, 56, 55, 49, 99, 97, 56, 100, 51, 99, 50, 48, 56, 99, 49, 54, 100, 56, 55, 99, 102, 100, 52, 55]⟩) = nBnP by kernel_rfl] at h
  exact h
 have HC := hideP hc
 clear hc
 go_enter Tryz.func87, Tryz.ntmps87
 go_wp2_with fail
 refine HC.out.mono ?_
 rintro r w1 ⟨⟨g, rfl, hg⟩, hb⟩
 have HG := hideP hg
 have HB := hideP hb
 clear hg hb
 go_wp2
 go_ret
 exact ⟨⟨g, rfl, HG.out⟩, HB.out⟩
def nBnR : Nat := 21888242871839275222246405745257275088548364400416034343698204186575808495617
theorem Zh6 (w : World) : Calls Tryz.prog 154 #[] w fun r w' => r = .returned (.agg (W4.cs (limb nBnR))) ∧ Below w.heap.size w w' := by
 have HV := hideP (show (Value.agg #[.int .u64 4891460686036598785, .int .u64 2896914383306846353, .int .u64 13281191951274694749, .int .u64 3486998266802970665]) = .agg (W4.cs (limb nBnR)) by kernel_rfl)
 rw [← HV.out]
 go_enter Tryz.func154, Tryz.ntmps154
 go_wp2
 refine bodyPost_ret (v := .agg #[.int .u64 4891460686036598785, .int .u64 2896914383306846353, .int .u64 13281191951274694749, .int .u64 3486998266802970665]) (by simp [results, Tryz.results154, go_sem]) rfl ⟨rfl, ?_⟩
 repeat first | exact Below.refl _ _ | apply Below.drew | (refine Below.alloc ?_ (by simp <;> omega) _) | (refine Below.setCell ?_ (by simp <;> omega) _)
theorem Zlc (w : World) : Calls Tryz.prog 69 #[] w fun r w' => (∃ g, r = .returned (.slice (some ⟨g, 0, none⟩) 4 4) ∧ w'.heap[g]? = some (.cells (W4.cs (limb nBnR)) 27 (0, 0))) ∧ Below w.heap.size w w' := by
 have hc : Calls Tryz.prog 94 #[.string ⟨#[51, 48, 54, 52, 52, 101, 55, 50, 101, 49, 51, 49, 97, 48, 50, 57, 98, 56, 53, 48, 52, 53, 98, 54, 56, 49, 56, 49, 53, 56, 53, 100, 50, 56, 51, 51, 101, 56, 52, 56, 55, 57, 98, 57, 55, 48, 57, 49, 52, 51, 101, 49, 102, 53, 57, 51, 102, 48, 48, 48, 48, 48, 48, 49]⟩, .int .i64 (4 : Int)] w fun r w' => (∃ g, r = .returned (.slice (some ⟨g, 0, none⟩) 4 4) ∧ w'.heap[g]? = some (.cells (W4.cs (limb nBnR)) 27 (0, 0))) ∧ Below w.heap.size w w' := by
  have h := W4.Zj1 ⟨#[51, 48, 54, 52, 52, 101, 55, 50, 101, 49, 51, 49, 97, 48, 50, 57, 98, 56, 53, 48, 52, 53, 98, 54, 56, 49, 56, 49, 53, 56, 53, 100, 50, 56, 51, 51, 101, 56, 52, 56, 55, 57, 98, 57, 55, 48, 57, 49, 52, 51, 101, 49, 102, 53, 57, 51, 102, 48, 48, 48, 48, 48, 48, 49]⟩ (by unfold Zfv; decide +kernel) (by decide) w
  rw [show hxv ⟨#[51, 48, 54, 52, 52, 101, 55, 50, 101, 49, 51, 49, 97, 48, 50, 57, 98, 56, 53, 48, 52, 53, 98, 54, 56, 49, 56, 49, 53, 56, 53, 100, 50, 56, 51, 51, 101, 56, 52, 56, 55, 57, 98, 57, 55, 48, 57, 49, 52, 51, 101, 49, 102, 53, 57, 51, 102, 48, 48, 48, 48, 48, 48, 49]⟩ (ByteArray.size ⟨#[51, 48, 54, 52, 52, 101, 55, 50, 101, 49, 51, 49, 97, 48, 50, 57, 98, 56, 53, 48, 52, 53, 98, 54, 56, 49, 56, 49, 53, 56, 53, 100, 50, 56, 51, 51, 101, 56, 52, 56, 55, 57, 98, 57, 55, 48, 57, 49, 52, 51, 101, 49, 102, 53, 57, 51, 102, 48, 48, 48, 48, 48, 48, 49]⟩) = nBnR by kernel_rfl] at h
  exact h
 have HC := hideP hc
 clear hc
 go_enter Tryz.func69, Tryz.ntmps69
 go_wp2_with fail
 refine HC.out.mono ?_
 rintro r w1 ⟨⟨g, rfl, hg⟩, hb⟩
 have HG := hideP hg
 have HB := hideP hb
 clear hg hb
 go_wp2
 go_ret
 exact ⟨⟨g, rfl, HG.out⟩, HB.out⟩
def nBlsP : Nat := 4002409555221667393417789825735904156556882819939007885332058136124031650490837864442687629129015664037894272559787
theorem Zj2 (w : World) : Calls Tryz.prog 78 #[] w fun r w' => r = .returned (.agg (W6.cs (limb nBlsP))) ∧ Below w.heap.size w w' := by
 have HV := hideP (show (Value.agg #[.int .u64 13402431016077863595, .int .u64 2210141511517208575, .int .u64 7435674573564081700, .int .u64 7239337960414712511, .int .u64 5412103778470702295, .int .u64 1873798617647539866]) = .agg (W6.cs (limb nBlsP)) by kernel_rfl)
 rw [← HV.out]
 go_enter Tryz.func78, Tryz.ntmps78
 go_wp2
 refine bodyPost_ret (v := .agg #[.int .u64 13402431016077863595, .int .u64 2210141511517208575, .int .u64 7435674573564081700, .int .u64 7239337960414712511, .int .u64 5412103778470702295, .int .u64 1873798617647539866]) (by simp [results, Tryz.results78, go_sem]) rfl ⟨rfl, ?_⟩
 repeat first | exact Below.refl _ _ | apply Below.drew | (refine Below.alloc ?_ (by simp <;> omega) _) | (refine Below.setCell ?_ (by simp <;> omega) _)
def nBlsR : Nat := 52435875175126190479447740508185965837690552500527637822603658699938581184513
theorem ZfZ (w : World) : Calls Tryz.prog 161 #[] w fun r w' => r = .returned (.agg (W4.cs (limb nBlsR))) ∧ Below w.heap.size w w' := by
 have HV := hideP (show (Value.agg #[.int .u64 18446744069414584321, .int .u64 6034159408538082302, .int .u64 3691218898639771653, .int .u64 8353516859464449352]) = .agg (W4.cs (limb nBlsR)) by kernel_rfl)
 rw [← HV.out]
 go_enter Tryz.func161, Tryz.ntmps161
 go_wp2
 refine bodyPost_ret (v := .agg #[.int .u64 18446744069414584321, .int .u64 6034159408538082302, .int .u64 3691218898639771653, .int .u64 8353516859464449352]) (by simp [results, Tryz.results161, go_sem]) rfl ⟨rfl, ?_⟩
 repeat first | exact Below.refl _ _ | apply Below.drew | (refine Below.alloc ?_ (by simp <;> omega) _) | (refine Below.setCell ?_ (by simp <;> omega) _)
theorem ZmK {a x : Nat} (hx : x < 18446744073709551616) (h : a * x % 18446744073709551616 = 1) : ∃ f : Nat, f < 18446744073709551616 ∧ IntKind.u64.wrap (-(x : Int)) = (f : Int) ∧ (a * f + 1) % 18446744073709551616 = 0 := by
 have h0 : 0 < x := by
  rcases Nat.eq_zero_or_pos x with rfl | h1
  ·
   simp at h
  ·
   exact h1
 refine ⟨18446744073709551616 - x, by omega, by rw [IntKind.wrap_u64]; omega, ?_⟩
 have e : a * (18446744073709551616 - x) + a * x = a * 18446744073709551616 := by
  rw [← Nat.mul_add]; congr 1; omega
 generalize a * (18446744073709551616 - x) = A at *
 generalize a * x = C at *
 omega
theorem Zld (k j : Nat) : limb (18446744073709551616 ^ k) j = if j = k then 1 else 0 := by
 unfold limb
 rcases Nat.lt_trichotomy j k with h | h | h
 ·
  rw [if_neg (by omega)]
  obtain ⟨d, rfl⟩ : ∃ d, k = d + 1 + j := ⟨k - j - 1, by omega⟩
  rw [Nat.pow_add, Nat.mul_div_cancel _ (Nat.pow_pos (by decide)), Nat.pow_succ, Nat.mul_mod_left]
 ·
  subst h
  rw [if_pos rfl, Nat.div_self (Nat.pow_pos (by decide))]
 ·
  rw [if_neg (by omega), Nat.div_eq_of_lt (Nat.pow_lt_pow_right (by decide) h), Nat.zero_mod]
theorem LW.other {w w' : World} {v x : Value} {n D a b c d t : Nat} {ao co : Option Addr} {f : Nat → Nat} (h : LW w v n f) (hn : 2 ≤ n) (hD : w.heap[D]? = some (.cells #[.slice ao a b, x, .slice co c d] t (0, 0))) (hB : But D w w') : LW w' v n f := by
 obtain ⟨g, o, k, e, h1, h2, hg, hc⟩ := h.ex
 have hne : g ≠ D := by
  intro e2
  subst e2
  have c0 := hc 0 (by omega)
  have c1 := hc 1 (by omega)
  simp only [World.cell?, hD] at c0 c1
  rcases (show o = 0 ∨ o = 1 ∨ o = 2 ∨ 3 ≤ o by omega) with rfl | rfl | rfl | h3
  ·
   simp at c0
  ·
   simp at c1
  ·
   simp at c0
  ·
   have h4 : (#[Value.slice ao a b, x, Value.slice co c d] : Array Value)[o]? = none := by
    rw [Array.getElem?_eq_none]
    simp
    omega
   rw [Nat.add_zero] at c0
   rw [h4] at c0
   cases c0
 exact ⟨g, o, k, e, h1, h2, Nat.lt_of_lt_of_le hg hB.below.size, fun j hj => (hB.cell hne).trans (hc j hj)⟩
theorem Zle {n M : Nat} (hn2 : 2 ≤ n) (hM : FM n M) (w : World) (m : Value) (hm : LW w m n (limb M)) :
  Calls Tryz.prog 86 #[m] w fun r w' => (∃ (fo : Nat) (tv : Value), r = .returned (.agg #[m, .int .u64 fo, tv]) ∧ LW w' tv n (limb (18446744073709551616 ^ n * 18446744073709551616 ^ n % M)) ∧ (M % 18446744073709551616 * fo + 1) % 18446744073709551616 = 0) ∧ Below w.heap.size w w' := by
 have HH := hideP hM
 have HN2 := hideP hn2
 clear hn2
 have HM := hideP hm
 obtain ⟨g2, o2, c2, rfl, _, _, l2, h2⟩ := hm.ex
 have H2 := hideP h2
 clear hM hm h2
 go_enter Tryz.func86, Tryz.ntmps86
 refine Zae (fun K0 HK0 => ?_)
 go_wp2_with fail
 refine HK0.out _ _ ?_
 refine Zae (fun K1 HK1 => ?_)
 go_wp2_with fail
 refine HK1.out _ _ ?_
 refine Zaj (fun W0 hW0 => ?_)
 have hR : W0.heap[w.heap.size]? = some (.cells #[.slice none 0 0, .int .u64 0, .slice none 0 0] 39 (0, 0)) := by
  rw [hW0]
  first | exact (Zah _ _ (by simp)).trans (Zaf _ _) | (simp [World.alloc, World.setCell])
 have hF : W0.heap[w.heap.size + 1]? = some (.cells #[.slice (some ⟨g2, o2, none⟩) n c2, .int .u64 0, .slice none 0 0] 39 (0, 0)) := by
  rw [hW0]
  first | exact Zat _ _ _ | (simp [World.alloc, World.setCell])
 have HBW : Hid (Below w.heap.size w W0) := by
  show Below _ _ _
  rw [hW0]
  repeat first | exact Below.refl _ _ | (refine Below.alloc ?_ (by simp <;> omega) _) | (refine Below.setCell ?_ (by simp <;> omega) _)
 have HR := hideP hR
 have HF := hideP hF
 have ca : W0.cell? ⟨g2, o2, none⟩ = some (.int .u64 (limb M 0)) := by
  have := H2.out 0 HH.out.n0
  rw [Nat.add_zero] at this
  exact (HBW.out.cell (p := ⟨g2, o2, none⟩) l2).trans this
 have HM0 := hideP (HM.out.moved HBW.out)
 have g0 : (0 : Int) < (n : Int) := by have := HH.out.n0; omega
 have hl0 : limb M 0 = M % 18446744073709551616 := by simp [limb]
 have hod : limb M 0 % 2 = 1 := by rw [hl0]; have := HH.out.odd; omega
 have HOD := hideP hod
 clear hW0 hR hF hod
 generalize hm0 : limb M 0 = m0 at ca HOD
 refine Zae (fun K2 HK2 => ?_)
 go_wp2_with fail
 refine HK2.out _ _ ?_
 refine Zae (fun K3 HK3 => ?_)
 go_wp2_with fail
 go_loopw [4, 5] (fun v i wr => wr = W0 ∧ ∃ k x : Nat, k ≤ 6 ∧ i = .int .i64 k ∧ v = .int .u64 x ∧ x < 18446744073709551616 ∧ (1 - (m0 : Int) * (x : Int)) % 18446744073709551616 = ((1 - (m0 : Int)) ^ (2 ^ k)) % 18446744073709551616) (fun _ i _ => 6 - (intOf i).toNat)
 case atStart => exact ⟨rfl, 0, 1, by omega, rfl, rfl, by decide, by rw [show 2 ^ 0 = 1 from rfl, Int.pow_succ, Int.pow_zero]; simp⟩
 case round =>
  obtain ⟨rfl, k, x, hk, rfl, rfl, hx, hd⟩ := hrel
  by_cases hlt : k < 6
  ·
   obtain ⟨y, hy, e1, e2⟩ := Zhz m0 x _ hd
   rw [← Int.pow_add, ← Nat.two_mul, Nat.mul_comm 2, ← Nat.pow_succ] at e2
   have HY : Hid (y < 18446744073709551616 ∧ (1 - (m0 : Int) * (y : Int)) % 18446744073709551616 = ((1 - (m0 : Int)) ^ (2 ^ (k + 1))) % 18446744073709551616) := ⟨hy, e2⟩
   have hlt' : (k : Int) < 6 := by omega
   have e4 : IntKind.i64.wrap ((k : Int) + 1) = (k : Int) + 1 := by rw [IntKind.wrap_i64]; omega
   have HKS : Hid (k + 1 ≤ 6) := hlt
   clear hk hlt hx hd hy e2 hl0 hm0
   go_wp2_with fail
   exact ⟨⟨trivial, k + 1, y, HKS.out, by go_num, rfl, HY.out.1, HY.out.2⟩, by have := HKS.out; simp [intOf]; omega⟩
  ·
   have hkn : k = 6 := by omega
   have hnl : ¬ (k : Int) < 6 := by omega
   rw [hkn, Zhy m0 HOD.out] at hd
   obtain ⟨f, hf1, hf2, hf3⟩ := ZmK hx (ZiS m0 x hd)
   have HFO : Hid ((M % 18446744073709551616 * f + 1) % 18446744073709551616 = 0) := by
    show _ = _
    rw [← hl0, hm0]
    exact hf3
   clear hk hlt hx hd hkn hf1 hf3 hl0 hm0 HOD ca
   go_wp2_with fail
   refine HK3.out _ _ ?_
   have fr : ∀ o, wr.frozen? ⟨w.heap.size + 1, o, none⟩ = false := fun o => Zap HF.out
   have cz := Zac (o := 1) HF.out rfl
   refine Zae (fun K4 HK4 => ?_)
   go_wp2_with fail
   refine HK4.out _ _ ?_
   have hF1 := Zaw (o := 1) HF.out (.int .u64 (f : Int))
   have hB1 := (But.refl (w.heap.size + 1) wr).set 1 (.int .u64 (f : Int))
   refine Zaj (fun W1 hW1 => ?_)
   rw [← hW1] at hF1 hB1
   have HF1 : Hid (W1.heap[w.heap.size + 1]? = some (.cells #[.slice (some ⟨g2, o2, none⟩) n c2, .int .u64 (f : Int), .slice none 0 0] 39 (0, 0))) := hF1
   have HR1 := hideP ((hB1.same _ (show w.heap.size ≠ w.heap.size + 1 by omega)).trans HR.out)
   have HBW1 := hideP (HBW.out.trans (hB1.below.mono (by omega)))
   have HM1 := hideP (HM.out.moved HBW1.out)
   clear hW1 hF1 hB1 fr cz HF HR hf2 HBW
   obtain ⟨N, hN⟩ : ∃ N, N = n + n + 1 := ⟨_, rfl⟩
   obtain ⟨NN, hNN⟩ : ∃ NN, NN = n + n := ⟨_, rfl⟩
   have hn := HH.out.n8
   have hmk := ZaV W1 N (by omega)
   have e1 : IntKind.i64.wrap (2 * (n : Int)) = (NN : Int) := by rw [IntKind.wrap_i64]; omega
   have e2 : IntKind.i64.wrap ((NN : Int) + 1) = (N : Int) := by rw [IntKind.wrap_i64]; omega
   have gNN : (NN : Int) < N := by omega
   have HNx : Hid (N = n + n + 1 ∧ NN = n + n ∧ n ≤ 8) := ⟨hN, hNN, hn⟩
   clear hN hNN hn
   refine Zae (fun K5 HK5 => ?_)
   go_wp2_with fail
   refine HK5.out _ _ ?_
   refine Zaj (fun W2 hW2 => ?_)
   have hD : W2.heap[W1.heap.size]? = some (.cells (cw N (fun _ => 0)) 27 (0, 0)) := by
    rw [hW2]
    exact Zaf _ _
   have hB2 : Below W1.heap.size W1 W2 := by
    rw [hW2]
    exact (Below.refl _ _).alloc (Nat.le_refl _) _
   obtain ⟨hN, hNN, hn⟩ := HNx.out
   have cz := Zac (o := NN) hD (Zb2 _ (by omega))
   have fr : ∀ o, W2.frozen? ⟨W1.heap.size, o, none⟩ = false := fun o => Zap hD
   have hD3 := Zaw (o := NN) hD (.int .u64 ((1 : Nat) : Int))
   rw [Zd9, ZeU (g := limb (18446744073709551616 ^ n * 18446744073709551616 ^ n)) (fun j _ => by rw [← Nat.pow_add, Zld, ← hNN])] at hD3
   have hB3 := (But.refl W1.heap.size W2).set NN (.int .u64 ((1 : Nat) : Int))
   clear hW2 hmk hN hNN hn
   refine Zae (fun K6 HK6 => ?_)
   go_wp2_with fail
   refine HK6.out _ _ ?_
   refine Zaj (fun W3 hW3 => ?_)
   simp only [Int.natCast_one] at hD3 hB3
   obtain ⟨hN, hNN, hn⟩ := HNx.out
   rw [← hW3] at hD3 hB3
   have hB13 := hB2.trans hB3.below
   have HF3 := hideP ((hB13.block _ (Zab HF1.out)).trans HF1.out)
   have HR3 := hideP ((hB13.block _ (Zab HR1.out)).trans HR1.out)
   have HBW3 := hideP (HBW1.out.trans (hB13.mono HBW1.out.size))
   have C := hideP (Zho (na := N) (n := n) (by omega) hn (18446744073709551616 ^ n * 18446744073709551616 ^ n) M (by rw [← Nat.pow_add, ← hNN]; exact Nat.pow_lt_pow_right (by decide) (by omega)) HH.out.pos HH.out.lt W3 _ _ (Zcd (by omega) hD3) (HM1.out.moved hB13))
   clear hW3 hD3 hB3 hB13 hB2 cz fr hD HF1 HR1 HBW1 HM1 e1 e2 gNN hn hN hNN
   refine Zae (fun K7 HK7 => ?_)
   go_wp2_with fail
   refine C.out.mono ?_
   rintro r W4 ⟨⟨tv, rfl, hL⟩, hb⟩
   have HF4 := hideP ((hb.block _ (Zab HF3.out)).trans HF3.out)
   have HR4 := hideP ((hb.block _ (Zab HR3.out)).trans HR3.out)
   have HBW4 := hideP (HBW3.out.trans (hb.mono HBW3.out.size))
   have HL := hideP hL
   obtain ⟨g5, o5, c5, rfl, -, -, -, -⟩ := hL.ex
   have fr : ∀ o, W4.frozen? ⟨w.heap.size + 1, o, none⟩ = false := fun o => Zap HF4.out
   have cz := Zac (o := 2) HF4.out rfl
   clear hb HF3 HR3 HBW3 C
   go_wp2_with fail
   refine HK7.out _ _ ?_
   have hF5 := Zaw (o := 2) HF4.out (.slice (some ⟨g5, o5, none⟩) n c5)
   have hB5 := (But.refl (w.heap.size + 1) W4).set 2 (.slice (some ⟨g5, o5, none⟩) n c5)
   refine Zaj (fun W5 hW5 => ?_)
   rw [← hW5] at hF5 hB5
   have hR5 := (hB5.same _ (show w.heap.size ≠ w.heap.size + 1 by omega)).trans HR4.out
   have HL5 : Hid (LW W5 (.slice (some ⟨g5, o5, none⟩) n c5) n (limb (18446744073709551616 ^ n * 18446744073709551616 ^ n % M))) := HL.out.other HN2.out HF4.out hB5
   have HB5 := hideP (HBW4.out.trans (hB5.below.mono (by omega)))
   have q0 := Zac (o := 0) hF5 rfl
   have q1 := Zac (o := 1) hF5 rfl
   have q2 := Zac (o := 2) hF5 rfl
   have r0 := Zac (o := 0) hR5 rfl
   have r1 := Zac (o := 1) hR5 rfl
   have r2 := Zac (o := 2) hR5 rfl
   have fr5 : ∀ o, W5.frozen? ⟨w.heap.size, o, none⟩ = false := fun o => Zap hR5
   have hB6 := (((But.refl w.heap.size W5).set 0 (.slice (some ⟨g2, o2, none⟩) n c2)).set 1 (.int .u64 (f : Int))).set 2 (.slice (some ⟨g5, o5, none⟩) n c5)
   have hR6 := Zaw (o := 2) (Zaw (o := 1) (Zaw (o := 0) hR5 (.slice (some ⟨g2, o2, none⟩) n c2)) (.int .u64 (f : Int))) (.slice (some ⟨g5, o5, none⟩) n c5)
   have HL6 := hideP (HL5.out.other HN2.out hR5 hB6)
   have HB6 := hideP (HB5.out.trans hB6.below)
   have z0 := Zac (o := 0) hR6 rfl
   have z1 := Zac (o := 1) hR6 rfl
   have z2 := Zac (o := 2) hR6 rfl
   clear hW5 hB5 HF4 HR4 HBW4 HL fr cz hF5 hR5 hB6 hR6
   go_wp2
   refine bodyPost_ret (v := .agg #[.slice (some ⟨g2, o2, none⟩) n c2, .int .u64 (f : Int), .slice (some ⟨g5, o5, none⟩) n c5]) (by simp [results, Tryz.results86, go_sem, z0, z1, z2]) rfl ?_
   exact ⟨⟨f, _, rfl, HL6.out, HFO.out⟩, HB6.out⟩
def isI : Value → Bool
 | .int _ _ => true
 | _ => false
def isS : Value → Bool
 | .slice (some _) _ _ => true
 | _ => false
structure Safe (w w' : World) : Prop where
 size : w.heap.size ≤ w'.heap.size
 sl : ∀ g o u, w.cell? ⟨g, o, none⟩ = some u → isS u = true → w'.cell? ⟨g, o, none⟩ = some u
 two : ∀ g o u u', w.cell? ⟨g, o, none⟩ = some u → w.cell? ⟨g, o + 1, none⟩ = some u' → isI u = true → isI u' = true → w'.cell? ⟨g, o, none⟩ = some u ∧ w'.cell? ⟨g, o + 1, none⟩ = some u'
theorem LW.safe {w w' : World} {v : Value} {n : Nat} {f : Nat → Nat} (hn : 2 ≤ n) (h : LW w v n f) (hs : Safe w w') : LW w' v n f := by
 obtain ⟨g, o, c, e, h1, h2, hg, hc⟩ := h.ex
 refine ⟨g, o, c, e, h1, h2, Nat.lt_of_lt_of_le hg hs.size, fun j hj => ?_⟩
 by_cases hj1 : j + 1 < n
 ·
  exact (hs.two g (o + j) _ _ (hc j hj) (hc (j + 1) hj1) rfl rfl).1
 ·
  obtain ⟨i, rfl⟩ : ∃ i, j = i + 1 := ⟨j - 1, by omega⟩
  exact (hs.two g (o + i) _ _ (hc i (by omega)) (hc (i + 1) hj) rfl rfl).2
theorem LL.safe {w w' : World} {v : Value} {n : Nat} {xs : List Nat} (hn : 2 ≤ n) (h : LL w v n xs) (hs : Safe w w') : LL w' v n xs := by
 obtain ⟨g, o, c, e, h1, h2, hg, hc⟩ := h.ex
 refine ⟨g, o, c, e, h1, h2, Nat.lt_of_lt_of_le hg hs.size, fun j x hj => ?_⟩
 obtain ⟨u, hu, hL⟩ := hc j x hj
 refine ⟨u, hs.sl _ _ _ hu ?_, hL.safe hn hs⟩
 obtain ⟨g', o', c', rfl, _⟩ := hL.ex
 rfl
theorem FF.safe {w w' : World} {fv : Value} {n M : Nat} (hn : 2 ≤ n) (h : FF w fv n M) (hs : Safe w w') : FF w' fv n M := by
 obtain ⟨mv, fo, tv, e, h1, h2, h3⟩ := h.ex
 exact ⟨mv, fo, tv, e, h1.safe hn hs, h2.safe hn hs, h3⟩
def okB (C : Array Value) (k n : Nat) : Bool := (List.range n).all fun i => match C[k + i]? with
 | some (.slice none _ _) => true
 | some (.bool _) => true
 | some (.int _ _) => !((C.getD (k + i + 1) (.bool false) matches .int _ _)) && (k + i == 0 || !((C.getD (k + i - 1) (.bool false) matches .int _ _)))
 | _ => false
theorem ZeA : ∀ (vs : List Value) (C : Array Value) (k j : Nat), j < k ∨ k + vs.length ≤ j → (putAll C k vs)[j]? = C[j]?
 | [], _, _, _, _ => rfl
 | v :: vs, C, k, j, h => by
  rw [putAll, ZeA vs _ (k + 1) j (by simp only [List.length_cons] at h; omega), Array.getElem?_setIfInBounds_ne (by simp only [List.length_cons] at h; omega)]
theorem ZbB {w : World} {b t : Nat} {C : Array Value} (h : w.heap[b]? = some (.cells C t (0, 0))) (o : Nat) : w.cell? ⟨b, o, none⟩ = C[o]? := by
 cases hc : C[o]? with
 | some v => exact Zac h hc
 | none =>
  unfold World.cell?
  simp [h, hc]
theorem Zca {w w' : World} {b k t : Nat} {C : Array Value} {D : List Value} (hC : BX w b C t) (hok : okB C k D.length = true) (hb : But b w w') (hx : BX w' b (putAll C k D) t) : Safe w w' := by
 have hold : ∀ o, (∀ i, i < D.length → o ≠ k + i) → w'.cell? ⟨b, o, none⟩ = w.cell? ⟨b, o, none⟩ := fun o ho => by
  rw [ZbB hx.heap, ZbB hC.heap, ZeA]
  rcases Nat.lt_or_ge o k with h | h
  ·
   exact Or.inl h
  ·
   refine Or.inr (Nat.le_of_not_lt fun h2 => ho (o - k) (by omega) (by omega))
 have hsame : ∀ g o, g ≠ b → w'.cell? ⟨g, o, none⟩ = w.cell? ⟨g, o, none⟩ := fun g o hg => by
  unfold World.cell?
  simp only [hb.same g hg]
 have hk : ∀ i, i < D.length → ∃ u, C[k + i]? = some u ∧ isS u = false ∧ (isI u = true → (∀ u', C[k + i + 1]? = some u' → isI u' = false) ∧ (∀ u', 0 < k + i → C[k + i - 1]? = some u' → isI u' = false)) := fun i hi => by
  have h := List.all_eq_true.1 hok i (List.mem_range.2 hi)
  cases hc : C[k + i]? with
  | none => rw [hc] at h; cases h
  | some u =>
   rw [hc] at h
   refine ⟨u, rfl, ?_⟩
   match u, h with
   | .slice none _ _, _ => exact ⟨rfl, fun h => by cases h⟩
   | .bool _, _ => exact ⟨rfl, fun h => by cases h⟩
   | .int _ _, h =>
    simp only [Bool.and_eq_true, Bool.not_eq_true', Bool.or_eq_true, beq_iff_eq] at h
    refine ⟨rfl, fun _ => ⟨fun u' hu' => ?_, fun u' h0 hu' => ?_⟩⟩
    ·
     have h1 := h.1
     rw [Array.getD_eq_getD_getElem?, hu'] at h1
     cases u' <;> first | rfl | (simp at h1)
    ·
     have h2 := h.2
     rcases h2 with h2 | h2
     ·
      omega
     ·
      rw [Array.getD_eq_getD_getElem?, hu'] at h2
      cases u' <;> first | rfl | (simp at h2)
 refine ⟨hb.below.size, fun g o u hu hs => ?_, fun g o u u' hu hu' hi hi' => ?_⟩
 ·
  by_cases hg : g = b
  ·
   subst hg
   rw [hold o fun i hi e => ?_]
   ·
    exact hu
   ·
    obtain ⟨u2, h1, h2, _⟩ := hk i hi
    rw [ZbB hC.heap, e, h1] at hu
    cases hu
    rw [hs] at h2
    cases h2
  ·
   rw [hsame g o hg]
   exact hu
 ·
  by_cases hg : g = b
  ·
   subst hg
   rw [hold o fun i hiD e => ?_, hold (o + 1) fun i hiD e => ?_]
   ·
    exact ⟨hu, hu'⟩
   ·
    obtain ⟨u2, h1, h2, h3⟩ := hk i hiD
    rw [ZbB hC.heap] at hu hu'
    rw [e, h1] at hu'
    cases hu'
    have h4 := (h3 hi').2 u (by omega) (by rw [← e]; exact hu)
    rw [hi] at h4
    cases h4
   ·
    obtain ⟨u2, h1, h2, h3⟩ := hk i hiD
    rw [ZbB hC.heap] at hu hu'
    rw [e] at hu hu'
    rw [h1] at hu
    cases hu
    have h4 := (h3 hi).1 u' hu'
    rw [hi'] at h4
    cases h4
  ·
   rw [hsame g o hg, hsame g (o + 1) hg]
   exact ⟨hu, hu'⟩
def AllC : List Value → Prop
 | [] => True
 | v :: vs => v.oneCell' = true ∧ AllC vs
theorem Zj3 : ∀ {vs : List Value}, AllC vs → vs.toArray.all (·.oneCell') = true
 | [], _ => by simp
 | v :: vs, h => by
  have := Zj3 h.2
  simp only [List.all_toArray', List.all_cons, Bool.and_eq_true] at this ⊢
  exact ⟨h.1, this⟩
theorem LW.oneC {w : World} {v : Value} {n : Nat} {f : Nat → Nat} (h : LW w v n f) : v.oneCell' = true := by
 obtain ⟨g, o, c, rfl, _⟩ := h.ex
 rfl
theorem LL.oneC {w : World} {v : Value} {n : Nat} {xs : List Nat} (h : LL w v n xs) : v.oneCell' = true := by
 obtain ⟨g, o, c, rfl, _⟩ := h.ex
 rfl
theorem ZbQ {P : Program} {ops : List Oper} {Q : Exit → Act → World → Prop} {i : Nat} {o : Oper} {K : Act → World → Prop} {a : Act} {w : World} (ho : ops[i]? = some o) (hg : o.guard = none) (ty : TypeId) (x y : Operand) (hop : o.op = .store ty x y) (hd : o.dst = none)
  (b k : Nat) (C : Array Value) (D : List Value) (t : TypeId) {v : Value} (hx : a.eval x = .pointer (some ⟨b, k, none⟩)) (hy : a.eval y = v) (hv : v.cells = D.toArray) (hC : BX w b C t) (hk : k + D.length ≤ C.size) (hi : (P.info? ty).map (·.size) = some D.length) (h1 : AllC D)
  (h : ∀ w', But b w w' → BX w' b (putAll C k D) t → K a w') : wpOp P ops.toArray Q i K a w := by
 refine ZaE ho (fun K' hK' => ?_)
 have hw : Region.wanted o (yielded ops.toArray a.tmps) = true := by
  unfold Region.wanted
  rw [hg]
 rw [if_pos hw]
 have hput : K a (w.setCells b k D) := h _ (But.sets D k (But.refl b w)) ⟨Za9 D k hC.heap⟩
 have hst : (storeVar ty ⟨b, k, none⟩ v).run P w = .ok () (w.setCells b k D) := by
  have e : storeVar ty ⟨b, k, none⟩ v = storeVar ty ⟨b, k, none⟩ (.agg D.toArray) := by
   unfold storeVar
   rw [hv]
   rfl
  rw [e]
  have := run_storeVar_mid (P := P) w b k ty D.toArray (ZfY hC.heap (by simpa using hk)) (by simpa using hi) (Zj3 h1)
  simpa using this
 unfold Oper.wp execOp
 simp only [hop, hx, hy, Instr.storeAt, Instr.sureAddr, Sem.run_bind, Sem.run_pure, Result.andThen, hst]
 show K' _ _
 rw [hd]
 exact hK' _ _ hput
theorem FF.oneT {w : World} {m f t : Value} {n M : Nat} (h : FF w (.agg #[m, f, t]) n M) : t.oneCell' = true := by
 obtain ⟨mv, fo, tv, e, h1, h2, h3⟩ := h.ex
 injection e with e
 injection e with e
 injection e with e1 e2
 injection e2 with e2 e3
 injection e3 with e3 e4
 rw [e3]
 exact h2.oneC
structure FG (w : World) (v : Value) (n M : Nat) : Prop where
 ex : ∃ mv fo tv, v = .agg #[mv, .int .u64 ((fo : Nat) : Int), tv] ∧ FF w v n M ∧ LW w mv n (limb M) ∧ tv.oneCell' = true
theorem FG.moved {w w' : World} {v : Value} {n M : Nat} (h : FG w v n M) (hb : Below w.heap.size w w') : FG w' v n M := by
 obtain ⟨mv, fo, tv, e, h1, h2, h3⟩ := h.ex
 exact ⟨mv, fo, tv, e, h1.moved hb, h2.moved hb, h3⟩
theorem ZmL (n M : Nat) : Stab (fun v w => FG w v n M) := fun _ _ _ h hb => h.moved hb
structure PT (w : World) (v : Value) (n : Nat) (X Y : List Nat) (i : Bool) : Prop where
 ex : ∃ xv yv, v = .agg #[xv, yv, .bool i] ∧ LL w xv n X ∧ LL w yv n Y
theorem PT.moved {w w' : World} {v : Value} {n : Nat} {X Y : List Nat} {i : Bool} (h : PT w v n X Y i) (hb : Below w.heap.size w w') : PT w' v n X Y i := by
 obtain ⟨xv, yv, e, h1, h2⟩ := h.ex
 exact ⟨xv, yv, e, h1.moved hb, h2.moved hb⟩
theorem Zeh (n : Nat) (X Y : List Nat) (i : Bool) : Stab (fun v w => PT w v n X Y i) := fun _ _ _ h hb => h.moved hb
structure CC (w : World) (v : Value) (n M d : Nat) (B : List Nat) (R : Nat) (X Y : List Nat) : Prop where
 ex : ∃ mv fo tv bv rv xv yv, v = .agg #[mv, .int .u64 ((fo : Nat) : Int), tv, .int .i64 (d : Int), bv, rv, xv, yv, .bool false] ∧ FF w (.agg #[mv, .int .u64 ((fo : Nat) : Int), tv]) n M ∧ LW w mv n (limb M) ∧ LL w bv n B ∧ LW w rv 4 (limb R) ∧ LL w xv n X ∧ LL w yv n Y
theorem CC.moved {w w' : World} {v : Value} {n M d : Nat} {B : List Nat} {R : Nat} {X Y : List Nat} (h : CC w v n M d B R X Y) (hb : Below w.heap.size w w') : CC w' v n M d B R X Y := by
 obtain ⟨mv, fo, tv, bv, rv, xv, yv, e, h1, h2, h3, h4, h5, h6⟩ := h.ex
 exact ⟨mv, fo, tv, bv, rv, xv, yv, e, h1.moved hb, h2.moved hb, h3.moved hb, h4.moved hb, h5.moved hb, h6.moved hb⟩
theorem ZmM (n M d : Nat) (B : List Nat) (R : Nat) (X Y : List Nat) : Stab (fun v w => CC w v n M d B R X Y) := fun _ _ _ h hb => h.moved hb
theorem ZlX {a b : Value} (ha : a.cells = #[a]) (hb : b.cells = #[b]) (w : World) : (Instr.build 42 #[(0, a), (1, b)]).run Tryz.prog w = .ok (.agg #[a, b, .bool false]) w :=
 Zbv (fs := fsOf (Tryz.prog.underlying 42)) (z := #[.slice none 0 0, .slice none 0 0, .bool false]) (places := #[(0, 1), (1, 1), (2, 1)]) (by kernel_rfl) (by kernel_rfl) (by kernel_rfl) (by simp [Instr.fill, ha, hb])
theorem ZmN {a b : Value} (i : Bool) (ha : a.cells = #[a]) (hb : b.cells = #[b]) (w : World) : (Instr.build 42 #[(0, a), (1, b), (2, .bool i)]).run Tryz.prog w = .ok (.agg #[a, b, .bool i]) w :=
 Zbv (fs := fsOf (Tryz.prog.underlying 42)) (z := #[.slice none 0 0, .slice none 0 0, .bool false]) (places := #[(0, 1), (1, 1), (2, 1)]) (by kernel_rfl) (by kernel_rfl) (by kernel_rfl) (by
  have hc : (Value.bool i).cells = #[.bool i] := rfl
  simp [Instr.fill, ha, hb, hc])
theorem bd_cv {m f t b r x y : Value} (d : Nat) (hb : b.cells = #[b]) (hr : r.cells = #[r]) (w : World) : (Instr.build 44 #[(0, .agg #[m, f, t]), (1, .int .i64 (d : Int)), (2, b), (3, r), (4, .agg #[x, y, .bool false])]).run Tryz.prog w = .ok (.agg #[m, f, t, .int .i64 (d : Int), b, r, x, y, .bool false]) w :=
 Zbv (fs := fsOf (Tryz.prog.underlying 44)) (z := #[.slice none 0 0, .int .u64 0, .slice none 0 0, .int .i64 0, .slice none 0 0, .slice none 0 0, .slice none 0 0, .slice none 0 0, .bool false]) (places := #[(0, 3), (3, 1), (4, 1), (5, 1), (6, 3)]) (by kernel_rfl) (by kernel_rfl) (by kernel_rfl) (by
  have h1 : (Value.agg #[m, f, t]).cells = #[m, f, t] := rfl
  have h2 : (Value.agg #[x, y, .bool false]).cells = #[x, y, .bool false] := rfl
  have h3 : (Value.int .i64 (d : Int)).cells = #[.int .i64 (d : Int)] := rfl
  simp [Instr.fill, h1, h2, h3, hb, hr])
theorem rBnP_L (w : World) : Calls Tryz.prog 87 #[] w fun r w' => (∃ v, r = .returned v ∧ LW w' v 4 (limb nBnP)) ∧ Below w.heap.size w w' := by
 refine (Zlb w).mono ?_
 rintro r w' ⟨⟨g, rfl, hg⟩, hb⟩
 exact ⟨⟨_, rfl, Zcd (by decide) hg⟩, hb⟩
theorem rBnR_L (w : World) : Calls Tryz.prog 69 #[] w fun r w' => (∃ v, r = .returned v ∧ LW w' v 4 (limb nBnR)) ∧ Below w.heap.size w w' := by
 refine (Zlc w).mono ?_
 rintro r w' ⟨⟨g, rfl, hg⟩, hb⟩
 exact ⟨⟨_, rfl, Zcd (by decide) hg⟩, hb⟩
theorem rnew_L {n M : Nat} (hn2 : 2 ≤ n) (hM : FM n M) (w : World) (m : Value) (hm : LW w m n (limb M)) : Calls Tryz.prog 86 #[m] w fun r w' => (∃ v, r = .returned v ∧ FG w' v n M) ∧ Below w.heap.size w w' := by
 refine (Zle hn2 hM w m hm).mono ?_
 rintro r w' ⟨⟨fo, tv, rfl, hL, h0⟩, hb⟩
 exact ⟨⟨_, rfl, m, fo, tv, rfl, ⟨m, fo, tv, rfl, hm.moved hb, hL, h0⟩, hm.moved hb, hL.oneC⟩, hb⟩
theorem ZcP {P : Program} {fn : Func} {R : Ending → World → Prop} {l : List Value} {w : World} (j ty : Nat) (b : Nat) (C : Array Value) {d : TypeDesc} (hf : fn.results = #[.cell j ty]) (hl : l[j]? = some (.pointer (some ⟨b, 0, none⟩))) (hB : BX w b C ty) (hu : P.underlying ty = some d) (hd : d.isRow = true) (hi : (P.info? ty).map (·.size) = some C.size) (h : R (.returned (.agg C)) w) : bodyPost P fn R .ret { tmps := l.toArray, defers := [] } w :=
 bodyPost_ret_by (ZaD hf (by simp [Array.getD_eq_getD_getElem?, hl]) (loadC _ b 0 ty C d (Zag hB.heap) hu hd hi)) rfl h
theorem hFM4 : FM 4 nBnP := ⟨by decide, by decide, by decide +kernel, by decide +kernel, by decide +kernel⟩
end Go.Proofs.YtcbdbnfgnonacaaGreat
