/-
 Powers, inverses and roots in rings.
-/
import Derived.Test.YtcbdbnfgnonacaaGreatCurveBn1C11
set_option maxHeartbeats 8000000
set_option maxRecDepth 100000
namespace Go.Proofs.YtcbdbnfgnonacaaGreat.W4
open Go.RowKit Go.Shelf
attribute [local go_sem] Oper.semAt_some
def tv (e : Nat → Nat) (n : Nat) : Nat → Nat
 | 0 => 0
 | q + 1 => e (n - 1 - q) + 18446744073709551616 * tv e n q
theorem ZlH (e : Nat → Nat) (n : Nat) : ∀ q, q ≤ n → val e n = val e (n - q) + 18446744073709551616 ^ (n - q) * tv e n q
 | 0, _ => by simp [tv]
 | q + 1, h => by
  have ih := ZlH e n q (by omega)
  obtain ⟨d, hd⟩ : ∃ d, n - q = d + 1 := ⟨n - q - 1, by omega⟩
  rw [hd] at ih
  rw [ih, show n - (q + 1) = d by omega, tv, show n - 1 - q = d by omega, val, Nat.pow_succ]
  grind
theorem tv_all (e : Nat → Nat) (n : Nat) : tv e n n = val e n := by
 have := ZlH e n n (Nat.le_refl _)
 rw [Nat.sub_self, val, Nat.pow_zero, Nat.one_mul, Nat.zero_add] at this
 exact this.symm
structure US (w : World) (v : Value) (n : Nat) (e : Nat → Nat) : Prop where
 lt : ∀ j, e j < 18446744073709551616
 le : n ≤ 9223372036854775807
 form : ∃ ao c, v = .slice ao n c ∧ (n = 0 ∨ ∃ g, ao = some ⟨g, 0, none⟩ ∧ g < w.heap.size ∧ ∀ j, j < n → w.cell? ⟨g, j, none⟩ = some (.int .u64 (e j)))
theorem stored {w1 : World} {b t : Nat} {g g' : Nat → Nat} (h : w1.heap[b]? = some (.cells (cs g) t (0, 0))) :
  (((((w1).setCell ⟨b, 0, none⟩ (.int .u64 (g' 0))).setCell ⟨b, 1, none⟩ (.int .u64 (g' 1))).setCell ⟨b, 2, none⟩ (.int .u64 (g' 2))).setCell ⟨b, 3, none⟩ (.int .u64 (g' 3))).heap[b]? = some (.cells (cs g') t (0, 0)) :=
 Zaw (o := 3) (Zaw (o := 2) (Zaw (o := 1) (Zaw (o := 0) (h) _) _) _) _
theorem Ze7 {W w1 : World} {b : Nat} {g' : Nat → Nat} (h : But b W w1) : But b W (((((w1).setCell ⟨b, 0, none⟩ (.int .u64 (g' 0))).setCell ⟨b, 1, none⟩ (.int .u64 (g' 1))).setCell ⟨b, 2, none⟩ (.int .u64 (g' 2))).setCell ⟨b, 3, none⟩ (.int .u64 (g' 3))) :=
 ((((h).set _ _).set _ _).set _ _).set _ _
theorem KP.ofBut {W V V' : World} {R0 : Nat} (h : KP W R0 V) (hb : But R0 V V') (hg : ∃ g : Nat → Nat, V'.heap[R0]? = some (.cells (cs g) 32 (0, 0))) : KP W R0 V' :=
 ⟨fun b h1 h2 => (hb.same b h2).trans (h.same b h1 h2), h.below.trans hb.below, hg⟩
theorem Zbx {B l : Nat} {W V : World} {o : Obj} (h : Below B W V) (hl : B ≤ l) : Below B W (V.putObj l o) :=
 ⟨h.os, h.tape, h.output, by rw [show (V.putObj l o).heap.size = V.heap.size by simp [World.putObj]]; exact h.size, fun k hk => (World.putObj_heap_other (by omega)).trans (h.block k hk)⟩
theorem KP.putObj {W V : World} {R0 l : Nat} {o : Obj} (h : KP W R0 V) (hl : W.heap.size ≤ l) (hR : R0 < l) : KP W R0 (V.putObj l o) := by
 obtain ⟨g, hg⟩ := h.res
 exact ⟨fun b h1 h2 => (World.putObj_heap_other (by omega)).trans (h.same b h1 h2), Zbx h.below (by omega), g, (World.putObj_heap_other (by omega)).trans hg⟩
theorem ZkG (x k : Nat) (hk : k < 64) : x / 2 ^ (64 - (k + 1)) = 2 * (x / 2 ^ (64 - k)) + x / 2 ^ (63 - k) % 2 := by
 rw [show 64 - (k + 1) = 63 - k by omega, show 64 - k = (63 - k) + 1 by omega, Nat.pow_succ, ← Nat.div_div_eq_div_mul]
 omega
theorem ZkH (T x k : Nat) (hk : k < 64) : T * 2 ^ (k + 1) + x / 2 ^ (64 - (k + 1)) = 2 * (T * 2 ^ k + x / 2 ^ (64 - k)) + x / 2 ^ (63 - k) % 2 := by
 rw [ZkG x k hk, Nat.pow_succ, Nat.mul_add, ← Nat.mul_assoc T, Nat.mul_comm (T * 2 ^ k) 2, Nat.add_assoc]
theorem ZfT {K : Act → World → Prop} {a : Act} {w : World} (h : ∀ W, W = w → K a W) : K a w := h w rfl
theorem ZdA (a : Nat) (ha : a < 18446744073709551616) : bits .and .u64 (a : Int) 1 = ((a % 2 : Nat) : Int) := by
 have h := bits_and_u64_nat a 1 ha (by omega)
 rw [Nat.and_one_is_mod] at h
 exact h
theorem Zea {p m f : Nat} {w : World} (hr : RingAt w p m f (el m 1) (el m R)) (hMF : MF m f) (X : Nat) (v : Value) (n : Nat) (e : Nat → Nat) (hU : US w v n e) :
  Calls Tryz.prog 282 #[.pointer (some ⟨p, 0, none⟩), wv (el m X), v] w fun r w' => r = .returned (wv (el m (X ^ val e n))) ∧ Below w.heap.size w w' := by
 have hp : p < w.heap.size := hr.lt
 obtain ⟨helt, hnle, ao, c, rfl, hsl⟩ := hU
 have HSL := hideP hsl
 have HR := hideP hr
 have HMF := hideP hMF
 have HEL := hideP helt
 have HNL := hideP hnle
 have o0 := hr.one 0 (.int .u64 (limb (el m 1) 0)) rfl
 have o1 := hr.one 1 (.int .u64 (limb (el m 1) 1)) rfl
 have o2 := hr.one 2 (.int .u64 (limb (el m 1) 2)) rfl
 have o3 := hr.one 3 (.int .u64 (limb (el m 1) 3)) rfl
 clear hsl hr hMF helt hnle
 simp only [Nat.reduceAdd, Nat.add_zero] at o0 o1 o2 o3
 unfold wv
 rw [show cs (limb (el m X)) = #[.int .u64 (limb (el m X) 0), .int .u64 (limb (el m X) 1), .int .u64 (limb (el m X) 2), .int .u64 (limb (el m X) 3)] from rfl]
 refine (callsIn_wide (n := 6)).1 ?_
 refine callsIn_of_wp_marks Tryz.func282 rfl trivial ?_ rfl
 simp only [Tryz.ntmps282, List.size_toArray, List.length_cons, List.length_nil, Nat.reduceAdd, Nat.reduceSub, Array.replicate_succ, Array.replicate_zero, List.push_toArray, List.append_toArray, List.nil_append, List.cons_append]
 refine wpIn_wide.2 ?_
 refine Zae (fun K0 HK0 => ?_)
 go_wp2_with fail
 refine HK0.out _ _ ?_
 refine Zaj (fun V0 hV0 => ?_)
 have hbV : Below w.heap.size w V0 := by
  rw [hV0]
  repeat first | exact Below.refl _ _ | (refine Below.alloc ?_ (by simp <;> omega) _)
 have hbp : V0.heap[w.heap.size]? = some (.cells #[.pointer (some ⟨p, 0, none⟩)] 113 (0, 0)) := by
  rw [hV0]
  exact (Zah _ _ (by simp <;> omega)).trans ((Zah _ _ (by simp)).trans (Zaf _ _))
 have hA0 : V0.heap[w.heap.size + 1]? = some (.cells (cs (limb (el m X))) 32 (0, 0)) := by
  rw [hV0]
  exact (Zah _ _ (by simp)).trans (Zat _ _ _)
 have hD0 : V0.heap[w.heap.size + 1 + 1]? = some (.cells (cs (fun _ => 0)) 32 (0, 0)) := by
  rw [hV0]
  exact ZaG _ _ _ _
 have hsz : V0.heap.size = w.heap.size + 3 := by rw [hV0]; simp
 clear hV0
 replace o0 := (hbV.cell (p := ⟨p, 5, none⟩) hp).trans o0
 replace o1 := (hbV.cell (p := ⟨p, 6, none⟩) hp).trans o1
 replace o2 := (hbV.cell (p := ⟨p, 7, none⟩) hp).trans o2
 replace o3 := (hbV.cell (p := ⟨p, 8, none⟩) hp).trans o3
 have c3 := Zac hbp (o := 0) rfl
 have HF : Hid (Below w.heap.size w V0 ∧ V0.heap.size = w.heap.size + 3) := ⟨hbV, hsz⟩
 have HBP := hideP hbp
 have HA0 := hideP hA0
 have HD0 := hideP hD0
 clear hbV hbp hA0 hD0 hsz
 refine Zae (fun K1 HK1 => ?_)
 go_wp2_with fail
 refine HK1.out _ _ ?_
 refine Zae (fun K2 HK2 => ?_)
 refine Zae (fun K3 HK3 => ?_)
 go_wp2_with (go_at_call 252; refine ((callsIn_wide (n := 6)).1 (Zm8 6 _ _ _ _)).mono ?_; rintro e w' ⟨rfl, rfl⟩)
 refine HK3.out _ _ ?_
 clear HK0 HK1 HK3 o0 o1 o2 o3 c3
 refine Zaj (fun W0 hW0 => ?_)
 obtain ⟨hbV, hsz⟩ := HF.out
 have hb0 : Below V0.heap.size V0 W0 := by
  rw [hW0]
  repeat first | exact Below.refl _ _ | (refine Below.alloc ?_ (by simp <;> omega) _)
 have h7 : W0.heap[V0.heap.size]? = some (.cells (cs (limb (el m 1))) 32 (0, 0)) := by
  rw [hW0]
  exact (Zah _ _ (by simp)).trans (Zaf _ _)
 have hSB : W0.heap[V0.heap.size + 1]? = some (.cells #[.slice ao n c] 37 (0, 0)) := by
  rw [hW0]
  exact Zat _ _ _
 have hs0 : W0.heap.size = V0.heap.size + 2 := by rw [hW0]; simp
 clear hW0
 have hBP := (hb0.block _ (Zab HBP.out)).trans HBP.out
 have hA := (hb0.block _ (Zab HA0.out)).trans HA0.out
 have hD := (hb0.block _ (Zab HD0.out)).trans HD0.out
 have hbW : Below w.heap.size w W0 := hbV.trans (hb0.mono (by omega))
 have hR0 := HR.out.belowN hp hbW
 have hsl0 : n = 0 ∨ ∃ g, ao = some ⟨g, 0, none⟩ ∧ g < w.heap.size ∧ ∀ j, j < n → W0.cell? ⟨g, j, none⟩ = some (.int .u64 (e j)) := by
  rcases HSL.out with h | ⟨g, h1, h2, h3⟩
  ·
   exact Or.inl h
  ·
   exact Or.inr ⟨g, h1, h2, fun j hj => (hbW.cell (p := ⟨g, j, none⟩) h2).trans (h3 j hj)⟩
 clear HF HBP HA0 HD0 HSL HR hb0
 generalize hL : V0.heap.size = L at *
 have hLw : L = w.heap.size + 3 := hsz
 clear hsz hbV hL
 obtain ⟨Kp, hgive, hKpF, hKpp⟩ : ∃ Kp : World → World → Prop, Gives (6 - 1) Tryz.prog 255 #[.pointer (some ⟨L + 1, 0, none⟩)] (fun q => #[.int .i64 ((n - 1 - q : Nat) : Int), .int .u64 (e (n - 1 - q))]) n Kp W0 ∧
   (∀ V V', (∀ b, b < W0.heap.size → b ≠ L → V'.heap[b]? = V.heap[b]?) → Kp V V') ∧ (∀ V V' l' o o', Kp V V' → W0.heap.size ≤ l' → V'.heap[l']? = some o → o.isCells = false → Kp V (V'.putObj l' o')) := by
  rcases hsl0 with hn0 | ⟨g, rfl, hg, hgc⟩
  ·
   refine ⟨fun _ _ => True, ?_, fun _ _ _ => trivial, fun _ _ _ _ _ _ _ _ _ => trivial⟩
   subst hn0
   exact Zes _ _ _ _ _ _ _ (Zac hSB rfl)
  ·
   have hrow : RowU (L + 1) g n c e W0 := ⟨Zac hSB rfl, hgc⟩
   refine ⟨KpU (L + 1) g n c e, ZhJ _ (by omega) _ _ _ _ _ HNL.out _ hrow (by omega), fun V V' hs => KpU.of_same (hs _ (by omega) (by omega)) (hs _ (by omega) (by omega)), fun V V' l' o o' h hl _ _ => KpU.trans h (KpU.of_same (World.putObj_heap_other (by omega)) (World.putObj_heap_other (by omega)))⟩
 refine wp_block ?_
 refine (wpIn_wide (n := 6)).1 ?_
 refine ZfS (n := 6) (by omega) rfl (en Tryz.func255) (fun q => #[.int .i64 ((n - 1 - q : Nat) : Int), .int .u64 (e (n - 1 - q))]) n (fun _ => rfl) Kp hgive
  (fun q W => W.heap[L]? = some (.cells (cs (limb (el m (X ^ tv e n q)))) 32 (0, 0)) ∧ KP W0 L W) (fun _ _ => False)
  (fun q V V' h hb => ⟨(hb.block _ (Zab h.1)).trans h.1, h.2.call hb⟩) (fun _ _ _ h _ => h)
  (fun q V l' o o' h hl _ _ => ⟨(World.putObj_heap_other (by omega)).trans h.1, h.2.putObj hl (by omega)⟩) (fun _ _ _ _ _ h _ _ _ => h) hKpp ?h0 ?round ?done ?stop
 case h0 => exact ⟨by rw [tv, Nat.pow_zero]; exact h7, KP.start h7⟩
 case stop => exact fun _ _ _ _ h _ => h.elim
 case round =>
  rintro l' q W hq ⟨hw7, hkp⟩ hl' ⟨rr, hlr⟩
  have npL : p ≠ L := by omega
  have nNL : w.heap.size ≠ L := by omega
  have nAL : w.heap.size + 1 ≠ L := by omega
  have HLW := hideP hLw
  clear hLw
  have htv : tv e n (q + 1) = e (n - 1 - q) + 18446744073709551616 * tv e n q := rfl
  have hxl := HEL.out (n - 1 - q)
  generalize e (n - 1 - q) = x at *
  generalize tv e n q = T at hw7 htv
  have HTV := hideP htv
  have HALL := hideP (And.intro hw7 (And.intro hkp (And.intro hlr hKpF)))
  clear hw7 hkp hlr hKpF hgive hKpp htv
  gi_wp2
  obtain ⟨hw7, hkp, hlr, hKpF⟩ := HALL.out
  refine ⟨KeepsFrom.refl _ _, fun r => ?_⟩
  have hl2 : L < l' := by omega
  have h72 : (W.putObj l' (.loop r)).heap[L]? = some (.cells (cs (limb (el m (X ^ T)))) 32 (0, 0)) := (World.putObj_heap_other (by omega)).trans hw7
  have hkp2 : KP W0 L (W.putObj l' (.loop r)) := hkp.putObj hl' hl2
  have HWW : Hid (∀ b, b < W0.heap.size → (W.putObj l' (.loop r)).heap[b]? = W.heap[b]?) := fun b hb => World.putObj_heap_other (by omega)
  generalize W.putObj l' (.loop r) = W2 at *
  have hBP2 := hkp2.box hBP nNL
  have hA2 := hkp2.box hA nAL
  have hR2 := hkp2.ring hR0 npL
  have HX : Hid (x < 18446744073709551616) := hxl
  have H72 := hideP h72
  have HBP := hideP hBP2
  have HA := hideP hA2
  have HR2 := hideP hR2
  have HREST := hideP (And.intro hkp2 (And.intro hKpF (And.intro hbW (And.intro hD hs0))))
  clear hw7 hkp hlr hKpF h72 hkp2 hBP2 hA2 hR2 hxl HALL hBP hA hD hR0 hbW hSB h7 hs0 hsl0 HEL HNL HK2 hl2
  gi_wp2
  gi_loopw [19] (fun i wr => ∃ k : Nat, k ≤ 64 ∧ i = .int .i64 k ∧ wr.heap[L]? = some (.cells (cs (limb (el m (X ^ (T * 2 ^ k + x / 2 ^ (64 - k)))))) 32 (0, 0)) ∧ KP W2 L wr) (fun i _ => 64 - (intOf i).toNat)
  case atStart =>
   refine ⟨0, Nat.zero_le _, rfl, ?_, KP.start H72.out⟩
   rw [Nat.pow_zero, Nat.mul_one, Nat.sub_zero, Nat.div_eq_of_lt (Nat.lt_of_lt_of_le HX.out (by decide)), Nat.add_zero]
   exact H72.out
  case round =>
   obtain ⟨k, hk, rfl, h7w, hkw⟩ := hrel
   by_cases hlt : k < 64
   ·
    have hrw := hkw.ring HR2.out npL
    have hC1 := Zda hrw HMF.out (X ^ (T * 2 ^ k + x / 2 ^ (64 - k))) (X ^ (T * 2 ^ k + x / 2 ^ (64 - k)))
    rw [← Nat.pow_add, ← Nat.two_mul] at hC1
    have hE := ZkH T x k hlt
    have hC2 : ∀ w, RingAt w p m f (el m 1) (el m R) → Calls Tryz.prog 153 #[.pointer (some ⟨p, 0, none⟩), wv (el m (X ^ (2 * (T * 2 ^ k + x / 2 ^ (64 - k))))), wv (el m X)] w fun e w' => e = .returned (wv (el m (X ^ (2 * (T * 2 ^ k + x / 2 ^ (64 - k)) + 1)))) ∧ Below w.heap.size w w' := fun w hr => by
     have := Zda hr HMF.out (X ^ (2 * (T * 2 ^ k + x / 2 ^ (64 - k)))) X
     rw [← Nat.pow_succ] at this
     exact this
    have hdl : x / 2 ^ (63 - k) < 18446744073709551616 := Nat.lt_of_le_of_lt (Nat.div_le_self _ _) HX.out
    have hand := ZdA _ hdl
    have hdv : ((x : Int) / 2 ^ (63 - k)) = ((x / 2 ^ (63 - k) : Nat) : Int) := by simp
    rw [← hdv] at hand
    have hbit : x / 2 ^ (63 - k) % 2 = 0 ∨ x / 2 ^ (63 - k) % 2 = 1 := by omega
    have e4 : IntKind.i64.wrap ((k : Int) + 1) = (k : Int) + 1 := by rw [IntKind.wrap_i64]; omega
    have e5 : IntKind.i64.wrap (63 - (k : Int)) = ((63 - k : Nat) : Int) := by rw [IntKind.wrap_i64]; omega
    have hs64 : ((63 - k : Nat) : Int) < 64 := by omega
    have hlt' : (k : Int) < 64 := by omega
    have HKS : Hid (k + 1 ≤ 64) := hlt
    have HE := hideP hE
    generalize hEE : T * 2 ^ k + x / 2 ^ (64 - k) = E at *
    generalize x / 2 ^ (63 - k) % 2 = bb at *
    generalize 63 - k = sh at *
    obtain ⟨q0, q1, q2, q3⟩ := cells h7w
    have c3 := Zac (hkw.box HBP.out nNL) (o := 0) rfl
    unfold wv at hC1 hC2
    rw [show cs (limb (el m (X ^ E))) = #[.int .u64 (limb (el m (X ^ E)) 0), .int .u64 (limb (el m (X ^ E)) 1), .int .u64 (limb (el m (X ^ E)) 2), .int .u64 (limb (el m (X ^ E)) 3)] from rfl] at hC1
    have HC1 := hideP hC1
    have HC2 := hideP hC2
    have H7W := hideP h7w
    have HKW := hideP hkw
    have HRW := hideP hrw
    clear hE hC1 hC2 h7w hkw hrw hdl hdv hlt hk hEE
    gi_wp2
    rename_i Q' KA hKA KB hKB KC hKC
    have HKB := hideP hKB
    clear hKB
    refine ⟨trivial, (CallsIn.inRound l' (callsIn_wide.2 HC1.out)).mono ?_⟩
    rintro r1 w1 ⟨rfl, hb1⟩
    have h71 := (hb1.block _ (Zab H7W.out)).trans H7W.out
    obtain ⟨y0, y1, y2, y3⟩ := cells h71
    have fr : ∀ o, w1.frozen? ⟨L, o, none⟩ = false := fun o => Zap h71
    have H71 := hideP h71
    have HB1 := hideP hb1
    clear h71 hb1 q0 q1 q2 q3
    unfold cs
    gi_wp2
    refine ZfT (fun w2 hw2 => ?_)
    have h72 : w2.heap[L]? = some (.cells (cs (limb (el m (X ^ (2 * E))))) 32 (0, 0)) := by
     rw [hw2]
     exact stored H71.out
    have hkp2 : KP W2 L w2 := by
     refine (HKW.out.call HB1.out).ofBut ?_ ⟨_, h72⟩
     rw [hw2]
     exact Ze7 (But.refl _ _)
    have H72 := hideP h72
    have HKP2 := hideP hkp2
    clear h72 hkp2 hw2 fr y0 y1 y2 y3 c3
    refine HKB.out _ _ ?_
    clear HKB
    rcases hbit with rfl | rfl
    ·
     gi_wp2
     refine ⟨⟨k + 1, HKS.out, by go_num, ?_, HKP2.out⟩, by have := HKS.out; simp [intOf]; omega⟩
     rw [HE.out, Nat.add_zero]
     exact H72.out
    ·
     have hrw2 := HKP2.out.ring HR2.out npL
     have hC3 := HC2.out _ hrw2
     rw [show cs (limb (el m (X ^ (2 * E)))) = #[.int .u64 (limb (el m (X ^ (2 * E))) 0), .int .u64 (limb (el m (X ^ (2 * E))) 1), .int .u64 (limb (el m (X ^ (2 * E))) 2), .int .u64 (limb (el m (X ^ (2 * E))) 3)] from rfl, show cs (limb (el m X)) = #[.int .u64 (limb (el m X) 0), .int .u64 (limb (el m X) 1), .int .u64 (limb (el m X) 2), .int .u64 (limb (el m X) 3)] from rfl] at hC3
     have HC3 := hideP hC3
     obtain ⟨q0, q1, q2, q3⟩ := cells H72.out
     obtain ⟨z0, z1, z2, z3⟩ := cells (HKP2.out.box HA.out nAL)
     have c3 := Zac (HKP2.out.box HBP.out nNL) (o := 0) rfl
     clear hC3 hrw2
     gi_wp2
     refine ⟨trivial, (CallsIn.inRound l' (callsIn_wide.2 HC3.out)).mono ?_⟩
     rintro r1 w3 ⟨rfl, hb3⟩
     have h73 := (hb3.block _ (Zab H72.out)).trans H72.out
     obtain ⟨y0, y1, y2, y3⟩ := cells h73
     have fr : ∀ o, w3.frozen? ⟨L, o, none⟩ = false := fun o => Zap h73
     have H73 := hideP h73
     have HB3 := hideP hb3
     clear h73 hb3 q0 q1 q2 q3 z0 z1 z2 z3 c3
     unfold cs
     gi_wp2
     refine ⟨⟨k + 1, HKS.out, by go_num, ?_, ?_⟩, by have := HKS.out; simp [intOf]; omega⟩
     ·
      rw [HE.out]
      exact stored H73.out
     ·
      exact (HKP2.out.call HB3.out).ofBut (Ze7 (But.refl _ _)) ⟨_, stored H73.out⟩
   ·
    have hkn : k = 64 := by omega
    have hnl : ¬ (k : Int) < 64 := by omega
    rw [hkn, show 64 - 64 = 0 from rfl, Nat.pow_zero, Nat.div_one, show T * 2 ^ 64 + x = tv e n (q + 1) by rw [HTV.out]; omega] at h7w
    have H7W := hideP h7w
    have HKW := hideP hkw
    clear h7w hkw hlt hk hkn
    gi_wp2
    obtain ⟨hkp2, hKpF, hbW, hD, hs0⟩ := HREST.out
    refine ⟨⟨HKW.out.size, fun b o hbb ho _ => (HKW.out.same b (Zab ho) (by omega)).trans ho⟩, hKpF _ _ (fun b h1 h2 => ?_), H7W.out, ?_⟩
    ·
     exact (HKW.out.same b (Nat.lt_of_lt_of_le h1 hkp2.size) h2).trans (HWW.out b h1)
    ·
     exact ⟨fun b h1 h2 => (HKW.out.same b (Nat.lt_of_lt_of_le h1 hkp2.size) h2).trans (hkp2.same b h1 h2), hkp2.below.trans HKW.out.below, HKW.out.res⟩
 case done =>
  rintro Db W hDb ⟨hw7, hkp⟩ hdef
  rw [tv_all] at hw7
  show K2 _ _
  refine HK2.out _ _ ?_
  refine wp_seq ?_
  refine wp_region_list ?_
  refine wpList_load_mid rfl 32 (.tmp 7) rfl L 0 rfl (cs (limb (el m (X ^ val e n)))).toList _ (Zag hw7) under rfl (info _) ?_
  have hD3 := hkp.box hD (by omega)
  refine wpList_store_mid rfl 32 (.tmp 6) (.tmp 37) rfl (w.heap.size + 1 + 1) 0 (cs (limb (el m (X ^ val e n)))) rfl rfl (Zar hD3 _) (info _) (one _) ?_
  refine wpList_nil ?_
  refine wp_ret ?_
  have hg6 := Za9 (cs (limb (el m (X ^ val e n)))).toList 0 hD3
  rw [ZaZ] at hg6
  have hB6 := But.sets (cs (limb (el m (X ^ val e n)))).toList 0 (But.refl (w.heap.size + 1 + 1) W)
  have hdef6 := (hB6.same Db (by omega)).trans hdef
  generalize World.setCells W (w.heap.size + 1 + 1) 0 (cs (limb (el m (X ^ val e n)))).toList = W6 at *
  refine ⟨by simp, .inl ⟨_, _, rfl, run_takeDeferred hdef6, ?_⟩⟩
  have hg9 : (W6.putObj Db (.deferred none)).heap[w.heap.size + 1 + 1]? = some (.cells (cs (limb (el m (X ^ val e n)))) 32 (0, 0)) := (World.putObj_heap_other (by omega)).trans hg6
  refine ⟨.agg (cs (limb (el m (X ^ val e n)))), ZaD (p := ⟨w.heap.size + 1 + 1, 0, none⟩) rfl rfl (run_loadVar_mid _ _ 0 32 (cs (limb (el m (X ^ val e n)))).toList _ (Zag hg9) under rfl (info _)), rfl, ?_⟩
  exact Zbx (hbW.trans ((hkp.below.mono (by omega)).trans (hB6.below.mono (by omega)))) (by omega)
theorem infoU : (Tryz.prog.info? 27).map (fun i => (i.zero, i.size, i.bytes)) = some (some (.int .u64 0), 1, 8) := by kernel_rfl
theorem ZkI (W : World) : (Instr.makeSlice 37 (.int .i64 (4 : Int)) (.int .i64 (4 : Int))).run Tryz.prog W = .ok (.slice (some ⟨W.heap.size, 0, none⟩) 4 4) (W.alloc (.cells (cs (fun _ => 0)) 27)) := by
 have hT : Tryz.prog.underlying 37 = some (.slice 27) := by kernel_rfl
 obtain ⟨i0, hi, hz, hs, hb⟩ := info_parts infoU
 have := run_makeSlice (P := Tryz.prog) (w := W) 37 27 i0 (.int .u64 0) hT hi hz .i64 .i64 4 4 (by decide) (by decide) (by rw [hs]; decide) (by rw [hb]; decide) (by decide)
 have e : madeCells (Value.int IntKind.u64 0).cells (Int.toNat 4 * 1) = cs (fun _ => 0) := by kernel_rfl
 rw [this, hs, e]
 rfl
theorem Zeb (E : Nat) (w : World) : Calls Tryz.prog 283 #[wv E] w fun r w' => (∃ v, r = .returned v ∧ US w' v 4 (limb E)) ∧ Below w.heap.size w w' := by
 unfold wv cs
 have hmk := ZkI (w.alloc (.cells #[.int .u64 (limb E 0), .int .u64 (limb E 1), .int .u64 (limb E 2), .int .u64 (limb E 3)] 32 (0, 0)))
 unfold cs at hmk
 go_enter Tryz.func283, Tryz.ntmps283
 go_wp2_with fail
 refine Zaj (fun W0 hW0 => ?_)
 have hA : W0.heap[w.heap.size]? = some (.cells (cs (limb E)) 32 (0, 0)) := by
  rw [hW0]
  exact (Zah _ _ (by simp)).trans (Zaf _ _)
 have hG : W0.heap[w.heap.size + 1]? = some (.cells (cs (fun _ => 0)) 27 (0, 0)) := by
  rw [hW0]
  exact Zat _ _ _
 have HBW : Hid (Below w.heap.size w W0) := by
  show Below _ _ _
  rw [hW0]
  repeat first | exact Below.refl _ _ | (refine Below.alloc ?_ (by simp <;> omega) _)
 have HA := hideP hA
 have HG := hideP hG
 clear hW0 hA hG hmk
 go_loopw [10] (fun i wr => ∃ k : Nat, k ≤ 4 ∧ i = .int .i64 k ∧ wr.heap[w.heap.size + 1]? = some (.cells (cs (fun j => if j < k then limb E j else 0)) 27 (0, 0)) ∧ But (w.heap.size + 1) W0 wr) (fun i _ => 4 - (intOf i).toNat)
 case atStart => exact ⟨0, Nat.zero_le _, rfl, HG.out, But.refl _ _⟩
 case round =>
  obtain ⟨k, hk, rfl, hg, hb⟩ := hrel
  by_cases hlt : k < 4
  ·
   have ca := (hb.cell (o := k) (show w.heap.size ≠ w.heap.size + 1 by omega)).trans (Zac HA.out (get (limb E) hlt))
   have cg := Zac hg (get _ hlt)
   have fr : ∀ o, wr.frozen? ⟨w.heap.size + 1, o, none⟩ = false := fun o => Zap hg
   have hlt' : (k : Int) < 4 := by omega
   have e4 : IntKind.i64.wrap ((k : Int) + 1) = (k : Int) + 1 := by rw [IntKind.wrap_i64]; omega
   have h3 := Zaw (o := k) hg (.int .u64 (limb E k))
   rw [set _ _ hlt, Zbe (g := fun j => if j < k + 1 then limb E j else 0) (fun j hj => by
    by_cases h1 : j = k
    ·
     rw [if_pos h1, if_pos (by omega), h1]
    ·
     rw [if_neg h1]
     by_cases h2 : j < k
     ·
      rw [if_pos h2, if_pos (by omega)]
     ·
      rw [if_neg h2, if_neg (by omega)])] at h3
   have H3 := hideP h3
   have HB := hideP hb
   have HKS : Hid (k + 1 ≤ 4) := hlt
   clear hg hb hk hlt h3
   go_wp2_with fail
   exact ⟨⟨k + 1, HKS.out, by go_num, H3.out, HB.out.set _ _⟩, by have := HKS.out; simp [intOf]; omega⟩
  ·
   have hkn : k = 4 := by omega
   have hnl : ¬ (k : Int) < 4 := by omega
   rw [hkn, Zbe (g := limb E) (fun j hj => by rw [if_pos hj])] at hg
   have H3 := hideP hg
   have HB := hideP hb
   clear hg hb hk hlt hkn
   go_wp2
   go_ret
   refine ⟨⟨_, rfl, Zaz E, by decide, _, _, rfl, Or.inr ⟨_, rfl, Zab H3.out, fun j hj => Zac H3.out (get _ hj)⟩⟩, HBW.out.trans (HB.out.below.mono (by omega))⟩
theorem Zm9 {p m : Nat} {w : World} (hgood : Good w p m) (X : Nat) : Calls Tryz.prog 275 #[.pointer (some ⟨p, 0, none⟩), wv (el m X)] w fun r w' => r = .returned (wv (el m (X ^ (m - 2)))) ∧ Below w.heap.size w w' := by
 have hp := hgood.lt
 obtain ⟨f, hMF, hr⟩ := hgood.ex
 have HIS := hideP (fun w (hr : RingAt w p m f (el m 1) (el m R)) => ZaS hr hMF)
 have HMF := hideP hMF
 have HR := hideP hr
 clear hr hMF hgood
 unfold wv
 unfold cs
 go_enter Tryz.func275, Tryz.ntmps275
 refine Zae (fun K0 HK0 => ?_)
 go_wp2_with fail
 refine HK0.out _ _ ?_
 clear HK0 K0
 refine Zaj (fun W0 hW0 => ?_)
 have hA : W0.heap[w.heap.size]? = some (.cells (cs (limb (el m X))) 32 (0, 0)) := by
  rw [hW0]
  exact ((Zah _ _ (by simp <;> omega)).trans (Zaf _ _))
 have hD : W0.heap[w.heap.size + 1]? = some (.cells (cs (fun _ => 0)) 32 (0, 0)) := by
  rw [hW0]
  exact Zat _ _ _ 
 have HBW : Hid (Below w.heap.size w W0) := by
  show Below _ _ _
  rw [hW0]
  repeat first | exact Below.refl _ _ | (refine Below.alloc ?_ (by simp <;> omega) _)
 clear hW0
 have HR0 := hideP (HR.out.belowN hp HBW.out)
 have HA := hideP hA
 have HD := hideP hD
 clear HR hA hD
 have nP : p ≠ w.heap.size + 1 := by omega
 have nA : w.heap.size ≠ w.heap.size + 1 := by omega
 have nR : w.heap.size ≤ w.heap.size + 1 := by omega
 generalize hRR : w.heap.size + 1 = R0 at *
 refine Zae (fun K1 HK1 => ?_)
 refine Zae (fun K2 HK2 => ?_)
 go_wp2_with (go_at_call 281; refine (HIS.out _ HR0.out).mono ?_; rintro e w' ⟨rfl, rfl⟩)
 refine HK2.out _ _ ?_
 clear HK2 K2
 refine wp_cond_true rfl ?_
 refine Zae (fun K3 HK3 => ?_)
 have HS2 : Hid (∀ w, Calls Tryz.prog 148 #[.int .u64 (2 : Int)] w fun e w' => e = .returned (wv 2) ∧ Below w.heap.size w w') := fun w => ZbP 2 (by decide) w
 have hge := HMF.out.ge
 have hmR := HMF.out.lt
 have HM2 : Hid (m - 2 < R) := (by omega : m - 2 < R)
 have HMI : Hid (∀ w, Calls Tryz.prog 217 #[wv m, wv 2] w fun e w' => e = .returned (.tuple #[wv (m - 2), .int .u64 ((0 : Nat) : Int)]) ∧ Below w.heap.size w w') := fun w => by
  have := Zb7 m 2 hmR (by decide) w
  rw [show less1 m 2 = 0 by unfold less1; rw [if_neg (by omega)], Nat.mul_zero, Nat.add_zero] at this
  exact this
 unfold wv at HS2 HMI
 clear hge hmR
 refine Zai (S := fun V => Below W0.heap.size W0 V) (by kernel_rfl) ((Below.refl _ _).drew) (fun hS => ?_)
 refine tkG 0 hS ?_
 simp only [Zaa, Zs, Zz]
 refine tkG 1 hS ?_
 simp only [Zaa, Zs, Zz]
 refine tkG 2 hS ?_
 simp only [Zaa, Zs, Zz]
 refine Zak (i := 3) (v := .agg (cs (limb m))) rfl (by kernel_rfl) (by kernel_rfl) (by kernel_rfl) (fun _ _ _ h => h) (yieldsIf_load_mid (by kernel_rfl) 32 _ rfl (p) (0) rfl (cs (limb m)).toList _ (fun V hV => (HR0.out.below hV).mod) under rfl (info _)) hS ?_
 simp only [Zaa, Zs, Zz]
 refine wpAnyH_ready (rs := [4, 9]) (by kernel_rfl) (by simp) (AllReadyH.cons rfl (fun K hK => ?_) (AllReadyH.cons rfl (fun K hK => ?_) AllReadyH.nil))
 ·
  go_simp
  refine (HS2.out _).mono ?_
  rintro e x1 ⟨rfl, hbc⟩
  refine hK.out _ _ (hS.trans (hbc.mono hS.size)) (fun hS2 => ?_)
  clear hK K hbc hS
  have hS := hS2
  clear hS2
  refine wpAnyH_ready (rs := [5, 9]) (by kernel_rfl) (by simp) (AllReadyH.cons rfl (fun K hK => ?_) (AllReadyH.cons rfl (fun K hK => ?_) AllReadyH.nil))
  ·
   go_simp
   refine (HMI.out _).mono ?_
   rintro e x2 ⟨rfl, hbc⟩
   refine hK.out _ _ (hS.trans (hbc.mono hS.size)) (fun hS2 => ?_)
   clear hK K hbc hS
   have hS := hS2
   clear hS2
   refine tkG 6 hS ?_
   simp only [Zaa, Zs, Zz]
   refine tkG 7 hS ?_
   simp only [Zaa, Zs, Zz]
   refine tkG 8 hS ?_
   simp only [Zaa, Zs, Zz]
   refine rd1 9 (fun K hK => ?_)
   go_simp
   refine hK.out _ _ (hS.alloc hS.size _) (fun hS2 => ?_)
   clear hK K
   refine Zb5 (fun x3 hw2 => ?_)
   have h1 : x3.heap[x2.heap.size]? = some (.cells (cs (fun _ => 0)) 32 (0, 0)) := by rw [hw2]; exact Zaf _ _
   have l1 : W0.heap.size ≤ x2.heap.size := hS.size
   rw [← hw2] at hS2
   have hbx : Below x2.heap.size x2 x3 := by rw [hw2]; first | exact (Below.refl _ _).alloc (Nat.le_refl _) _ | exact ((Below.refl _ _).alloc (Nat.le_refl _) _).drew
   clear hw2 hS hbx
   have hS := hS2
   clear hS2
   refine rd1 10 (fun K hK => ?_)
   refine Za7 (by kernel_rfl) ?_
   refine Zan 32 (.tmp 5) (.tmp 16) rfl rfl (x2.heap.size) 0 (cs (limb (m - 2))) rfl rfl (Zar h1 _) (info _) (one _) ?_
   have g1 := Za9 (cs (limb (m - 2))).toList 0 h1
   rw [ZaZ] at g1
   have hB1 := But.sets (cs (limb (m - 2))).toList 0 (But.refl (x2.heap.size) x3)
   have hSB := hS.trans (hB1.below.mono l1)
   clear h1 hB1
   generalize x3.setCells (x2.heap.size) 0 (cs (limb (m - 2))).toList = w5 at g1 hSB ⊢
   refine hK.out _ _ hSB (fun hS => ?_)
   clear hK K hSB
   refine rd1 11 (fun K hK => ?_)
   go_simp
   refine hK.out _ _ hS (fun hS => ?_)
   clear hK K
   refine wpAnyH_done (by kernel_rfl) ?_ _
   (try simp only [Zas])
   refine HK3.out _ _ ?_
   have HRx := hideP (HR0.out.below hS)
   have HAx := hideP ((hS.block _ (Zab HA.out)).trans HA.out)
   have HDx := hideP ((hS.block _ (Zab HD.out)).trans HD.out)
   have HGx := hideP g1
   have HBx := hideP hS
   have nG : (x2.heap.size) ≠ R0 := by have := Zab HD.out; omega
   clear g1 hS l1
   refine Zai (S := fun V => KP w5 R0 V) (by kernel_rfl) (KP.init HDx.out) (fun hS => ?_)
   refine tkG 0 hS ?_
   simp only [Zaa, Zs, Zz]
   refine Zak (i := 1) (v := .agg (cs (limb (el m X)))) rfl (by kernel_rfl) (by kernel_rfl) (by kernel_rfl) (fun _ _ _ h => h) (yieldsIf_load_mid (by kernel_rfl) 32 _ rfl (w.heap.size) (0) rfl (cs (limb (el m X))).toList _ (fun V hV => Zag (hV.box HAx.out nA)) under rfl (info _)) hS ?_
   simp only [Zaa, Zs, Zz]
   refine Zak (i := 2) (v := .agg (cs (limb (m - 2)))) rfl (by kernel_rfl) (by kernel_rfl) (by kernel_rfl) (fun _ _ _ h => h) (yieldsIf_load_mid (by kernel_rfl) 32 _ rfl ((x2.heap.size)) (0) rfl (cs (limb (m - 2))).toList _ (fun V hV => Zag (hV.box HGx.out nG)) under rfl (info _)) hS ?_
   simp only [Zaa, Zs, Zz]
   refine rd1 3 (fun K hK => ?_)
   go_simp
   refine (Zeb (m - 2) _).mono ?_
   rintro e w6 ⟨⟨v, rfl, hU⟩, hbc⟩
   refine hK.out _ _ (hS.call hbc) (fun hS => ?_)
   clear hK K
   clear hbc
   have HC := hideP (Zea (hS.ring HRx.out nP) HMF.out X v _ _ hU)
   rw [Zal HM2.out] at HC
   unfold wv at HC
   refine rd1 4 (fun K hK => ?_)
   go_simp
   refine HC.out.mono ?_
   rintro e w7 ⟨rfl, hbc⟩
   refine hK.out _ _ (hS.call hbc) (fun hS => ?_)
   clear hK K
   clear hbc
   refine rd1 5 (fun K hK => ?_)
   refine Za7 (by kernel_rfl) ?_
   refine Zan 32 (.tmp 4) (.tmp 22) rfl rfl (R0) 0 (cs (limb (el m (X ^ (m - 2))))) rfl rfl (hS.there _) (info _) (one _) ?_
   have g1 := hS.put ((limb (el m (X ^ (m - 2)))))
   have hS9 := hS.store ((limb (el m (X ^ (m - 2)))))
   clear hS
   generalize World.setCells _ (R0) 0 (cs (limb (el m (X ^ (m - 2))))).toList = w8 at g1 hS9 ⊢
   refine hK.out _ _ hS9 (fun hS => ?_)
   clear hK K hS9
   refine wpAnyH_done (by kernel_rfl) ?_ _
   (try simp only [Zas])
   refine HK1.out _ _ ?_
   refine Za4 (fun _ _ h => h) rfl rfl rfl (by decide) (by show 23 < 24; decide) rfl under rfl (info _) (one _) (Zag g1) (Zar g1 _) ?_
   intro wS hBut
   exact ⟨rfl, HBW.out.trans ((HBx.out.mono HBW.out.size).trans ((hS.below.mono nR).trans (hBut.below.mono nR)))⟩
  ·
   go_simp
   refine hK.out _ _ (hS.alloc hS.size _) (fun hS2 => ?_)
   clear hK K
   refine Zb5 (fun x4 hw2 => ?_)
   have h1 : x4.heap[x1.heap.size]? = some (.cells (cs (fun _ => 0)) 32 (0, 0)) := by rw [hw2]; exact Zaf _ _
   have l1 : W0.heap.size ≤ x1.heap.size := hS.size
   rw [← hw2] at hS2
   have hbx : Below x1.heap.size x1 x4 := by rw [hw2]; first | exact (Below.refl _ _).alloc (Nat.le_refl _) _ | exact ((Below.refl _ _).alloc (Nat.le_refl _) _).drew
   clear hw2 hS hbx
   have hS := hS2
   clear hS2
   refine rd1 5 (fun K hK => ?_)
   go_simp
   refine (HMI.out _).mono ?_
   rintro e x5 ⟨rfl, hbc⟩
   have h2 := (hbc.block _ (Zab h1)).trans h1
   refine hK.out _ _ (hS.trans (hbc.mono hS.size)) (fun hS2 => ?_)
   clear hK K hbc hS
   have hS := hS2
   clear hS2
   clear h1
   have h1 := h2
   clear h2
   refine tkG 6 hS ?_
   simp only [Zaa, Zs, Zz]
   refine tkG 7 hS ?_
   simp only [Zaa, Zs, Zz]
   refine tkG 8 hS ?_
   simp only [Zaa, Zs, Zz]
   refine rd1 10 (fun K hK => ?_)
   refine Za7 (by kernel_rfl) ?_
   refine Zan 32 (.tmp 5) (.tmp 16) rfl rfl (x1.heap.size) 0 (cs (limb (m - 2))) rfl rfl (Zar h1 _) (info _) (one _) ?_
   have g1 := Za9 (cs (limb (m - 2))).toList 0 h1
   rw [ZaZ] at g1
   have hB1 := But.sets (cs (limb (m - 2))).toList 0 (But.refl (x1.heap.size) x5)
   have hSB := hS.trans (hB1.below.mono l1)
   clear h1 hB1
   generalize x5.setCells (x1.heap.size) 0 (cs (limb (m - 2))).toList = w5 at g1 hSB ⊢
   refine hK.out _ _ hSB (fun hS => ?_)
   clear hK K hSB
   refine rd1 11 (fun K hK => ?_)
   go_simp
   refine hK.out _ _ hS (fun hS => ?_)
   clear hK K
   refine wpAnyH_done (by kernel_rfl) ?_ _
   (try simp only [Zas])
   refine HK3.out _ _ ?_
   have HRx := hideP (HR0.out.below hS)
   have HAx := hideP ((hS.block _ (Zab HA.out)).trans HA.out)
   have HDx := hideP ((hS.block _ (Zab HD.out)).trans HD.out)
   have HGx := hideP g1
   have HBx := hideP hS
   have nG : (x1.heap.size) ≠ R0 := by have := Zab HD.out; omega
   clear g1 hS l1
   refine Zai (S := fun V => KP w5 R0 V) (by kernel_rfl) (KP.init HDx.out) (fun hS => ?_)
   refine tkG 0 hS ?_
   simp only [Zaa, Zs, Zz]
   refine Zak (i := 1) (v := .agg (cs (limb (el m X)))) rfl (by kernel_rfl) (by kernel_rfl) (by kernel_rfl) (fun _ _ _ h => h) (yieldsIf_load_mid (by kernel_rfl) 32 _ rfl (w.heap.size) (0) rfl (cs (limb (el m X))).toList _ (fun V hV => Zag (hV.box HAx.out nA)) under rfl (info _)) hS ?_
   simp only [Zaa, Zs, Zz]
   refine Zak (i := 2) (v := .agg (cs (limb (m - 2)))) rfl (by kernel_rfl) (by kernel_rfl) (by kernel_rfl) (fun _ _ _ h => h) (yieldsIf_load_mid (by kernel_rfl) 32 _ rfl ((x1.heap.size)) (0) rfl (cs (limb (m - 2))).toList _ (fun V hV => Zag (hV.box HGx.out nG)) under rfl (info _)) hS ?_
   simp only [Zaa, Zs, Zz]
   refine rd1 3 (fun K hK => ?_)
   go_simp
   refine (Zeb (m - 2) _).mono ?_
   rintro e w6 ⟨⟨v, rfl, hU⟩, hbc⟩
   refine hK.out _ _ (hS.call hbc) (fun hS => ?_)
   clear hK K
   clear hbc
   have HC := hideP (Zea (hS.ring HRx.out nP) HMF.out X v _ _ hU)
   rw [Zal HM2.out] at HC
   unfold wv at HC
   refine rd1 4 (fun K hK => ?_)
   go_simp
   refine HC.out.mono ?_
   rintro e w7 ⟨rfl, hbc⟩
   refine hK.out _ _ (hS.call hbc) (fun hS => ?_)
   clear hK K
   clear hbc
   refine rd1 5 (fun K hK => ?_)
   refine Za7 (by kernel_rfl) ?_
   refine Zan 32 (.tmp 4) (.tmp 22) rfl rfl (R0) 0 (cs (limb (el m (X ^ (m - 2))))) rfl rfl (hS.there _) (info _) (one _) ?_
   have g1 := hS.put ((limb (el m (X ^ (m - 2)))))
   have hS9 := hS.store ((limb (el m (X ^ (m - 2)))))
   clear hS
   generalize World.setCells _ (R0) 0 (cs (limb (el m (X ^ (m - 2))))).toList = w8 at g1 hS9 ⊢
   refine hK.out _ _ hS9 (fun hS => ?_)
   clear hK K hS9
   refine wpAnyH_done (by kernel_rfl) ?_ _
   (try simp only [Zas])
   refine HK1.out _ _ ?_
   refine Za4 (fun _ _ h => h) rfl rfl rfl (by decide) (by show 23 < 24; decide) rfl under rfl (info _) (one _) (Zag g1) (Zar g1 _) ?_
   intro wS hBut
   exact ⟨rfl, HBW.out.trans ((HBx.out.mono HBW.out.size).trans ((hS.below.mono nR).trans (hBut.below.mono nR)))⟩
 ·
  go_simp
  refine hK.out _ _ (hS.alloc hS.size _) (fun hS2 => ?_)
  clear hK K
  refine Zb5 (fun x6 hw2 => ?_)
  have h1 : x6.heap[W0.heap.size]? = some (.cells (cs (fun _ => 0)) 32 (0, 0)) := by rw [hw2]; exact Zaf _ _
  have l1 : W0.heap.size ≤ W0.heap.size := hS.size
  rw [← hw2] at hS2
  have hbx : Below W0.heap.size W0 x6 := by rw [hw2]; first | exact (Below.refl _ _).alloc (Nat.le_refl _) _ | exact ((Below.refl _ _).alloc (Nat.le_refl _) _).drew
  clear hw2 hS hbx
  have hS := hS2
  clear hS2
  refine rd1 4 (fun K hK => ?_)
  go_simp
  refine (HS2.out _).mono ?_
  rintro e x7 ⟨rfl, hbc⟩
  have h2 := (hbc.block _ (Zab h1)).trans h1
  refine hK.out _ _ (hS.trans (hbc.mono hS.size)) (fun hS2 => ?_)
  clear hK K hbc hS
  have hS := hS2
  clear hS2
  clear h1
  have h1 := h2
  clear h2
  refine rd1 5 (fun K hK => ?_)
  go_simp
  refine (HMI.out _).mono ?_
  rintro e x8 ⟨rfl, hbc⟩
  have h2 := (hbc.block _ (Zab h1)).trans h1
  refine hK.out _ _ (hS.trans (hbc.mono hS.size)) (fun hS2 => ?_)
  clear hK K hbc hS
  have hS := hS2
  clear hS2
  clear h1
  have h1 := h2
  clear h2
  refine tkG 6 hS ?_
  simp only [Zaa, Zs, Zz]
  refine tkG 7 hS ?_
  simp only [Zaa, Zs, Zz]
  refine tkG 8 hS ?_
  simp only [Zaa, Zs, Zz]
  refine rd1 10 (fun K hK => ?_)
  refine Za7 (by kernel_rfl) ?_
  refine Zan 32 (.tmp 5) (.tmp 16) rfl rfl (W0.heap.size) 0 (cs (limb (m - 2))) rfl rfl (Zar h1 _) (info _) (one _) ?_
  have g1 := Za9 (cs (limb (m - 2))).toList 0 h1
  rw [ZaZ] at g1
  have hB1 := But.sets (cs (limb (m - 2))).toList 0 (But.refl (W0.heap.size) x8)
  have hSB := hS.trans (hB1.below.mono l1)
  clear h1 hB1
  generalize x8.setCells (W0.heap.size) 0 (cs (limb (m - 2))).toList = w5 at g1 hSB ⊢
  refine hK.out _ _ hSB (fun hS => ?_)
  clear hK K hSB
  refine rd1 11 (fun K hK => ?_)
  go_simp
  refine hK.out _ _ hS (fun hS => ?_)
  clear hK K
  refine wpAnyH_done (by kernel_rfl) ?_ _
  (try simp only [Zas])
  refine HK3.out _ _ ?_
  have HRx := hideP (HR0.out.below hS)
  have HAx := hideP ((hS.block _ (Zab HA.out)).trans HA.out)
  have HDx := hideP ((hS.block _ (Zab HD.out)).trans HD.out)
  have HGx := hideP g1
  have HBx := hideP hS
  have nG : (W0.heap.size) ≠ R0 := by have := Zab HD.out; omega
  clear g1 hS l1
  refine Zai (S := fun V => KP w5 R0 V) (by kernel_rfl) (KP.init HDx.out) (fun hS => ?_)
  refine tkG 0 hS ?_
  simp only [Zaa, Zs, Zz]
  refine Zak (i := 1) (v := .agg (cs (limb (el m X)))) rfl (by kernel_rfl) (by kernel_rfl) (by kernel_rfl) (fun _ _ _ h => h) (yieldsIf_load_mid (by kernel_rfl) 32 _ rfl (w.heap.size) (0) rfl (cs (limb (el m X))).toList _ (fun V hV => Zag (hV.box HAx.out nA)) under rfl (info _)) hS ?_
  simp only [Zaa, Zs, Zz]
  refine Zak (i := 2) (v := .agg (cs (limb (m - 2)))) rfl (by kernel_rfl) (by kernel_rfl) (by kernel_rfl) (fun _ _ _ h => h) (yieldsIf_load_mid (by kernel_rfl) 32 _ rfl ((W0.heap.size)) (0) rfl (cs (limb (m - 2))).toList _ (fun V hV => Zag (hV.box HGx.out nG)) under rfl (info _)) hS ?_
  simp only [Zaa, Zs, Zz]
  refine rd1 3 (fun K hK => ?_)
  go_simp
  refine (Zeb (m - 2) _).mono ?_
  rintro e w6 ⟨⟨v, rfl, hU⟩, hbc⟩
  refine hK.out _ _ (hS.call hbc) (fun hS => ?_)
  clear hK K
  clear hbc
  have HC := hideP (Zea (hS.ring HRx.out nP) HMF.out X v _ _ hU)
  rw [Zal HM2.out] at HC
  unfold wv at HC
  refine rd1 4 (fun K hK => ?_)
  go_simp
  refine HC.out.mono ?_
  rintro e w7 ⟨rfl, hbc⟩
  refine hK.out _ _ (hS.call hbc) (fun hS => ?_)
  clear hK K
  clear hbc
  refine rd1 5 (fun K hK => ?_)
  refine Za7 (by kernel_rfl) ?_
  refine Zan 32 (.tmp 4) (.tmp 22) rfl rfl (R0) 0 (cs (limb (el m (X ^ (m - 2))))) rfl rfl (hS.there _) (info _) (one _) ?_
  have g1 := hS.put ((limb (el m (X ^ (m - 2)))))
  have hS9 := hS.store ((limb (el m (X ^ (m - 2)))))
  clear hS
  generalize World.setCells _ (R0) 0 (cs (limb (el m (X ^ (m - 2))))).toList = w8 at g1 hS9 ⊢
  refine hK.out _ _ hS9 (fun hS => ?_)
  clear hK K hS9
  refine wpAnyH_done (by kernel_rfl) ?_ _
  (try simp only [Zas])
  refine HK1.out _ _ ?_
  refine Za4 (fun _ _ h => h) rfl rfl rfl (by decide) (by show 23 < 24; decide) rfl under rfl (info _) (one _) (Zag g1) (Zar g1 _) ?_
  intro wS hBut
  exact ⟨rfl, HBW.out.trans ((HBx.out.mono HBW.out.size).trans ((hS.below.mono nR).trans (hBut.below.mono nR)))⟩
end Go.Proofs.YtcbdbnfgnonacaaGreat.W4
