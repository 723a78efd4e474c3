/- YtcceaokldphfgaaDiskDoesC44 -/
import Derived.Test.YtcceaokldphfgaaDiskDoesC37
import Derived.Test.YtcceaokldphfgaaDiskDoesC43
import Derived.Test.YtcceaokldphfgaaDiskDoesC40
namespace Go.Proofs.Ytcceaokldphfgaa
open Go.RowKit Go.Shelf

/-- What Read of the document's disk answers. -/
def ReadTo (w : World) (x : List UInt8 × Int) (r : Ending) (w' : World) : Prop := ∃ q m c, r = .returned (.tuple #[.slice q m c, .int .i64 x.2]) ∧ Hid (Out w x.1 (.slice q m c) w')

theorem out_nil (w : World) : Out w [] (.slice none 0 0) w := ⟨World.ownsRow_nil _ _ _ _, Below.refl _ _⟩

theorem out_nil' {w w' : World} (h : Below w.heap.size w w') : Out w [] (.slice none 0 0) w' := ⟨World.ownsRow_nil _ _ _ _, h⟩

/-- A part of a row. -/
theorem part_rd {w : World} {B g cap A N ld : Nat} {l : List UInt8} (h : w.ownsRow B 5 1 (.slice (some ⟨g, 0, none⟩) ld cap) l.length (l.map byteV)) (hl : ld = l.length) (hA : A + N ≤ ld) : RdN w (.slice (if cap = A then some ⟨g, 0, none⟩ else some ⟨g, A, none⟩) N (cap - A)) ((l.drop A).take N) := by
  subst hl
  obtain ⟨⟨a, c, e, hc, hr⟩, _⟩ := own_rdN h
  cases e
  have hlen : ((l.drop A).take N).length = N := by simp; omega
  refine ⟨⟨_, _, by rw [hlen], by rw [hlen]; omega, fun j x hx => ?_⟩, fun n c e => ?_⟩
  · rw [List.getElem?_take] at hx
    split at hx
    · rw [List.getElem?_drop] at hx
      obtain ⟨ad, e, hcell⟩ := hr (A + j) x hx
      cases e
      have hlt := (List.getElem?_eq_some_iff.1 hx).1
      rw [if_neg (by omega)]
      refine ⟨_, rfl, ?_⟩
      rw [Addr.add_lit] at hcell ⊢
      rw [Nat.zero_add] at hcell
      exact hcell
    · cases hx
  · split at e <;> cases e

set_option maxHeartbeats 2000000 in
set_option maxRecDepth 100000 in
theorem rread_any {w : World} {role : DRole} {M nn : Nat} {a : ASt} {rs : List DRep} {fv kv lv uv : Value} (h : DocOK w role M a rs fv kv lv uv) (hc : Coh a) (hf : FewA nn a) (hn : nn ≤ 998) (t : ByteArray) (at_ n : Int) (iA : I64 at_) (iN : I64 n) :
    Calls Try.prog 18 #[.pointer (some ⟨M, 0, none⟩), .string t, .int .i64 at_, .int .i64 n] w fun r w' => ReadTo w (readA a t at_ n) r w' := by
  have hfew : FewD rs := h.few hf (by omega)
  have hfd := rfind_any h hfew.1 t
  have m7 : w.cell? ⟨M, 7, none⟩ = some (.bool a.dead) := blk_cell (o := 7) h.str rfl
  obtain ⟨X, hX⟩ : ∃ X, X = readA a t at_ n := ⟨_, rfl⟩
  rw [← hX]
  have HG := hideP (And.intro h (And.intro hc (And.intro hfew hX)))
  clear h hc hf hfew hX
  go_enter Try.func18, Try.ntmps18
  go_wp2_with fail
  refine hfd.mono ?_
  rintro e9 w9 ⟨⟨x, rfl, HFR⟩, rfl⟩
  clear hfd
  obtain ⟨h, hc, hfew, hX⟩ := HG.out
  cases hd : a.dead with
  | true =>
    have hXv : X = ([], 10) := by rw [hX]; unfold readA; rw [if_pos hd]
    subst hXv
    rw [hd] at m7
    clear h hc hfew hX hd HG HFR
    go_wp2
    go_ret2
    exact ⟨none, 0, 0, rfl, out_nil _⟩
  | false =>
  rw [hd] at m7
  have hfs := h.fs
  rcases HFR.out with ⟨hx, hno⟩ | ⟨i, r, hx, hr, hnm, hfst⟩
  · subst hx
    have hXv : X = ([], 13) := by rw [hX]; unfold readA; rw [if_neg (by rw [hd]; decide), hfs, find_no hno]
    subst hXv
    clear h hc hfew hX hd HG HFR hno hfs
    go_wp2
    go_ret2
    exact ⟨none, 0, 0, rfl, out_nil _⟩
  · subst hx
    have hi0 : ¬ (i : Int) < 0 := by omega
    have hmem := List.mem_of_getElem? hr
    have hil : i < rs.length := (List.getElem?_eq_some_iff.1 hr).1
    have hi1 : (i : Int) < 1000 := by have := hfew.1; omega
    have hXv : X = if at_ < 0 ∨ n < 0 ∨ (r.a.data.length : Int) < at_ + n then ([], 1) else ((r.a.data.drop at_.toNat).take n.toNat, 0) := by rw [hX]; unfold readA; rw [if_neg (by rw [hd]; decide), hfs, find_yes hr hnm hfst]
    obtain ⟨g, cap, hfv, hcap, hgz, hg2, c0, c1, c2, _⟩ := h.file hr
    have m5 : w.cell? ⟨M, 5, none⟩ = some fv := blk_cell (o := 5) h.str rfl
    have hF := h.files r hmem
    have hW := h.whole hc hmem
    have hld := hF.lenD hW
    have hdat := hF.dataD hW (hfew.2 r hmem)
    obtain ⟨x1, x2, x3, ex⟩ : ∃ q n c, r.sv = .slice q n c := by
      obtain ⟨q, c, e, _⟩ := own_slice hF.safe.1
      exact ⟨_, _, _, e⟩
    obtain ⟨y1, y2, ey, _⟩ := hF.crow
    rw [ex] at c1 hdat
    rw [ey] at c2 hdat
    rw [hfv] at m5
    have HDT := hideP hdat
    have HXV := hideP hXv
    obtain ⟨iA1, iA2⟩ := iA
    obtain ⟨iN1, iN2⟩ := iN
    generalize hdd : r.a.data = dat at *
    generalize hnr : rs.length = nr at *
    generalize r.a.chs.length = nc at *
    generalize r.a.name = nm at *
    clear h hc hfew hX hd HG HFR hfs hr hnm hfst hF hW hdat hXv hmem hdd
    go_wp2_with fail
    refine HDT.out.mono ?_
    rintro e9 W2 ⟨q2, n2, k2, rfl, HO⟩
    clear HDT c0 c1 c2 m5
    have hn2 := HO.out.2
    have HOB := hideP HO.out.1
    rw [← hn2] at hld HXV
    have HN2 := hideP hn2
    clear HO hn2
    have hXv := HXV.out
    by_cases b1 : at_ < 0
    · rw [if_pos (.inl b1)] at hXv
      subst hXv
      go_wp2
      go_ret2
      exact ⟨none, 0, 0, rfl, out_nil' HOB.out.2⟩
    by_cases b2 : n < 0
    · rw [if_pos (.inr (.inl b2))] at hXv
      subst hXv
      go_wp2
      go_ret2
      exact ⟨none, 0, 0, rfl, out_nil' HOB.out.2⟩
    by_cases b3 : (n2 : Int) < at_
    · rw [if_pos (.inr (.inr (by omega)))] at hXv
      subst hXv
      go_wp2
      go_ret2
      exact ⟨none, 0, 0, rfl, out_nil' HOB.out.2⟩
    have t1 : IntKind.i64.wrap ((n2 : Int) - at_) = (n2 : Int) - at_ := by rw [IntKind.wrap_i64]; omega
    by_cases b4 : (n2 : Int) - at_ < n
    · rw [if_pos (.inr (.inr (by omega)))] at hXv
      subst hXv
      go_wp2
      go_ret2
      exact ⟨none, 0, 0, rfl, out_nil' HOB.out.2⟩
    rw [if_neg (by omega)] at hXv
    obtain ⟨A, rfl⟩ : ∃ A : Nat, at_ = A := ⟨at_.toNat, by omega⟩
    obtain ⟨N, rfl⟩ : ∃ N : Nat, n = N := ⟨n.toNat, by omega⟩
    obtain ⟨E, hE⟩ : ∃ E, E = A + N := ⟨_, rfl⟩
    have t2 : IntKind.i64.wrap ((A : Int) + (N : Int)) = (E : Int) := by rw [IntKind.wrap_i64]; omega
    rw [show ((A : Int)).toNat = A by omega, show ((N : Int)).toNat = N by omega] at hXv
    rcases HOB.out.1.2 with ⟨e0, h0⟩ | ⟨g2, cap2, cur, e0, _⟩
    · have hn0 : n2 = 0 := by rw [HN2.out]; exact h0
      simp only [Value.slice.injEq] at e0
      obtain ⟨rfl, _, rfl⟩ := e0
      subst hn0
      have hA0 : A = 0 := by omega
      have hN0 : N = 0 := by omega
      have hE0 : E = 0 := by omega
      subst hA0 hN0 hE0
      have hdat0 : dat = [] := List.eq_nil_of_length_eq_zero h0
      have htw := rtwin_any (w := W2) (v := .slice none 0 0) (l := []) (own_rdN (B := 0) (World.ownsRow_nil _ _ _ _)) (by simp)
      have HTW : Hid (Calls Try.prog 49 #[.slice none 0 0] W2 fun e w' => ∃ q c, e = .returned (.slice q 0 c) ∧ Hid (Out w X.1 (.slice q 0 c) w')) := by
        refine htw.mono ?_
        rintro e w' ⟨q, c, rfl, HX⟩
        refine ⟨q, c, rfl, ?_⟩
        rw [hXv, hdat0]
        exact ⟨row_to HX.out.1 HOB.out.2.size (fun _ _ _ => rfl), HOB.out.2.trans (HX.out.2.mono HOB.out.2.size)⟩
      have HX2 : Hid (X.2 = 0) := (by rw [hXv] : X.2 = 0)
      clear htw hXv HXV HOB HN2 hdat0 h0
      go_wp2_with fail
      refine HTW.out.mono ?_
      rintro e9 w9 ⟨q9, c9, rfl, HO9⟩
      clear HTW
      go_wp2
      go_ret2
      refine ⟨q9, 0, c9, ?_, HO9⟩
      rw [HX2.out]
      rfl
    · simp only [Value.slice.injEq] at e0
      obtain ⟨rfl, _, rfl⟩ := e0
      have hrd := part_rd (A := A) (N := N) HOB.out.1 HN2.out (by omega)
      have hcap2 : n2 ≤ k2 := by
        obtain ⟨_, _, e9, h9⟩ := own_slice HOB.out.1
        rw [HN2.out]
        cases e9
        exact h9
      have htw := rtwin_any hrd (by simp; omega)
      have HTW : Hid (Calls Try.prog 49 #[.slice (if k2 = A then some ⟨g2, 0, none⟩ else some ⟨g2, A, none⟩) N (k2 - A)] W2 fun e w' => ∃ q c, e = .returned (.slice q N c) ∧ Hid (Out w X.1 (.slice q N c) w')) := by
        have hlen : ((dat.drop A).take N).length = N := by have := HN2.out; simp; omega
        rw [hlen] at htw
        refine htw.mono ?_
        rintro e w' ⟨q, c, rfl, HX⟩
        refine ⟨q, c, rfl, ?_⟩
        have hz := HOB.out.2.size
        rw [hXv]
        refine ⟨?_, HOB.out.2.trans (HX.out.2.mono hz)⟩
        show w'.ownsRow w.heap.size 5 1 (.slice q N c) ((dat.drop A).take N).length (((dat.drop A).take N).map byteV)
        exact row_to HX.out.1 hz (fun _ _ _ => rfl)
      have HX2 : Hid (X.2 = 0) := (by rw [hXv] : X.2 = 0)
      have z1 : A ≤ E := by omega
      have z2 : E ≤ k2 := by omega
      have z3 : (A : Int) ≤ (E : Int) := by omega
      have z4 : (E : Int) ≤ (k2 : Int) := by omega
      have z5 : E - A = N := by omega
      clear htw hrd hXv HXV HOB HN2
      by_cases hk : k2 = A
      · have HT : Hid (Calls Try.prog 49 #[.slice (some ⟨g2, 0, none⟩) N 0] W2 fun e w' => ∃ q c, e = .returned (.slice q N c) ∧ Hid (Out w X.1 (.slice q N c) w')) := by
          have := HTW.out
          rwa [if_pos hk, show k2 - A = 0 by omega] at this
        clear HTW
        go_wp2_with fail
        refine HT.out.mono ?_
        rintro e9 w9 ⟨q9, c9, rfl, HO9⟩
        clear HT
        go_wp2
        go_ret2
        refine ⟨q9, N, c9, ?_, HO9⟩
        rw [HX2.out]
        rfl
      · have HT : Hid (Calls Try.prog 49 #[.slice (some ⟨g2, A, none⟩) N (k2 - A)] W2 fun e w' => ∃ q c, e = .returned (.slice q N c) ∧ Hid (Out w X.1 (.slice q N c) w')) := by
          have := HTW.out
          rwa [if_neg hk] at this
        clear HTW
        go_wp2_with fail
        refine HT.out.mono ?_
        rintro e9 w9 ⟨q9, c9, rfl, HO9⟩
        clear HT
        go_wp2
        go_ret2
        refine ⟨q9, N, c9, ?_, HO9⟩
        rw [HX2.out]
        rfl

end Go.Proofs.Ytcceaokldphfgaa

namespace Go.Proofs.Ytcceaokldphfgaa
open Go.RowKit Go.Shelf

theorem DocTo.any {w W : World} {role : DRole} {M : Nat} {a : ASt} {kv lv uv : Value} {w' : World} (hal : Below w.heap.size w W) (h : DocTo W role M a kv lv uv w') : DocAny w role M a w' := by
  obtain ⟨role', rs', fv', g1, g2⟩ := h
  exact ⟨kv, lv, uv, role', rs', fv', g1, (DStp.still hal).trans g2⟩

set_option maxHeartbeats 2000000 in
set_option maxRecDepth 100000 in
/-- An operation of the document's disk. -/
theorem model_any {w : World} {role : DRole} {M n : Nat} {a : ASt} {rs : List DRep} {fv kv lv uv : Value} (h : DocOK w role M a rs fv kv lv uv) (hc : Coh a) (hf : FewA n a) (hn : n ≤ 998) (hs : SortedA a.fs) {p p1 p2 p3 : Option Addr} {c c1 c2 c3 : Nat} {o : AOp} (hop : OpAt w p p1 p2 p3 c c1 c2 c3 o) (hr0 : (∀ ad, p = some ad → o.data ≠ [] → role ad.block = 0) ∧ (∀ ad, p1 = some ad → o.keep ≠ [] → role ad.block = 0) ∧ (∀ ad, p2 = some ad → o.fail ≠ [] → role ad.block = 0) ∧ ∀ ad, p3 = some ad → o.full ≠ [] → role ad.block = 0) :
    Calls Try.prog 15 #[.pointer (some ⟨M, 0, none⟩), opV p p1 p2 p3 c c1 c2 c3 o] w fun e w' => e = .returned (.int .i64 (doA a o).2) ∧ Hid (DocAny w role M (doA a o).1 w') := by
  unfold opV
  obtain ⟨W0, hW0⟩ : ∃ W0, W0 = w.alloc (.cells #[.int .i64 o.kind, .string o.name, .string o.to, .int .i64 o.at_, .int .i64 o.long, .slice p o.data.length c, .int .i64 o.crash, .slice p1 o.keep.length c1, .slice p2 o.fail.length c2, .slice p3 o.full.length c3, .int .i64 o.room] 35) := ⟨_, rfl⟩
  have hal : Below w.heap.size w W0 := by rw [hW0]; exact (Below.refl _ w).alloc (Nat.le_refl _) _
  have h0 := h.still hal
  have hop0 := hop.later hal
  have hcap := hop.cap
  have hd0 : o.data ≠ [] → ∀ ad n9 c9, Value.slice p o.data.length c = .slice (some ad) n9 c9 → role ad.block = 0 := fun hne ad n9 c9 e => by
    simp only [Value.slice.injEq] at e
    exact hr0.1 ad e.1 hne
  have hll := hop.len
  have hrd : RdN W0 (.slice p o.data.length c) o.data := by
    refine ⟨⟨p, c, rfl, hcap, fun j x hx => ?_⟩, fun n9 c9 e => ?_⟩
    · cases hp : p with
      | none => rw [(hop.nil hp).1] at hx; simp at hx
      | some b => exact ⟨b, rfl, hop0.cell b hp j x hx⟩
    · simp only [Value.slice.injEq] at e
      rw [← e.2.2]
      exact (hop.nil e.1).2
  obtain ⟨X, hX⟩ : ∃ X, X = doA a o := ⟨_, rfl⟩
  rw [← hX]
  have HW0 := hideP hW0
  by_cases hk0 : o.kind = 0
  · have hXv : X = _ := hX.trans (if_pos hk0)
    have HC : Hid (Calls Try.prog 37 #[.pointer (some ⟨M, 0, none⟩), .string o.name] W0 fun e w' => e = .returned (.int .i64 X.2) ∧ Hid (DocAny w role M X.1 w')) := by
      rw [hXv]
      refine (rcreate_any h0 hc hf hn hs o.name).mono ?_
      rintro e w' ⟨rfl, HT⟩
      exact ⟨rfl, HT.out.any hal⟩
    clear h hc hf hs hop hr0 hal h0 hop0 hd0 hrd hX hXv hW0

    have qk : (o.kind == 0) = true := by simpa using hk0
    rw [hk0] at HW0
    go_enter Try.func15, Try.ntmps15
    go_wp2_with fail
    rw [← HW0.out]
    refine HC.out.mono ?_
    rintro e9 w9 ⟨rfl, HT⟩
    clear HC
    go_wp2
    go_ret
    exact ⟨rfl, HT⟩
  by_cases hk1 : o.kind = 1
  · have hXv : X = _ := hX.trans ((if_neg hk0).trans (if_pos hk1))
    have HC : Hid (Calls Try.prog 38 #[.pointer (some ⟨M, 0, none⟩), .string o.name, .slice p o.data.length c] W0 fun e w' => e = .returned (.int .i64 X.2) ∧ Hid (DocAny w role M X.1 w')) := by
      rw [hXv]
      refine (rappend_any h0 hc hf hn hs o.name hrd hd0 hll).mono ?_
      rintro e w' ⟨rfl, HT⟩
      exact ⟨rfl, HT.out.any hal⟩
    clear h hc hf hs hop hr0 hal h0 hop0 hd0 hrd hX hXv hW0
    have q0 : (o.kind == 0) = false := by simpa using hk0
    have qk : (o.kind == 1) = true := by simpa using hk1
    rw [hk1] at HW0
    go_enter Try.func15, Try.ntmps15
    go_wp2_with fail
    rw [← HW0.out]
    refine HC.out.mono ?_
    rintro e9 w9 ⟨rfl, HT⟩
    clear HC
    go_wp2
    go_ret
    exact ⟨rfl, HT⟩
  by_cases hk2 : o.kind = 2
  · have hXv : X = _ := hX.trans ((if_neg hk0).trans ((if_neg hk1).trans (if_pos hk2)))
    have HC : Hid (Calls Try.prog 39 #[.pointer (some ⟨M, 0, none⟩), .string o.name, .int .i64 o.at_, .slice p o.data.length c] W0 fun e w' => e = .returned (.int .i64 X.2) ∧ Hid (DocAny w role M X.1 w')) := by
      rw [hXv]
      refine (rwrite_any h0 hc hf hn hs o.name o.at_ hrd hd0 hll).mono ?_
      rintro e w' ⟨rfl, HT⟩
      exact ⟨rfl, HT.out.any hal⟩
    clear h hc hf hs hop hr0 hal h0 hop0 hd0 hrd hX hXv hW0
    have q0 : (o.kind == 0) = false := by simpa using hk0
    have q1 : (o.kind == 1) = false := by simpa using hk1
    have qk : (o.kind == 2) = true := by simpa using hk2
    rw [hk2] at HW0
    go_enter Try.func15, Try.ntmps15
    go_wp2_with fail
    rw [← HW0.out]
    refine HC.out.mono ?_
    rintro e9 w9 ⟨rfl, HT⟩
    clear HC
    go_wp2
    go_ret
    exact ⟨rfl, HT⟩
  by_cases hk3 : o.kind = 3
  · have hXv : X = _ := hX.trans ((if_neg hk0).trans ((if_neg hk1).trans ((if_neg hk2).trans (if_pos hk3))))
    have HC : Hid (Calls Try.prog 40 #[.pointer (some ⟨M, 0, none⟩), .string o.name, .int .i64 o.long] W0 fun e w' => e = .returned (.int .i64 X.2) ∧ Hid (DocAny w role M X.1 w')) := by
      rw [hXv]
      refine (rtruncate_any h0 hc hf hn hs o.name o.long).mono ?_
      rintro e w' ⟨rfl, HT⟩
      exact ⟨rfl, HT.out.any hal⟩
    clear h hc hf hs hop hr0 hal h0 hop0 hd0 hrd hX hXv hW0
    have q0 : (o.kind == 0) = false := by simpa using hk0
    have q1 : (o.kind == 1) = false := by simpa using hk1
    have q2 : (o.kind == 2) = false := by simpa using hk2
    have qk : (o.kind == 3) = true := by simpa using hk3
    rw [hk3] at HW0
    go_enter Try.func15, Try.ntmps15
    go_wp2_with fail
    rw [← HW0.out]
    refine HC.out.mono ?_
    rintro e9 w9 ⟨rfl, HT⟩
    clear HC
    go_wp2
    go_ret
    exact ⟨rfl, HT⟩
  by_cases hk4 : o.kind = 4
  · have hXv : X = _ := hX.trans ((if_neg hk0).trans ((if_neg hk1).trans ((if_neg hk2).trans ((if_neg hk3).trans (if_pos hk4)))))
    have HC : Hid (Calls Try.prog 41 #[.pointer (some ⟨M, 0, none⟩), .string o.name] W0 fun e w' => e = .returned (.int .i64 X.2) ∧ Hid (DocAny w role M X.1 w')) := by
      rw [hXv]
      refine (rsync_any h0 hc hf hn hs o.name).mono ?_
      rintro e w' ⟨rfl, HT⟩
      exact ⟨rfl, HT.out.any hal⟩
    clear h hc hf hs hop hr0 hal h0 hop0 hd0 hrd hX hXv hW0
    have q0 : (o.kind == 0) = false := by simpa using hk0
    have q1 : (o.kind == 1) = false := by simpa using hk1
    have q2 : (o.kind == 2) = false := by simpa using hk2
    have q3 : (o.kind == 3) = false := by simpa using hk3
    have qk : (o.kind == 4) = true := by simpa using hk4
    rw [hk4] at HW0
    go_enter Try.func15, Try.ntmps15
    go_wp2_with fail
    rw [← HW0.out]
    refine HC.out.mono ?_
    rintro e9 w9 ⟨rfl, HT⟩
    clear HC
    go_wp2
    go_ret
    exact ⟨rfl, HT⟩
  by_cases hk5 : o.kind = 5
  · have hXv : X = _ := hX.trans ((if_neg hk0).trans ((if_neg hk1).trans ((if_neg hk2).trans ((if_neg hk3).trans ((if_neg hk4).trans (if_pos hk5))))))
    have HC : Hid (Calls Try.prog 42 #[.pointer (some ⟨M, 0, none⟩), .string o.name, .string o.to] W0 fun e w' => e = .returned (.int .i64 X.2) ∧ Hid (DocAny w role M X.1 w')) := by
      rw [hXv]
      refine (rrename_any h0 hc hf hn hs o.name o.to).mono ?_
      rintro e w' ⟨rfl, HT⟩
      exact ⟨rfl, HT.out.any hal⟩
    clear h hc hf hs hop hr0 hal h0 hop0 hd0 hrd hX hXv hW0
    have q0 : (o.kind == 0) = false := by simpa using hk0
    have q1 : (o.kind == 1) = false := by simpa using hk1
    have q2 : (o.kind == 2) = false := by simpa using hk2
    have q3 : (o.kind == 3) = false := by simpa using hk3
    have q4 : (o.kind == 4) = false := by simpa using hk4
    have qk : (o.kind == 5) = true := by simpa using hk5
    rw [hk5] at HW0
    go_enter Try.func15, Try.ntmps15
    go_wp2_with fail
    rw [← HW0.out]
    refine HC.out.mono ?_
    rintro e9 w9 ⟨rfl, HT⟩
    clear HC
    go_wp2
    go_ret
    exact ⟨rfl, HT⟩
  by_cases hk6 : o.kind = 6
  · have hXv : X = _ := hX.trans ((if_neg hk0).trans ((if_neg hk1).trans ((if_neg hk2).trans ((if_neg hk3).trans ((if_neg hk4).trans ((if_neg hk5).trans (if_pos hk6)))))))
    have HC : Hid (Calls Try.prog 43 #[.pointer (some ⟨M, 0, none⟩), .string o.name] W0 fun e w' => e = .returned (.int .i64 X.2) ∧ Hid (DocAny w role M X.1 w')) := by
      rw [hXv]
      refine (rremove_any h0 hc hf hn hs o.name).mono ?_
      rintro e w' ⟨rfl, HT⟩
      exact ⟨rfl, HT.out.any hal⟩
    clear h hc hf hs hop hr0 hal h0 hop0 hd0 hrd hX hXv hW0
    have q0 : (o.kind == 0) = false := by simpa using hk0
    have q1 : (o.kind == 1) = false := by simpa using hk1
    have q2 : (o.kind == 2) = false := by simpa using hk2
    have q3 : (o.kind == 3) = false := by simpa using hk3
    have q4 : (o.kind == 4) = false := by simpa using hk4
    have q5 : (o.kind == 5) = false := by simpa using hk5
    have qk : (o.kind == 6) = true := by simpa using hk6
    rw [hk6] at HW0
    go_enter Try.func15, Try.ntmps15
    go_wp2_with fail
    rw [← HW0.out]
    refine HC.out.mono ?_
    rintro e9 w9 ⟨rfl, HT⟩
    clear HC
    go_wp2
    go_ret
    exact ⟨rfl, HT⟩
  have q0 : (o.kind == 0) = false := by simpa using hk0
  have q1 : (o.kind == 1) = false := by simpa using hk1
  have q2 : (o.kind == 2) = false := by simpa using hk2
  have q3 : (o.kind == 3) = false := by simpa using hk3
  have q4 : (o.kind == 4) = false := by simpa using hk4
  have q5 : (o.kind == 5) = false := by simpa using hk5
  have q6 : (o.kind == 6) = false := by simpa using hk6
  by_cases hk7 : o.kind = 7
  · have hXv : X = _ := hX.trans ((if_neg hk0).trans ((if_neg hk1).trans ((if_neg hk2).trans ((if_neg hk3).trans ((if_neg hk4).trans ((if_neg hk5).trans ((if_neg hk6).trans (if_pos hk7))))))))
    have HC : Hid (Calls Try.prog 44 #[.pointer (some ⟨M, 0, none⟩), .agg #[.int .i64 o.crash, .slice p1 o.keep.length c1, .slice p2 o.fail.length c2, .slice p3 o.full.length c3, .int .i64 o.room]] W0 fun e w' => e = .returned (.tuple #[]) ∧ Hid (DocAny w role M X.1 w')) := by
      rw [hXv]
      refine (rstart_any h0 hf hn (cr := o.crash) (ro := o.room) (keep := o.keep) (fail := o.fail) (full := o.full) (a1 := p1) (a2 := p2) (a3 := p3) (c1 := c1) (c2 := c2) (c3 := c3) ⟨hop0.keep, hop0.fail, hop0.full, hop.iC, hop.iR, hop.iK, hop.iF, hop.iU, hop.lK, hop.lF, hop.lU⟩ hr0.2).mono ?_
      rintro e w' ⟨rfl, HT⟩
      obtain ⟨k9, l9, u9, role', rs', fv', g1, g2⟩ := HT.out
      exact ⟨rfl, k9, l9, u9, role', rs', fv', g1, (DStp.still hal).trans g2⟩
    have HX2 : Hid (X.2 = 0) := (by rw [hXv] : X.2 = 0)
    clear h hc hf hs hop hr0 hal h0 hop0 hd0 hrd hX hXv hW0
    have qk : (o.kind == 7) = true := by simpa using hk7
    rw [hk7] at HW0
    go_enter Try.func15, Try.ntmps15
    go_wp2_with fail
    rw [← HW0.out]
    refine HC.out.mono ?_
    rintro e9 w9 ⟨rfl, HT⟩
    clear HC
    go_wp2
    go_ret
    refine ⟨?_, HT⟩
    rw [HX2.out]
    rfl
  · have hXv : X = _ := hX.trans ((if_neg hk0).trans ((if_neg hk1).trans ((if_neg hk2).trans ((if_neg hk3).trans ((if_neg hk4).trans ((if_neg hk5).trans ((if_neg hk6).trans (if_neg hk7))))))))
    have HC : Hid (Calls Try.prog 18 #[.pointer (some ⟨M, 0, none⟩), .string o.name, .int .i64 o.at_, .int .i64 o.long] W0 fun e w' => ∃ q9 m9 c9, e = .returned (.tuple #[.slice q9 m9 c9, .int .i64 X.2]) ∧ Hid (DocAny w role M X.1 w')) := by
      rw [hXv]
      refine (rread_any h0 hc hf hn o.name o.at_ o.long hop.iAt hop.iLong).mono ?_
      rintro e w' ⟨q9, m9, c9, rfl, HO⟩
      exact ⟨q9, m9, c9, rfl, kv, lv, uv, role, rs, fv, h0.still HO.out.2, DStp.still (hal.trans (HO.out.2.mono hal.size))⟩
    clear h hc hf hs hop hr0 hal h0 hop0 hd0 hrd hX hXv hW0
    have qk : (o.kind == 7) = false := by simpa using hk7
    go_enter Try.func15, Try.ntmps15
    go_wp2_with fail
    rw [← HW0.out]
    refine HC.out.mono ?_
    rintro e9 w9 ⟨q9, m9, c9, rfl, HT⟩
    clear HC
    go_wp2
    go_ret
    exact ⟨rfl, HT⟩

end Go.Proofs.Ytcceaokldphfgaa
