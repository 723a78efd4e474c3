/- YtcceaokldphfgaaDiskDoesC37 -/
import Derived.Test.YtcceaokldphfgaaDiskDoesC36
namespace Go.Proofs.Ytcceaokldphfgaa
open Go.RowKit Go.Shelf

theorem find_no {rs : List DRep} {t : ByteArray} (h : ∀ r ∈ rs, r.a.name ≠ t) : findA (rs.map (·.a)) t = none := by
  unfold findA
  rw [List.find?_eq_none]
  intro f hf
  obtain ⟨r, hr, rfl⟩ := List.mem_map.1 hf
  simp only [beq_iff_eq]
  intro e
  exact h r hr (cmpS_zero.1 e)

theorem find_yes : ∀ {rs : List DRep} {t : ByteArray} {i : Nat} {r : DRep}, rs[i]? = some r → r.a.name = t → (∀ j q, j < i → rs[j]? = some q → q.a.name ≠ t) → findA (rs.map (·.a)) t = some r.a
  | [], _, _, _, h, _, _ => by simp at h
  | x :: rs, t, 0, r, h, hn, _ => by
    simp only [List.getElem?_cons_zero, Option.some.injEq] at h
    subst h
    unfold findA
    rw [List.map_cons, List.find?_cons_of_pos (by rw [hn]; simp [cmp_self])]
  | x :: rs, t, i + 1, r, h, hn, hne => by
    have ih := find_yes (rs := rs) (i := i) (by simpa using h) hn (fun j q hj hq => hne (j + 1) q (by omega) (by simpa using hq))
    unfold findA at ih ⊢
    rw [List.map_cons, List.find?_cons_of_neg]
    · exact ih
    · simp only [beq_iff_eq]
      intro e
      exact hne 0 x (by omega) rfl (cmpS_zero.1 e)

theorem on_err {a : ASt} {t : ByteArray} {k : ASt → AFile → ASt × Int} (h : (beginA a).2 ≠ 0) : onA a t k = beginA a := by unfold onA; rw [if_pos h]

theorem on_no {a : ASt} {t : ByteArray} {k : ASt → AFile → ASt × Int} (h : (beginA a).2 = 0) (hf : findA a.fs t = none) : onA a t k = (bumpA a, 13) := by
  unfold onA
  have e : (beginA a).1 = bumpA a := (begin_zero h).1
  rw [if_neg (by rw [h]; decide), e, show findA (bumpA a).fs t = none from hf]

theorem on_yes {a : ASt} {t : ByteArray} {k : ASt → AFile → ASt × Int} {f : AFile} (h : (beginA a).2 = 0) (hf : findA a.fs t = some f) : onA a t k = k (bumpA a) f := by
  unfold onA
  have e : (beginA a).1 = bumpA a := (begin_zero h).1
  rw [if_neg (by rw [h]; decide), e, show findA (bumpA a).fs t = some f from hf]

theorem FewA.bump {n : Nat} {a : ASt} (h : FewA n a) : FewA (n + 1) (bumpA a) :=
  ⟨Nat.le_trans h.files (Nat.le_succ _), fun f hf => Nat.le_trans (h.chs f hf) (Nat.le_succ _), ⟨by have := h.ops.1; show 0 ≤ a.ops + 1; omega, by have := h.ops.2; show a.ops + 1 ≤ ((n + 1 : Nat) : Int); omega⟩, h.keep, h.fail, h.full⟩

theorem Coh.bump {a : ASt} (h : Coh a) : Coh (bumpA a) := ⟨h.whole, h.dead⟩

theorem DocTo.step {w W : World} {role role1 : DRole} {M : Nat} {a : ASt} {kv lv uv : Value} {w' : World} (s : DStp role role1 w W) (h : ∃ role' rs' fv', DocOK w' role' M a rs' fv' kv lv uv ∧ DStp role1 role' W w') : DocTo w role M a kv lv uv w' := by
  obtain ⟨role', rs', fv', g1, g2⟩ := h
  exact ⟨role', rs', fv', g1, s.trans g2⟩

set_option maxHeartbeats 2000000 in
set_option maxRecDepth 100000 in
theorem rtruncate_any {w : World} {role : DRole} {M n : Nat} {a : ASt} {rs : List DRep} {fv kv lv uv : Value} (h : DocOK w role M a rs fv kv lv uv) (hc : Coh a) (hf : FewA n a) (hn : n ≤ 998) (hs : SortedA a.fs) (t : ByteArray) (long : Int) :
    Calls Try.prog 40 #[.pointer (some ⟨M, 0, none⟩), .string t, .int .i64 long] w fun e w' => e = .returned (.int .i64 (cutA a t long).2) ∧ Hid (DocTo w role M (cutA a t long).1 kv lv uv w') := by
  have hbg := rbegin_any h hf (by omega)
  obtain ⟨X, hX⟩ : ∃ X, X = cutA a t long := ⟨_, rfl⟩
  rw [← hX]
  by_cases he : (beginA a).2 = 0
  · have hba : (beginA a).1 = bumpA a := (begin_zero he).1
    rw [he, hba] at hbg
    have HG := hideP (And.intro hc (And.intro hf (And.intro hs (And.intro he hX))))
    clear h hc hf hs he hX hba
    go_enter Try.func40, Try.ntmps40
    go_wp2_with fail
    refine hbg.mono ?_
    rintro e9 W1 ⟨rfl, HT⟩
    clear hbg
    obtain ⟨role1, rs1, fv1, h1, s1⟩ := HT.out
    obtain ⟨hc, hf, hs, he, hX⟩ := HG.out
    have hfew : FewD rs1 := h1.few hf.bump (by omega)
    have hfs : a.fs = rs1.map (·.a) := h1.fs
    have hfd := rfind_any h1 hfew.1 t
    have H1 := hideP (And.intro h1 (And.intro s1 (And.intro hfew hfs)))
    clear h1 s1 hfew hfs hc hf hs he hX HT
    go_wp2_with fail
    refine hfd.mono ?_
    rintro e9 w9 ⟨⟨x, rfl, HFR⟩, rfl⟩
    clear hfd
    obtain ⟨h1, s1, hfew, hfs⟩ := H1.out
    obtain ⟨hc, hf, hs, he, hX⟩ := HG.out
    rcases HFR.out with ⟨hx, hno⟩ | ⟨i, r, hx, hr, hnm, hfst⟩
    · subst hx
      have hXv : X = (bumpA a, 13) := by rw [hX]; exact on_no he (by rw [hfs]; exact find_no hno)
      have HF : Hid (DocTo w role M X.1 kv lv uv W1) := by rw [hXv]; exact ⟨role1, rs1, fv1, h1, s1⟩
      have HX2 : Hid (X.2 = 13) := (by rw [hXv] : X.2 = 13)
      clear h1 s1 hfew hfs hc hf hs he hX hno hXv H1 HG HFR
      go_wp2
      go_ret
      refine ⟨?_, HF⟩
      rw [HX2.out]
      rfl
    · subst hx
      have hfa : findA a.fs t = some r.a := by rw [hfs]; exact find_yes hr hnm hfst
      have hi0 : ¬ (i : Int) < 0 := by omega
      have hmem := List.mem_of_getElem? hr
      have hil : i < rs1.length := (List.getElem?_eq_some_iff.1 hr).1
      have hi1 : (i : Int) < 1000 := by have := hfew.1; omega
      by_cases hl0 : long < 0
      · have hXv : X = (bumpA a, 1) := by rw [hX]; exact (on_yes he hfa).trans (if_pos hl0)
        have HF : Hid (DocTo w role M X.1 kv lv uv W1) := by rw [hXv]; exact ⟨role1, rs1, fv1, h1, s1⟩
        have HX2 : Hid (X.2 = 1) := (by rw [hXv] : X.2 = 1)
        clear h1 s1 hfew hfs hc hf hs he hX hXv H1 HG HFR hmem hfa hr hnm hfst
        go_wp2
        go_ret
        refine ⟨?_, HF⟩
        rw [HX2.out]
        rfl
      · by_cases hl1 : 268435456 < long
        · have hXv : X = (bumpA a, 2) := by rw [hX]; exact (on_yes he hfa).trans ((if_neg hl0).trans (if_pos hl1))
          have HF : Hid (DocTo w role M X.1 kv lv uv W1) := by rw [hXv]; exact ⟨role1, rs1, fv1, h1, s1⟩
          have HX2 : Hid (X.2 = 2) := (by rw [hXv] : X.2 = 2)
          clear h1 s1 hfew hfs hc hf hs he hX hXv H1 HG HFR hmem hfa hr hnm hfst
          go_wp2
          go_ret
          refine ⟨?_, HF⟩
          rw [HX2.out]
          rfl
        · obtain ⟨L, rfl⟩ : ∃ L : Nat, long = L := ⟨long.toNat, by omega⟩
          have hch := rchange_any (c := .inr L) (d := .slice none 0 0) h1 hc.bump hfew hf.full hs hr ⟨World.ownsRow_nil _ _ _ _, fun k e => by cases e⟩ (show L ≤ 268435456 by omega) rfl
          rw [show (applyC (.inr L) r.a.data).length = L from length_applyT L _] at hch
          have hXv : X = chgA (.inr L) (bumpA a) r.a := by rw [hX]; exact (on_yes he hfa).trans ((if_neg hl0).trans ((if_neg hl1).trans (by rw [show (L : Int).toNat = L from by omega])))
          rw [← hXv] at hch
          have HS1 := hideP s1
          have HCH := hideP hch
          clear h1 s1 hfew hfs hc hf hs he hX hXv H1 HG HFR hmem hfa hr hnm hfst hch
          go_wp2_with fail
          refine HCH.out.mono ?_
          rintro e9 w9 ⟨rfl, HT⟩
          have HF := hideP (DocTo.step HS1.out HT.out)
          clear HCH HT
          go_wp2
          go_ret
          exact ⟨rfl, HF⟩
  · have hXv : X = beginA a := by rw [hX]; exact on_err he
    have hne : ((beginA a).2 != 0) = true := by simpa using he
    rw [← hXv] at hbg hne
    clear h hc hf hs hX hXv he
    generalize X.2 = y at *
    go_enter Try.func40, Try.ntmps40
    go_wp2_with fail
    refine hbg.mono ?_
    rintro e9 W1 ⟨rfl, HT⟩
    clear hbg
    go_wp2
    go_ret
    exact ⟨rfl, HT⟩

/-- Bytes in new memory belong to the document's disk from now on. -/
theorem DocOK.fresh {W W' : World} {role : DRole} {M : Nat} {a : ASt} {rs : List DRep} {fv kv lv uv v : Value} {l : List UInt8} (h : DocOK W role M a rs fv kv lv uv) (ho : Out W l v W') : ∃ role', DocOK W' role' M a rs fv kv lv uv ∧ DStp role role' W W' ∧ RoB W' role' v l := by
  have hlow : ∀ k, v.ownBlock = some k → W.heap.size ≤ k ∧ k < W'.heap.size := fun k e => ho.1.lt k e
  have hz : ∀ k, role k ≠ 0 → ¬ v.ownBlock = some k := fun k hk e => by have := h.dom k hk; have := (hlow k e).1; omega
  refine ⟨fun k => if v.ownBlock = some k then 4 else role k, (h.still ho.2).kept (fun k hk _ => ⟨rfl, if_neg (hz k hk)⟩) (fun k e => ?_) (fun k e => ?_), ⟨ho.2.os, ho.2.tape, ho.2.output, ho.2.size, fun k hk => if_neg (fun e => by have := (hlow k e).1; omega), fun k hk _ => ho.2.block k hk⟩, own_zero ho.1, fun k e => if_pos e⟩
  · split at e
    · omega
    · exact h.one k e
  · split at e
    · rename_i e2
      exact (hlow k e2).2
    · exact Nat.lt_of_lt_of_le (h.dom k e) ho.2.size

/-- What is nothing to the document's disk stays as it is. -/
theorem RdN.stp {w w' : World} {role role' : DRole} {v : Value} {l : List UInt8} (h : RdN w v l) (hs : DStp role role' w w') (h0 : l ≠ [] → ∀ ad n c, v = .slice (some ad) n c → role ad.block = 0) : RdN w' v l := by
  obtain ⟨⟨a, c, rfl, hc, hr⟩, hn⟩ := h
  refine ⟨⟨a, c, rfl, hc, fun j x hx => ?_⟩, hn⟩
  obtain ⟨ad, e, hcell⟩ := hr j x hx
  refine ⟨ad, e, ?_⟩
  have hb : ad.block < w.heap.size := by
    rcases Nat.lt_or_ge (ad.add j).block w.heap.size with h | h
    · rwa [add_block] at h
    · simp [World.cell?, Array.getElem?_eq_none h] at hcell
  have hk := hs.keep ad.block hb (.inl (h0 (by rintro rfl; simp at hx) ad _ _ (by rw [e])))
  have : w'.cell? (ad.add j) = w.cell? (ad.add j) := by
    simp only [World.cell?, add_block, hk]
  rw [this]
  exact hcell

set_option maxHeartbeats 2000000 in
set_option maxRecDepth 100000 in
theorem rappend_any {w : World} {role : DRole} {M n : Nat} {a : ASt} {rs : List DRep} {fv kv lv uv : Value} (h : DocOK w role M a rs fv kv lv uv) (hc : Coh a) (hf : FewA n a) (hn : n ≤ 998) (hs : SortedA a.fs) (t : ByteArray) {bv : Value} {l : List UInt8} (hb : RdN w bv l) (hb0 : l ≠ [] → ∀ ad n c, bv = .slice (some ad) n c → role ad.block = 0) (hll : l.length ≤ 140737488351232) :
    Calls Try.prog 38 #[.pointer (some ⟨M, 0, none⟩), .string t, bv] w fun e w' => e = .returned (.int .i64 (appendA a t l).2) ∧ Hid (DocTo w role M (appendA a t l).1 kv lv uv w') := by
  have hbg := rbegin_any h hf (by omega)
  obtain ⟨X, hX⟩ : ∃ X, X = appendA a t l := ⟨_, rfl⟩
  rw [← hX]
  by_cases he : (beginA a).2 = 0
  · have hba : (beginA a).1 = bumpA a := (begin_zero he).1
    rw [he, hba] at hbg
    have HG := hideP (And.intro hc (And.intro hf (And.intro hs (And.intro he hX))))
    clear h hc hf hs he hX hba
    go_enter Try.func38, Try.ntmps38
    go_wp2_with fail
    refine hbg.mono ?_
    rintro e9 W1 ⟨rfl, HT⟩
    clear hbg
    obtain ⟨role1, rs1, fv1, h1, s1⟩ := HT.out
    obtain ⟨hc, hf, hs, he, hX⟩ := HG.out
    have hfew : FewD rs1 := h1.few hf.bump (by omega)
    have hfs : a.fs = rs1.map (·.a) := h1.fs
    have hfd := rfind_any h1 hfew.1 t
    have H1 := hideP (And.intro h1 (And.intro s1 (And.intro hfew hfs)))
    clear h1 s1 hfew hfs hc hf hs he hX HT
    go_wp2_with fail
    refine hfd.mono ?_
    rintro e9 w9 ⟨⟨x, rfl, HFR⟩, rfl⟩
    clear hfd
    obtain ⟨h1, s1, hfew, hfs⟩ := H1.out
    obtain ⟨hc, hf, hs, he, hX⟩ := HG.out
    rcases HFR.out with ⟨hx, hno⟩ | ⟨i, r, hx, hr, hnm, hfst⟩
    · subst hx
      have hXv : X = (bumpA a, 13) := by rw [hX]; exact on_no he (by rw [hfs]; exact find_no hno)
      have HF : Hid (DocTo w role M X.1 kv lv uv W1) := by rw [hXv]; exact ⟨role1, rs1, fv1, h1, s1⟩
      have HX2 : Hid (X.2 = 13) := (by rw [hXv] : X.2 = 13)
      clear h1 s1 hfew hfs hc hf hs he hX hno hXv H1 HG HFR
      go_wp2
      go_ret
      refine ⟨?_, HF⟩
      rw [HX2.out]
      rfl
    · subst hx
      have hfa : findA a.fs t = some r.a := by rw [hfs]; exact find_yes hr hnm hfst
      have hi0 : ¬ (i : Int) < 0 := by omega
      have hmem := List.mem_of_getElem? hr
      have hil : i < rs1.length := (List.getElem?_eq_some_iff.1 hr).1
      have hi1 : (i : Int) < 1000 := by have := hfew.1; omega
      obtain ⟨g, cap, hfv, hcap, hgz, hg2, c0, c1, c2, _⟩ := h1.file hr
      have m5 : W1.cell? ⟨M, 5, none⟩ = some fv1 := blk_cell (o := 5) h1.str rfl
      have hF := h1.files r hmem
      have hW := h1.whole hc.bump hmem
      have hld := hF.lenD hW
      have hdat := hF.dataD hW (hfew.2 r hmem)
      have HDT : Hid (Calls Try.prog 48 #[.agg #[.string r.a.name, r.sv, r.cv]] W1 fun e w' => ∃ q n k, e = .returned (.slice q n k) ∧ n = r.a.data.length ∧ Hid (Below W1.heap.size W1 w')) := by
        refine hdat.mono ?_
        rintro e w' ⟨q, n, k, rfl, HO⟩
        exact ⟨q, n, k, rfl, HO.out.2, HO.out.1.2⟩
      obtain ⟨x1, x2, x3, ex⟩ : ∃ q n c, r.sv = .slice q n c := by
        obtain ⟨q, c, e, _⟩ := own_slice hF.safe.1
        exact ⟨_, _, _, e⟩
      obtain ⟨y1, y2, ey, _⟩ := hF.crow
      obtain ⟨qb, kb, hbe, _⟩ := hb.1
      rw [ex] at c1 HDT
      rw [ey] at c2 HDT
      rw [hfv] at m5
      have hrb := hb.stp s1 hb0
      by_cases hbig : 268435456 < r.a.data.length + l.length
      · have hXv : X = (bumpA a, 2) := by rw [hX]; exact (on_yes he hfa).trans (if_pos hbig)
        have HF : Hid (∀ W2, Below W1.heap.size W1 W2 → DocTo w role M X.1 kv lv uv W2) := fun W2 hb2 => by rw [hXv]; exact ⟨role1, rs1, fv1, h1.still hb2, s1.trans (DStp.still hb2)⟩
        have HX2 : Hid (X.2 = 2) := (by rw [hXv] : X.2 = 2)
        subst hbe
        generalize r.a.data.length = ld at *
        generalize hnl : l.length = nl at *
        generalize hnr : rs1.length = nr at *
        generalize r.a.chs.length = nc at *
        generalize r.a.name = nm at *
        have t1 : IntKind.i64.wrap (268435456 - (ld : Int)) = 268435456 - (ld : Int) := by rw [IntKind.wrap_i64]; omega
        have t2 : 268435456 - (ld : Int) < (nl : Int) := by omega
        clear h1 s1 hfew hfs hc hf hs he hX hXv H1 HG HFR hmem hfa hr hnm hfst hF hW hdat hrb hb hb0
        go_wp2_with fail
        refine HDT.out.mono ?_
        rintro e9 W2 ⟨q2, n2, k2, rfl, rfl, HB2⟩
        have HF2 := hideP (HF.out _ HB2.out)
        clear HDT HF HB2 c0 c1 c2 m5
        go_wp2
        go_ret
        refine ⟨?_, HF2⟩
        rw [HX2.out]
        rfl
      · have HCH : Hid (∀ W2, Below W1.heap.size W1 W2 → Calls Try.prog 49 #[bv] W2 fun e W3 => ∃ q3 k3, e = .returned (.slice q3 l.length k3) ∧ Hid (Calls Try.prog 69 #[.pointer (some ⟨M, 0, none⟩), .int .i64 i, .agg #[.bool false, .int .i64 r.a.data.length, .int .i64 0, .slice q3 l.length k3], .int .i64 ((r.a.data.length : Int) + (l.length : Int))] W3 fun e w' => e = .returned (.int .i64 X.2) ∧ Hid (DocTo w role M X.1 kv lv uv w'))) := fun W2 hb2 => by
          refine (rtwin_any (hrb.later hb2) (by omega)).mono ?_
          rintro e9 W3 ⟨q3, k3, rfl, HO⟩
          refine ⟨q3, k3, rfl, ?_⟩
          obtain ⟨role3, h3, s3, hro⟩ := (h1.still hb2).fresh HO.out
          have hch := rchange_any (c := .inl (r.a.data.length, l)) (d := .slice q3 l.length k3) h3 hc.bump hfew hf.full hs hr hro (show r.a.data.length + l.length ≤ 268435456 by omega) rfl
          have hXv : X = chgA (.inl (r.a.data.length, l)) (bumpA a) r.a := by rw [hX]; exact (on_yes he hfa).trans (if_neg hbig)
          rw [← hXv, show (((applyC (.inl (r.a.data.length, l)) r.a.data).length : Nat) : Int) = (r.a.data.length : Int) + (l.length : Int) from by rw [show applyC (.inl (r.a.data.length, l)) r.a.data = applyW r.a.data.length l r.a.data from rfl, length_applyW]; omega] at hch
          refine hch.mono ?_
          rintro e9 w9 ⟨rfl, HT⟩
          exact ⟨rfl, DocTo.step (s1.trans ((DStp.still hb2).trans s3)) HT.out⟩
        subst hbe
        generalize r.a.data.length = ld at *
        generalize hnl : l.length = nl at *
        generalize hnr : rs1.length = nr at *
        generalize r.a.chs.length = nc at *
        generalize r.a.name = nm at *
        have t1 : IntKind.i64.wrap (268435456 - (ld : Int)) = 268435456 - (ld : Int) := by rw [IntKind.wrap_i64]; omega
        have t2 : ¬ 268435456 - (ld : Int) < (nl : Int) := by omega
        have t3 : IntKind.i64.wrap ((ld : Int) + (nl : Int)) = (ld : Int) + (nl : Int) := by rw [IntKind.wrap_i64]; omega
        clear h1 s1 hfew hfs hc hf hs he hX H1 HG HFR hmem hfa hr hnm hfst hF hW hdat hrb hb hb0
        go_wp2_with fail
        refine HDT.out.mono ?_
        rintro e9 W2 ⟨q2, n2, k2, rfl, rfl, HB2⟩
        have hch2 := HCH.out _ HB2.out
        clear HDT HCH HB2 c0 c1 c2 m5
        go_wp2_with fail
        refine hch2.mono ?_
        rintro e9 W3 ⟨q3, k3, rfl, HC3⟩
        clear hch2
        go_wp2_with fail
        refine HC3.out.mono ?_
        rintro e9 w9 ⟨rfl, HT⟩
        clear HC3
        go_wp2
        go_ret
        exact ⟨rfl, HT⟩
  · have hXv : X = beginA a := by rw [hX]; exact on_err he
    have hne : ((beginA a).2 != 0) = true := by simpa using he
    rw [← hXv] at hbg hne
    clear h hc hf hs hX hXv he
    generalize X.2 = y at *
    go_enter Try.func38, Try.ntmps38
    go_wp2_with fail
    refine hbg.mono ?_
    rintro e9 W1 ⟨rfl, HT⟩
    clear hbg
    go_wp2
    go_ret
    exact ⟨rfl, HT⟩

set_option maxHeartbeats 2000000 in
set_option maxRecDepth 100000 in
theorem rwrite_any {w : World} {role : DRole} {M n : Nat} {a : ASt} {rs : List DRep} {fv kv lv uv : Value} (h : DocOK w role M a rs fv kv lv uv) (hc : Coh a) (hf : FewA n a) (hn : n ≤ 998) (hs : SortedA a.fs) (t : ByteArray) (at_ : Int) {bv : Value} {l : List UInt8} (hb : RdN w bv l) (hb0 : l ≠ [] → ∀ ad n c, bv = .slice (some ad) n c → role ad.block = 0) (hll : l.length ≤ 140737488351232) :
    Calls Try.prog 39 #[.pointer (some ⟨M, 0, none⟩), .string t, .int .i64 at_, bv] w fun e w' => e = .returned (.int .i64 (writeA a t at_ l).2) ∧ Hid (DocTo w role M (writeA a t at_ l).1 kv lv uv w') := by
  have hbg := rbegin_any h hf (by omega)
  obtain ⟨X, hX⟩ : ∃ X, X = writeA a t at_ l := ⟨_, rfl⟩
  rw [← hX]
  by_cases he : (beginA a).2 = 0
  · have hba : (beginA a).1 = bumpA a := (begin_zero he).1
    rw [he, hba] at hbg
    have HG := hideP (And.intro hc (And.intro hf (And.intro hs (And.intro he hX))))
    clear h hc hf hs he hX hba
    go_enter Try.func39, Try.ntmps39
    go_wp2_with fail
    refine hbg.mono ?_
    rintro e9 W1 ⟨rfl, HT⟩
    clear hbg
    obtain ⟨role1, rs1, fv1, h1, s1⟩ := HT.out
    obtain ⟨hc, hf, hs, he, hX⟩ := HG.out
    have hfew : FewD rs1 := h1.few hf.bump (by omega)
    have hfs : a.fs = rs1.map (·.a) := h1.fs
    have hfd := rfind_any h1 hfew.1 t
    have H1 := hideP (And.intro h1 (And.intro s1 (And.intro hfew hfs)))
    clear h1 s1 hfew hfs hc hf hs he hX HT
    go_wp2_with fail
    refine hfd.mono ?_
    rintro e9 w9 ⟨⟨x, rfl, HFR⟩, rfl⟩
    clear hfd
    obtain ⟨h1, s1, hfew, hfs⟩ := H1.out
    obtain ⟨hc, hf, hs, he, hX⟩ := HG.out
    rcases HFR.out with ⟨hx, hno⟩ | ⟨i, r, hx, hr, hnm, hfst⟩
    · subst hx
      have hXv : X = (bumpA a, 13) := by rw [hX]; exact on_no he (by rw [hfs]; exact find_no hno)
      have HF : Hid (DocTo w role M X.1 kv lv uv W1) := by rw [hXv]; exact ⟨role1, rs1, fv1, h1, s1⟩
      have HX2 : Hid (X.2 = 13) := (by rw [hXv] : X.2 = 13)
      clear h1 s1 hfew hfs hc hf hs he hX hno hXv H1 HG HFR
      go_wp2
      go_ret
      refine ⟨?_, HF⟩
      rw [HX2.out]
      rfl
    · subst hx
      have hfa : findA a.fs t = some r.a := by rw [hfs]; exact find_yes hr hnm hfst
      have hi0 : ¬ (i : Int) < 0 := by omega
      have hmem := List.mem_of_getElem? hr
      have hil : i < rs1.length := (List.getElem?_eq_some_iff.1 hr).1
      have hi1 : (i : Int) < 1000 := by have := hfew.1; omega
      obtain ⟨qb, kb, hbe, _⟩ := id hb.1
      by_cases hl0 : at_ < 0
      · have hXv : X = (bumpA a, 1) := by rw [hX]; exact (on_yes he hfa).trans (if_pos hl0)
        have HF : Hid (DocTo w role M X.1 kv lv uv W1) := by rw [hXv]; exact ⟨role1, rs1, fv1, h1, s1⟩
        have HX2 : Hid (X.2 = 1) := (by rw [hXv] : X.2 = 1)
        subst hbe
        clear hb hb0 h1 s1 hfew hfs hc hf hs he hX hXv H1 HG HFR hmem hfa hr hnm hfst
        go_wp2
        go_ret
        refine ⟨?_, HF⟩
        rw [HX2.out]
        rfl
      · by_cases hl1 : 268435456 < at_ + l.length
        · have hXv : X = (bumpA a, 2) := by rw [hX]; exact (on_yes he hfa).trans ((if_neg hl0).trans (if_pos hl1))
          have HF : Hid (DocTo w role M X.1 kv lv uv W1) := by rw [hXv]; exact ⟨role1, rs1, fv1, h1, s1⟩
          have HX2 : Hid (X.2 = 2) := (by rw [hXv] : X.2 = 2)
          generalize hnl : l.length = nl at *
          have t1 : IntKind.i64.wrap (268435456 - (nl : Int)) = 268435456 - (nl : Int) := by rw [IntKind.wrap_i64]; omega
          have t2 : 268435456 - (nl : Int) < at_ := by omega
          subst hbe
          clear hb hb0
          clear h1 s1 hfew hfs hc hf hs he hX hXv H1 HG HFR hmem hfa hr hnm hfst
          go_wp2
          go_ret
          refine ⟨?_, HF⟩
          rw [HX2.out]
          rfl
        · obtain ⟨A, rfl⟩ : ∃ A : Nat, at_ = A := ⟨at_.toNat, by omega⟩
          clear hbe
          obtain ⟨g, cap, hfv, hcap, hgz, hg2, c0, c1, c2, _⟩ := h1.file hr
          have m5 : W1.cell? ⟨M, 5, none⟩ = some fv1 := blk_cell (o := 5) h1.str rfl
          have hF := h1.files r hmem
          have hW := h1.whole hc.bump hmem
          have hld := hF.lenD hW
          have hdat := hF.dataD hW (hfew.2 r hmem)
          have HDT : Hid (Calls Try.prog 48 #[.agg #[.string r.a.name, r.sv, r.cv]] W1 fun e w' => ∃ q n k, e = .returned (.slice q n k) ∧ n = r.a.data.length ∧ Hid (Below W1.heap.size W1 w')) := by
            refine hdat.mono ?_
            rintro e w' ⟨q, n, k, rfl, HO⟩
            exact ⟨q, n, k, rfl, HO.out.2, HO.out.1.2⟩
          obtain ⟨x1, x2, x3, ex⟩ : ∃ q n c, r.sv = .slice q n c := by
            obtain ⟨q, c, e, _⟩ := own_slice hF.safe.1
            exact ⟨_, _, _, e⟩
          obtain ⟨y1, y2, ey, _⟩ := hF.crow
          obtain ⟨qb, kb, hbe, _⟩ := hb.1
          rw [ex] at c1 HDT
          rw [ey] at c2 HDT
          rw [hfv] at m5
          have hrb := hb.stp s1 hb0
          by_cases hgt : r.a.data.length < A + l.length
          · have HCH : Hid (∀ W2, Below W1.heap.size W1 W2 → Calls Try.prog 49 #[bv] W2 fun e W3 => ∃ q3 k3, e = .returned (.slice q3 l.length k3) ∧ Hid (Calls Try.prog 69 #[.pointer (some ⟨M, 0, none⟩), .int .i64 i, .agg #[.bool false, .int .i64 A, .int .i64 0, .slice q3 l.length k3], .int .i64 ((A : Int) + (l.length : Int))] W3 fun e w' => e = .returned (.int .i64 X.2) ∧ Hid (DocTo w role M X.1 kv lv uv w'))) := fun W2 hb2 => by
              refine (rtwin_any (hrb.later hb2) (by omega)).mono ?_
              rintro e9 W3 ⟨q3, k3, rfl, HO⟩
              refine ⟨q3, k3, rfl, ?_⟩
              obtain ⟨role3, h3, s3, hro⟩ := (h1.still hb2).fresh HO.out
              have hch := rchange_any (c := .inl (A, l)) (d := .slice q3 l.length k3) h3 hc.bump hfew hf.full hs hr hro (show A + l.length ≤ 268435456 by omega) rfl
              have hXv : X = chgA (.inl (A, l)) (bumpA a) r.a := by rw [hX]; exact (on_yes he hfa).trans ((if_neg hl0).trans ((if_neg hl1).trans (by rw [show (A : Int).toNat = A from by omega])))
              rw [← hXv, show (((applyC (.inl (A, l)) r.a.data).length : Nat) : Int) = (A : Int) + (l.length : Int) from by rw [show applyC (.inl (A, l)) r.a.data = applyW A l r.a.data from rfl, length_applyW]; omega] at hch
              refine hch.mono ?_
              rintro e9 w9 ⟨rfl, HT⟩
              exact ⟨rfl, DocTo.step (s1.trans ((DStp.still hb2).trans s3)) HT.out⟩
            subst hbe
            generalize r.a.data.length = ld at *
            generalize hnl : l.length = nl at *
            generalize hnr : rs1.length = nr at *
            generalize r.a.chs.length = nc at *
            generalize r.a.name = nm at *
            have t1 : IntKind.i64.wrap (268435456 - (nl : Int)) = 268435456 - (nl : Int) := by rw [IntKind.wrap_i64]; omega
            have t2 : ¬ 268435456 - (nl : Int) < (A : Int) := by omega
            have t3 : IntKind.i64.wrap ((A : Int) + (nl : Int)) = (A : Int) + (nl : Int) := by rw [IntKind.wrap_i64]; omega
            have t4 : ¬ (A : Int) < 0 := by omega
            have t5 : (ld : Int) < (A : Int) + (nl : Int) := by omega
            clear h1 s1 hfew hfs hc hf hs he hX H1 HG HFR hmem hfa hr hnm hfst hF hW hdat hrb hb hb0
            go_wp2_with fail
            refine HDT.out.mono ?_
            rintro e9 W2 ⟨q2, n2, k2, rfl, rfl, HB2⟩
            have hch2 := HCH.out _ HB2.out
            clear HDT HCH HB2 c0 c1 c2 m5
            go_wp2_with fail
            refine hch2.mono ?_
            rintro e9 W3 ⟨q3, k3, rfl, HC3⟩
            clear hch2
            go_wp2_with fail
            refine HC3.out.mono ?_
            rintro e9 w9 ⟨rfl, HT⟩
            clear HC3
            go_wp2
            go_ret
            exact ⟨rfl, HT⟩
          · have HCH : Hid (∀ W2, Below W1.heap.size W1 W2 → Calls Try.prog 49 #[bv] W2 fun e W3 => ∃ q3 k3, e = .returned (.slice q3 l.length k3) ∧ Hid (Calls Try.prog 69 #[.pointer (some ⟨M, 0, none⟩), .int .i64 i, .agg #[.bool false, .int .i64 A, .int .i64 0, .slice q3 l.length k3], .int .i64 ((r.a.data.length : Int))] W3 fun e w' => e = .returned (.int .i64 X.2) ∧ Hid (DocTo w role M X.1 kv lv uv w'))) := fun W2 hb2 => by
              refine (rtwin_any (hrb.later hb2) (by omega)).mono ?_
              rintro e9 W3 ⟨q3, k3, rfl, HO⟩
              refine ⟨q3, k3, rfl, ?_⟩
              obtain ⟨role3, h3, s3, hro⟩ := (h1.still hb2).fresh HO.out
              have hch := rchange_any (c := .inl (A, l)) (d := .slice q3 l.length k3) h3 hc.bump hfew hf.full hs hr hro (show A + l.length ≤ 268435456 by omega) rfl
              have hXv : X = chgA (.inl (A, l)) (bumpA a) r.a := by rw [hX]; exact (on_yes he hfa).trans ((if_neg hl0).trans ((if_neg hl1).trans (by rw [show (A : Int).toNat = A from by omega])))
              rw [← hXv, show (((applyC (.inl (A, l)) r.a.data).length : Nat) : Int) = (r.a.data.length : Int) from by rw [show applyC (.inl (A, l)) r.a.data = applyW A l r.a.data from rfl, length_applyW]; omega] at hch
              refine hch.mono ?_
              rintro e9 w9 ⟨rfl, HT⟩
              exact ⟨rfl, DocTo.step (s1.trans ((DStp.still hb2).trans s3)) HT.out⟩
            subst hbe
            generalize r.a.data.length = ld at *
            generalize hnl : l.length = nl at *
            generalize hnr : rs1.length = nr at *
            generalize r.a.chs.length = nc at *
            generalize r.a.name = nm at *
            have t1 : IntKind.i64.wrap (268435456 - (nl : Int)) = 268435456 - (nl : Int) := by rw [IntKind.wrap_i64]; omega
            have t2 : ¬ 268435456 - (nl : Int) < (A : Int) := by omega
            have t3 : IntKind.i64.wrap ((A : Int) + (nl : Int)) = (A : Int) + (nl : Int) := by rw [IntKind.wrap_i64]; omega
            have t4 : ¬ (A : Int) < 0 := by omega
            have t5 : ¬ (ld : Int) < (A : Int) + (nl : Int) := by omega
            clear h1 s1 hfew hfs hc hf hs he hX H1 HG HFR hmem hfa hr hnm hfst hF hW hdat hrb hb hb0
            go_wp2_with fail
            refine HDT.out.mono ?_
            rintro e9 W2 ⟨q2, n2, k2, rfl, rfl, HB2⟩
            have hch2 := HCH.out _ HB2.out
            clear HDT HCH HB2 c0 c1 c2 m5
            go_wp2_with fail
            refine hch2.mono ?_
            rintro e9 W3 ⟨q3, k3, rfl, HC3⟩
            clear hch2
            go_wp2_with fail
            refine HC3.out.mono ?_
            rintro e9 w9 ⟨rfl, HT⟩
            clear HC3
            go_wp2
            go_ret
            exact ⟨rfl, HT⟩
  · have hXv : X = beginA a := by rw [hX]; exact on_err he
    have hne : ((beginA a).2 != 0) = true := by simpa using he
    rw [← hXv] at hbg hne
    clear h hc hf hs hX hXv he
    generalize X.2 = y at *
    go_enter Try.func39, Try.ntmps39
    go_wp2_with fail
    refine hbg.mono ?_
    rintro e9 W1 ⟨rfl, HT⟩
    clear hbg
    go_wp2
    go_ret
    exact ⟨rfl, HT⟩

end Go.Proofs.Ytcceaokldphfgaa
