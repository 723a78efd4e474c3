/- YtcceaokldphfgaaDiskDoesC35 -/
import Derived.Test.YtcceaokldphfgaaDiskDoesC34
namespace Go.Proofs.Ytcceaokldphfgaa
open Go.RowKit Go.Shelf

/-- The document's disk comes to this. -/
def DocTo (w : World) (role : DRole) (M : Nat) (a : ASt) (kv lv uv : Value) (w' : World) : Prop := ∃ role' rs' fv', DocOK w' role' M a rs' fv' kv lv uv ∧ DStp role role' w w'

/-- Where Die is, within a file. -/
structure DI (W : World) (L : List UInt8) (v : Value) (wr : World) : Prop where
  own : wr.ownsRow W.heap.size 5 1 v L.length (L.map byteV)
  below : Below W.heap.size W wr

def nextV (keep : List Int) (n : Nat) : Int := if keep.length = 0 then 0 else n

/-- The disk when k of its files have died. -/
def DieK (w : World) (role : DRole) (M : Nat) (a : ASt) (fv kv lv uv : Value) (k : Nat) (wr : World) : Prop :=
  ∃ role' rs', DocOK wr role' M { a with fs := dieF a.keep a.fs k } rs' fv kv lv uv ∧ DStp role role' w wr ∧ rs'.length = a.fs.length ∧ FewD rs'

theorem DI.apply {W wr : World} {L : List UInt8} {v d : Value} {c : Chg} {b : Bool} {at_ long : Int} (h : DI W L v wr) (hL : L.length ≤ 268435456) (hd : Rd wr d (chgL c)) (hc : ChgMay c) (h4 : chgC c d = [.bool b, .int .i64 at_, .int .i64 long, d]) {W2 : World} (hb : Below wr.heap.size wr W2) :
    Calls Try.prog 72 #[v, .agg #[.bool b, .int .i64 at_, .int .i64 long, d]] W2 fun e w' => ∃ q n k, e = .returned (.slice q n k) ∧ Hid (DI W (applyC c L) (.slice q n k) w') := by
  have h1 := rapply_any (c := c) ((own_rdN h.own).later hb) hL (hd.later hb) hc
  rw [h4] at h1
  refine h1.mono ?_
  rintro r w' ⟨q, n, k, rfl, HO⟩
  have hz := h.below.size
  have hz2 := hb.size
  have h2 : Below wr.heap.size wr w' := hb.trans (HO.out.1.2.mono hz2)
  exact ⟨q, n, k, rfl, row_to HO.out.1.1 (by omega) (fun _ _ _ => rfl), h.below.trans (h2.mono hz)⟩

theorem DI.still {W wr wr' : World} {L : List UInt8} {v : Value} (h : DI W L v wr) (hb : Below wr.heap.size wr wr') : DI W L v wr' :=
  ⟨own_keep h.own (fun k e => hb.block k (h.own.lt k e).2), h.below.trans (hb.mono h.below.size)⟩

theorem sv9_neg {at_ : Nat} {l xs : List UInt8} {k : Int} (h : k < 0) : surviveC (.inl (at_, l)) k xs = applyC (.inl (at_, l)) xs := if_pos h

theorem sv9_none {at_ : Nat} {l xs : List UInt8} {k : Int} (h : ¬ k < 0) (h2 : k % ((l.length : Int) + 1) = 0) : surviveC (.inl (at_, l)) k xs = xs := (if_neg h).trans (if_pos h2)

theorem sv9_some {at_ m : Nat} {l xs : List UInt8} {k : Int} (h : ¬ k < 0) (h2 : k % ((l.length : Int) + 1) = m) (h3 : m ≠ 0) : surviveC (.inl (at_, l)) k xs = applyC (.inl (at_, l.take m)) xs := by
  refine (if_neg h).trans ((if_neg (by omega)).trans ?_)
  rw [h2]
  rfl

theorem sv9_cut {lg : Nat} {xs : List UInt8} {k : Int} (h : k < 0 ∨ k % 2 = 1) : surviveC (.inr lg) k xs = applyC (.inr lg) xs := if_pos h

theorem sv9_cut0 {lg : Nat} {xs : List UInt8} {k : Int} (h : ¬ (k < 0 ∨ k % 2 = 1)) : surviveC (.inr lg) k xs = xs := if_neg h

set_option maxHeartbeats 4000000 in
set_option maxRecDepth 100000 in
theorem rdie_any {w : World} {role : DRole} {M : Nat} {a : ASt} {rs : List DRep} {fv kv lv uv : Value} (h : DocOK w role M a rs fv kv lv uv) (hf : FewD rs) (hkl : a.keep.length ≤ 140737488355328) :
    Calls Try.prog 71 #[.pointer (some ⟨M, 0, none⟩)] w fun e w' => e = .returned (.tuple #[]) ∧ Hid (DocTo w role M { a with fs := dieAll a.keep 0 a.fs, dead := true } kv lv uv w') := by
  have m5 : w.cell? ⟨M, 5, none⟩ = some fv := blk_cell h.str rfl
  have hlen : rs.length = a.fs.length := by rw [h.fs, List.length_map]
  obtain ⟨qf, cf, ef⟩ := h.fvS
  have HD0 : Hid (DieK w role M a fv kv lv uv 0 w) := ⟨role, rs, by rw [dieF_zero]; exact h, .refl, hlen, hf⟩
  have HFW : Hid (∀ f ∈ a.fs, f.chs.length ≤ 1000) := fun f hfm => by
    rw [h.fs] at hfm
    obtain ⟨r, hr, rfl⟩ := List.mem_map.1 hfm
    exact hf.2 r hr
  have hl1 := hf.1
  obtain ⟨qk, nk, ck, ek⟩ := h.kK.shape
  have hnk : nk = a.keep.length := by
    obtain ⟨x, y, e, _⟩ := own_slice h.kK.1
    rw [ek] at e
    cases e
    rfl
  have HIK := hideP h.kK.2.2
  generalize hnl : rs.length = nl at *
  subst ef ek hnk
  have HKL := hideP hkl
  have hlen' := hideP hlen
  clear h hf hnl hlen hkl
  go_enter Try.func71, Try.ntmps71
  go_wp2
  clear m5
  go_loopw [14, 2] (fun i s wr => ∃ k : Nat, k ≤ nl ∧ i = .int .i64 k ∧ s = .int .i64 (nextV a.keep (nxF a.fs k)) ∧ Hid (DieK w role M a (.slice qf nl cf) (.slice qk a.keep.length ck) lv uv k wr)) (fun i _ _ => nl - (intOf i).toNat)
  case atStart => exact ⟨0, Nat.zero_le _, rfl, by unfold nextV nxF; simp, HD0⟩
  case round =>
    clear HD0
    obtain ⟨k, hk, rfl, rfl, HDK⟩ := hrel
    obtain ⟨W, hWe⟩ : ∃ W, W = wr := ⟨_, rfl⟩
    subst hWe
    by_cases hkl : k < nl
    · have hkl' : (k : Int) < (nl : Int) := by omega
      have hkL : k < a.fs.length := by rw [← hlen'.out]; exact hkl
      obtain ⟨role1, rs1, hD, hS1, hL1, hF1⟩ := HDK.out
      have hget : rs1[k]?.map (·.a) = some a.fs[k] := by
        have := dieF_get (keep := a.keep) hkL
        rw [show dieF a.keep a.fs k = rs1.map (·.a) from hD.fs] at this
        rwa [List.getElem?_map] at this
      obtain ⟨r, hr, hra⟩ : ∃ r, rs1[k]? = some r ∧ r.a = a.fs[k] := by
        cases e : rs1[k]? with
        | none => rw [e] at hget; simp at hget
        | some r => rw [e] at hget; exact ⟨r, rfl, by simpa using hget⟩
      have hmem := List.mem_of_getElem? hr
      have hF := hD.files r hmem
      obtain ⟨g, cap, hfv, hcap, hgz, hg2, c0, c1, c2, hfr⟩ := hD.file hr
      have e1 : qf = some ⟨g, 0, none⟩ := by
        simp only [Value.slice.injEq] at hfv
        exact hfv.1
      subst e1
      have hrl : rs1.length = nl := by rw [hL1, ← hlen'.out]
      have m5 : W.cell? ⟨M, 5, none⟩ = some (.slice (some ⟨g, 0, none⟩) nl cf) := blk_cell (o := 5) hD.str rfl
      have htw := rtwin_any (own_rdN hF.safe.1) (by have := hF.len; omega)
      obtain ⟨x1, x2, x3, ex⟩ : ∃ q n c, r.sv = .slice q n c := by
        obtain ⟨q, c, e, _⟩ := own_slice hF.safe.1
        exact ⟨_, _, _, e⟩
      obtain ⟨y1, y2, ey, hcr⟩ := id hF.crow
      have HTW : Hid (Calls Try.prog 49 #[r.sv] W fun e w' => ∃ q n c, e = .returned (.slice q n c) ∧ Hid (DI W (survAll a.keep (nxF a.fs k) (r.a.chs.take 0) r.a.safe) (.slice q n c) w')) := by
        refine htw.mono ?_
        rintro e w' ⟨q, c, rfl, HO⟩
        exact ⟨q, _, c, rfl, HO.out.1, HO.out.2⟩
      have HCR := hideP hF.crow
      have HSL : Hid (∀ j, (survAll a.keep (nxF a.fs k) (r.a.chs.take j) r.a.safe).length ≤ 268435456) := fun j => survAll_len (fun c hc => hF.may c (List.mem_of_mem_take hc)) hF.len
      have hnc1 : r.a.chs.length ≤ 1000 := hF1.2 r hmem
      have hnx : nxF a.fs k ≤ 1000000 := by
        have := nxF_le HFW.out k (by omega)
        omega
      have m1 : W.cell? ⟨M, 1, none⟩ = some (.slice qk a.keep.length ck) := blk_cell (o := 1) hD.str rfl
      have hMz : M < W.heap.size := hD.dom M (by rw [hD.roleM]; omega)
      have HKR : Hid (∀ wr, Below W.heap.size W wr → wr.cell? ⟨M, 1, none⟩ = some (.slice qk a.keep.length ck) ∧ M < wr.heap.size ∧ ∀ i (hi : i < a.keep.length), ∃ b o, qk = some ⟨b, o, none⟩ ∧ b < wr.heap.size ∧ wr.cell? ⟨b, o + i, none⟩ = some (.int .i64 a.keep[i])) := fun wr hb => by
        refine ⟨(hb.cell (p := ⟨M, 1, none⟩) hMz).trans m1, Nat.lt_of_lt_of_le hMz hb.size, fun i hi => ?_⟩
        rcases RdI.of_own hD.kK.1 with ⟨_, e0⟩ | ⟨b, o, c, e, hlt, hrd⟩
        · have e0' : a.keep = [] := e0
          rw [e0'] at hi
          simp at hi
        · simp only [Value.slice.injEq] at e
          refine ⟨b, o, e.1, Nat.lt_of_lt_of_le hlt hb.size, (hb.cell (p := ⟨b, o + i, none⟩) hlt).trans (hrd i _ (List.getElem?_eq_getElem hi))⟩
      have HD1 : Hid (DocOK W role1 M { a with fs := dieF a.keep a.fs k } rs1 (.slice (some ⟨g, 0, none⟩) nl cf) (.slice qk a.keep.length ck) lv uv ∧ DStp role role1 w W ∧ rs1.length = a.fs.length ∧ FewD rs1 ∧ rs1[k]? = some r ∧ r.a = a.fs[k]) := ⟨hD, hS1, hL1, hF1, hr, hra⟩
      have HG : Hid (g < W.heap.size ∧ role1 g = 2) := ⟨hgz, hg2⟩
      generalize hnc : r.a.chs.length = nc at ey hnc1
      have HNC := hideP hnc
      have HEX := hideP ex
      have HEY := hideP ey
      rw [ex] at c1 HTW
      rw [ey] at c2
      have HFR := hideP hfr
      have HMZ := hideP hMz
      clear hD hS1 hL1 hF1 hget hr hra hmem hF hfv htw hcr hMz m1 hnc hfr hgz hg2 c0
      go_wp2_with fail
      refine HTW.out.mono ?_
      rintro e9 W1 ⟨q0, n0, c0', rfl, HA⟩
      clear HTW m5 c1
      have c2' : W1.cell? ⟨g, k * 3 + 2, none⟩ = some (.slice y1 nc y2) := (HA.out.below.cell (p := ⟨g, k * 3 + 2, none⟩) HG.out.1).trans c2
      clear c2
      go_wp2
      clear c2'
      go_loopw [5, 33, 2] (fun sv i nx wr => ∃ (j : Nat) (q : Option Addr) (n c : Nat), j ≤ nc ∧ i = .int .i64 j ∧ sv = .slice q n c ∧ nx = .int .i64 (nextV a.keep (nxF a.fs k + j)) ∧ Hid (DI W (survAll a.keep (nxF a.fs k) (r.a.chs.take j) r.a.safe) (.slice q n c) wr)) (fun _ i _ _ => nc - (intOf i).toNat)
      case atStart => exact ⟨0, q0, n0, c0', Nat.zero_le _, rfl, rfl, rfl, HA⟩
      case round =>
        clear HA
        obtain ⟨j, q, n, c, hj, rfl, rfl, rfl, HA⟩ := hrel
        by_cases hjn : j < nc
        · have hjn' : (j : Int) < (nc : Int) := by omega
          have hjc : j < r.a.chs.length := by rw [HNC.out]; exact hjn
          obtain ⟨ac, kc, e1, hrd⟩ := HCR.out
          rw [HEY.out, HNC.out] at e1
          simp only [Value.slice.injEq] at e1
          obtain ⟨e1, _, e3⟩ := e1
          subst e1 e3
          obtain ⟨hm, b, off, d, e2, hb, h4, hd⟩ := hrd j r.a.chs[j] (List.getElem?_eq_getElem hjc)
          subst e2
          obtain ⟨cu, at_, long, hfour⟩ := chgC_four r.a.chs[j] d
          rw [hfour] at h4
          have hbr := HA.out.below
          have hcell : ∀ i u, [Value.bool cu, .int .i64 at_, .int .i64 long, d][i]? = some u → wr.cell? ⟨b, off + j * 4 + i, none⟩ = some u := fun i u hu => (hbr.cell (p := ⟨b, _, none⟩) hb).trans (h4 i u hu)
          have c0 := hcell 0 _ rfl
          have c1 := hcell 1 _ rfl
          have c2 := hcell 2 _ rfl
          have c3 := hcell 3 _ rfl
          simp only [Nat.add_zero] at c0
          have hd' := hd.later hbr
          obtain ⟨k1, k2, k3⟩ := HKR.out wr hbr
          obtain ⟨da, dk, hde, hdk, hdr⟩ := id hd
          generalize hnd : (chgL r.a.chs[j]).length = nd at hde hdk
          subst hde
          have HND : Hid (nd ≤ 268435456) := by rw [← hnd]; exact chgL_len hm
          have HDO : Hid (∀ W2, Below wr.heap.size wr W2 → Calls Try.prog 72 #[.slice q n c, .agg #[.bool cu, .int .i64 at_, .int .i64 long, .slice da nd dk]] W2 fun e w' => ∃ q' n' k', e = .returned (.slice q' n' k') ∧ Hid (DI W (applyC r.a.chs[j] (survAll a.keep (nxF a.fs k) (r.a.chs.take j) r.a.safe)) (.slice q' n' k') w')) := fun W2 hb2 => HA.out.apply (HSL.out j) hd' hm hfour hb2
          have HGO : Hid (∀ L v w', surviveC r.a.chs[j] (keepAt a.keep (nxF a.fs k + j)) (survAll a.keep (nxF a.fs k) (r.a.chs.take j) r.a.safe) = L → DI W L v w' → DI W (survAll a.keep (nxF a.fs k) (r.a.chs.take (j + 1)) r.a.safe) v w') := fun L v w' e hdi => by
            rw [List.take_succ_eq_append_getElem hjc, survAll_snoc, List.length_take, show min j r.a.chs.length = j by omega, e]
            exact hdi
          have HCT : Hid (cu = true → ∃ lg0 : Nat, long = lg0 ∧ r.a.chs[j] = .inr lg0) := fun e => by
            subst e
            revert hfour
            cases r.a.chs[j] with
            | inl p => intro h9; cases h9
            | inr lg => intro h9; simp only [chgC, List.cons.injEq, Value.int.injEq, true_and] at h9; exact ⟨lg, h9.2.1.symm, rfl⟩
          have HCF : Hid (cu = false → ∃ (at0 : Nat) (l0 : List UInt8), at_ = at0 ∧ long = 0 ∧ r.a.chs[j] = .inl (at0, l0) ∧ l0.length = nd) := fun e => by
            subst e
            revert hfour hnd
            cases r.a.chs[j] with
            | inl p => intro hnd h9; simp only [chgC, List.cons.injEq, Value.int.injEq, true_and] at h9; exact ⟨p.1, p.2, h9.1.symm, h9.2.1.symm, rfl, hnd⟩
            | inr lg => intro hnd h9; cases h9
          have HDP : Hid (∀ (m : Nat), m ≤ nd → ∀ (at0 : Nat) (l0 : List UInt8), r.a.chs[j] = .inl (at0, l0) → ∀ W2, Below wr.heap.size wr W2 → Calls Try.prog 72 #[.slice q n c, .agg #[.bool false, .int .i64 at0, .int .i64 0, .slice da m dk]] W2 fun e w' => ∃ q' n' k', e = .returned (.slice q' n' k') ∧ Hid (DI W (applyC (.inl (at0, l0.take m)) (survAll a.keep (nxF a.fs k) (r.a.chs.take j) r.a.safe)) (.slice q' n' k') w')) := fun m hmn at0 l0 he W2 hb2 => by
            have hl0 : l0.length = nd := by rw [← hnd, he]; rfl
            rw [he] at hd' hm
            have hm' : at0 + l0.length ≤ 268435456 := hm
            refine HA.out.apply (c := .inl (at0, l0.take m)) (HSL.out j) ?_ (by show at0 + (l0.take m).length ≤ _; rw [List.length_take]; omega) rfl hb2
            obtain ⟨a9, c9, e9, h9, hr9⟩ := hd'
            have e9' : Value.slice da nd dk = .slice a9 l0.length c9 := e9
            simp only [Value.slice.injEq] at e9'
            obtain ⟨rfl, _, rfl⟩ := e9'
            refine ⟨da, dk, by show Value.slice da m dk = .slice da (l0.take m).length dk; rw [List.length_take, show min m l0.length = m by omega], by show (l0.take m).length ≤ dk; rw [List.length_take]; omega, fun i x hx => hr9 i x ?_⟩
            replace hx : (l0.take m)[i]? = some x := hx
            show l0[i]? = some x
            rw [List.getElem?_take] at hx
            split at hx
            · exact hx
            · cases hx
          have t2 : IntKind.i64.wrap ((j : Int) + 1) = (j : Int) + 1 := by rw [IntKind.wrap_i64]; omega
          clear hrd h4 hm hcell hd hd' hdr hbr hb
          by_cases hk0 : a.keep.length = 0
          · have hK : keepAt a.keep (nxF a.fs k + j) = 0 := by unfold keepAt; rw [if_pos hk0]
            rw [hK] at HGO
            have hnv : nextV a.keep (nxF a.fs k + j) = 0 := by unfold nextV; rw [if_pos hk0]
            rw [hk0] at k1
            rw [hnv]
            cases cu with
            | true =>
              obtain ⟨lg0, hlg0, hcl⟩ := HCT.out rfl
              subst hlg0
              have HX : Hid (∀ w9, Below wr.heap.size wr w9 → DI W (survAll a.keep (nxF a.fs k) (r.a.chs.take (j + 1)) r.a.safe) (.slice q n c) w9) := fun w9 hb => HGO.out _ _ _ (by rw [hcl]; exact sv9_cut0 (by omega)) (HA.out.still hb)
              clear HA HGO HDO HDP HCT HCF
              go_wp2
              exact ⟨⟨j + 1, q, n, c, by omega, by go_num, rfl, (by unfold nextV; rw [if_pos hk0]), HX.out _ (by repeat first | exact (Below.refl _ wr).alloc (Nat.le_refl _) _ | refine below_drewN ?_ _ | refine Below.drew ?_ | refine Below.setCell (p := ⟨wr.heap.size, 3, none⟩) ?_ (Nat.le_refl _) _)⟩, by simp [intOf]; omega⟩
            | false =>
              obtain ⟨at0, l0, hat0, hlg, hcl, hl0⟩ := HCF.out rfl
              subst hat0 hlg
              have s1 : IntKind.i64.wrap ((nd : Int) + 1) = (nd : Int) + 1 := by rw [IntKind.wrap_i64]; have := HND.out; omega
              have s2 : ((nd : Int) + 1 == 0) = false := by simp; omega
              have s3 : (0 : Int) % ((nd : Int) + 1) = 0 := by simp
              have HX : Hid (∀ w9, Below wr.heap.size wr w9 → DI W (survAll a.keep (nxF a.fs k) (r.a.chs.take (j + 1)) r.a.safe) (.slice q n c) w9) := fun w9 hb => HGO.out _ _ _ (by rw [hcl]; exact sv9_none (by omega) (Int.zero_emod _)) (HA.out.still hb)
              clear HA HGO HDO HDP HCT HCF
              go_wp2
              go_region
              go_wp2
              exact ⟨⟨j + 1, q, n, c, by omega, by go_num, rfl, (by unfold nextV; rw [if_pos hk0]), HX.out _ (by repeat first | exact (Below.refl _ wr).alloc (Nat.le_refl _) _ | refine below_drewN ?_ _ | refine Below.drew ?_ | refine Below.setCell (p := ⟨wr.heap.size, 3, none⟩) ?_ (Nat.le_refl _) _)⟩, by simp [intOf]; omega⟩
          · obtain ⟨b9, o9, eq9, hb9, hx9⟩ := k3 ((nxF a.fs k + j) % a.keep.length) (Nat.mod_lt _ (by omega))
            subst eq9
            have hK : keepAt a.keep (nxF a.fs k + j) = a.keep[(nxF a.fs k + j) % a.keep.length]'(Nat.mod_lt _ (by omega)) := by
              unfold keepAt; rw [if_neg hk0, List.getElem?_eq_getElem (Nat.mod_lt _ (by omega))]; rfl
            obtain ⟨kk, hkk⟩ : ∃ kk, kk = keepAt a.keep (nxF a.fs k + j) := ⟨_, rfl⟩
            have hI : I64 kk := by rw [hkk]; exact keepAt_I64 HIK.out _
            rw [← hK, ← hkk] at hx9
            rw [← hkk] at HGO
            have hnv : nextV a.keep (nxF a.fs k + j) = ((nxF a.fs k + j : Nat) : Int) := by unfold nextV; rw [if_neg hk0]
            rw [hnv]
            have hkl9 := HKL.out
            clear hK hkk hnv k3
            obtain ⟨nk, hnk⟩ : ∃ nk, nk = a.keep.length := ⟨_, rfl⟩
            have HNK := hideP hnk
            rw [← hnk] at k1 hx9 hkl9
            have hk1 : nk ≠ 0 := by omega
            obtain ⟨N, hN⟩ : ∃ N, N = nxF a.fs k + j := ⟨_, rfl⟩
            have HN := hideP hN
            rw [← hN] at hx9 ⊢
            have hNb : N ≤ 2000000 := by omega
            have hb0 : ((nk : Int) == 0) = false := by simp; omega
            have hm1 := Int.emod_nonneg (N : Int) (show (nk : Int) ≠ 0 by omega)
            have hm2 := Int.emod_lt_of_pos (N : Int) (show (0 : Int) < (nk : Int) by omega)
            have hpos : (0 : Int) < (nk : Int) := by omega
            have t3 : IntKind.i64.wrap ((N : Int) + 1) = (N : Int) + 1 := by rw [IntKind.wrap_i64]; omega
            obtain ⟨hI1, hI2⟩ := hI
            clear hnk hN
            go_wp2_with fail
            go_quiet (fail)
            cases cu with
            | true =>
              obtain ⟨lg0, hlg0, hcl⟩ := HCT.out rfl
              subst hlg0
              by_cases hn0 : kk < 0
              · have HX : Hid (∀ q' n' c' w9, DI W (applyC r.a.chs[j] (survAll a.keep (nxF a.fs k) (r.a.chs.take j) r.a.safe)) (.slice q' n' c') w9 → DI W (survAll a.keep (nxF a.fs k) (r.a.chs.take (j + 1)) r.a.safe) (.slice q' n' c') w9) := fun q' n' c' w9 hd9 => HGO.out _ _ _ (by rw [hcl]; exact sv9_cut (.inl hn0)) hd9
                have HDO9 := hideP HDO.out
                clear HA HGO HDO HDP HCT HCF
                go_wp2_with fail
                refine (HDO9.out _ (by repeat first | exact (Below.refl _ wr).alloc (Nat.le_refl _) _ | refine below_drewN ?_ _ | refine Below.drew ?_ | refine Below.setCell (p := ⟨wr.heap.size, 3, none⟩) ?_ (Nat.le_refl _) _)).mono ?_
                rintro e9 w9 ⟨q9, n9, c9, rfl, HB9⟩
                have HB9' := hideP (HX.out _ _ _ _ HB9.out)
                clear HDO9 HX HB9
                go_wp2
                go_roundw
                case rel => exact ⟨j + 1, q9, n9, c9, by omega, by go_num, rfl, (by have := HN.out; unfold nextV; rw [if_neg hk0]; congr 1; omega), HB9'⟩
                case measure => simp [intOf]; omega
              · by_cases hodd : kk % 2 = 1
                · have q2 : (kk % 2 == 1) = true := by simpa using hodd
                  have q3 : 0 ≤ kk := by omega
                  have HX : Hid (∀ q' n' c' w9, DI W (applyC r.a.chs[j] (survAll a.keep (nxF a.fs k) (r.a.chs.take j) r.a.safe)) (.slice q' n' c') w9 → DI W (survAll a.keep (nxF a.fs k) (r.a.chs.take (j + 1)) r.a.safe) (.slice q' n' c') w9) := fun q' n' c' w9 hd9 => HGO.out _ _ _ (by rw [hcl]; exact sv9_cut (.inr hodd)) hd9
                  have HDO9 := hideP HDO.out
                  clear HA HGO HDO HDP HCT HCF
                  go_wp2_with fail
                  refine (HDO9.out _ (by repeat first | exact (Below.refl _ wr).alloc (Nat.le_refl _) _ | refine below_drewN ?_ _ | refine Below.drew ?_ | refine Below.setCell (p := ⟨wr.heap.size, 3, none⟩) ?_ (Nat.le_refl _) _)).mono ?_
                  rintro e9 w9 ⟨q9, n9, c9, rfl, HB9⟩
                  have HB9' := hideP (HX.out _ _ _ _ HB9.out)
                  clear HDO9 HX HB9
                  go_wp2
                  go_roundw
                  case rel => exact ⟨j + 1, q9, n9, c9, by omega, by go_num, rfl, (by have := HN.out; unfold nextV; rw [if_neg hk0]; congr 1; omega), HB9'⟩
                  case measure => simp [intOf]; omega
                · have q2 : (kk % 2 == 1) = false := by simpa using hodd
                  have q3 : 0 ≤ kk := by omega
                  have HX : Hid (∀ w9, Below wr.heap.size wr w9 → DI W (survAll a.keep (nxF a.fs k) (r.a.chs.take (j + 1)) r.a.safe) (.slice q n c) w9) := fun w9 hb => HGO.out _ _ _ (by rw [hcl]; exact sv9_cut0 (by omega)) (HA.out.still hb)
                  clear HA HGO HDO HDP HCT HCF
                  go_wp2
                  exact ⟨⟨j + 1, q, n, c, by omega, by go_num, rfl, (by have := HN.out; unfold nextV; rw [if_neg hk0]; congr 1; omega), HX.out _ (by repeat first | exact (Below.refl _ wr).alloc (Nat.le_refl _) _ | refine below_drewN ?_ _ | refine Below.drew ?_ | refine Below.setCell (p := ⟨wr.heap.size, 3, none⟩) ?_ (Nat.le_refl _) _)⟩, by simp [intOf]; omega⟩
            | false =>
              obtain ⟨at0, l0, hat0, hlg, hcl, hl0⟩ := HCF.out rfl
              subst hat0 hlg
              by_cases hn0 : kk < 0
              · have q0 : ¬ 0 ≤ kk := by omega
                have HX : Hid (∀ q' n' c' w9, DI W (applyC r.a.chs[j] (survAll a.keep (nxF a.fs k) (r.a.chs.take j) r.a.safe)) (.slice q' n' c') w9 → DI W (survAll a.keep (nxF a.fs k) (r.a.chs.take (j + 1)) r.a.safe) (.slice q' n' c') w9) := fun q' n' c' w9 hd9 => HGO.out _ _ _ (by rw [hcl]; exact sv9_neg hn0) hd9
                have HDO9 := hideP HDO.out
                clear HA HGO HDO HDP HCT HCF
                go_wp2_with fail
                refine (HDO9.out _ (by repeat first | exact (Below.refl _ wr).alloc (Nat.le_refl _) _ | refine below_drewN ?_ _ | refine Below.drew ?_ | refine Below.setCell (p := ⟨wr.heap.size, 3, none⟩) ?_ (Nat.le_refl _) _)).mono ?_
                rintro e9 w9 ⟨q9, n9, c9, rfl, HB9⟩
                have HB9' := hideP (HX.out _ _ _ _ HB9.out)
                clear HDO9 HX HB9
                go_wp2
                go_roundw
                case rel => exact ⟨j + 1, q9, n9, c9, by omega, by go_num, rfl, (by have := HN.out; unfold nextV; rw [if_neg hk0]; congr 1; omega), HB9'⟩
                case measure => simp [intOf]; omega
              · have q0 : 0 ≤ kk := by omega
                have s1 : IntKind.i64.wrap ((nd : Int) + 1) = (nd : Int) + 1 := by rw [IntKind.wrap_i64]; have := HND.out; omega
                have s2 : ((nd : Int) + 1 == 0) = false := by simp; omega
                have hge := Int.emod_nonneg kk (show ((nd : Int) + 1) ≠ 0 by omega)
                have hlt := Int.emod_lt_of_pos kk (show (0 : Int) < (nd : Int) + 1 by omega)
                obtain ⟨m, hm⟩ : ∃ m : Nat, kk % ((nd : Int) + 1) = (m : Int) := ⟨(kk % ((nd : Int) + 1)).toNat, by omega⟩
                have hmn : m ≤ nd := by omega
                have hmk : m ≤ dk := by omega
                clear hge hlt
                by_cases hm0 : m = 0
                · have hm9 : kk % ((nd : Int) + 1) = 0 := by rw [hm, hm0]; rfl
                  clear hm hmn hmk hm0
                  have HX : Hid (∀ w9, Below wr.heap.size wr w9 → DI W (survAll a.keep (nxF a.fs k) (r.a.chs.take (j + 1)) r.a.safe) (.slice q n c) w9) := fun w9 hb => HGO.out _ _ _ (by rw [hcl]; exact sv9_none hn0 (by rw [hl0]; exact hm9)) (HA.out.still hb)
                  clear HA HGO HDO HDP HCT HCF
                  go_wp2
                  go_region
                  go_wp2
                  exact ⟨⟨j + 1, q, n, c, by omega, by go_num, rfl, (by have := HN.out; unfold nextV; rw [if_neg hk0]; congr 1; omega), HX.out _ (by repeat first | exact (Below.refl _ wr).alloc (Nat.le_refl _) _ | refine below_drewN ?_ _ | refine Below.drew ?_ | refine Below.setCell (p := ⟨wr.heap.size, 3, none⟩) ?_ (Nat.le_refl _) _)⟩, by simp [intOf]; omega⟩
                · have hmz : ((m : Int) == 0) = false := by simp; omega
                  have HX : Hid (∀ q' n' c' w9, DI W (applyC (.inl (at0, l0.take m)) (survAll a.keep (nxF a.fs k) (r.a.chs.take j) r.a.safe)) (.slice q' n' c') w9 → DI W (survAll a.keep (nxF a.fs k) (r.a.chs.take (j + 1)) r.a.safe) (.slice q' n' c') w9) := fun q' n' c' w9 hd9 => HGO.out _ _ _ (by rw [hcl]; exact sv9_some hn0 (by rw [hl0]; exact hm) hm0) hd9
                  have HDO9 := hideP (HDP.out m hmn at0 l0 hcl)
                  clear HA HGO HDO HDP HCT HCF
                  go_wp2_with fail
                  go_region
                  go_wp2_with fail
                  refine (HDO9.out _ (by repeat first | exact (Below.refl _ wr).alloc (Nat.le_refl _) _ | refine below_drewN ?_ _ | refine Below.drew ?_ | refine Below.setCell (p := ⟨wr.heap.size, 3, none⟩) ?_ (Nat.le_refl _) _)).mono ?_
                  rintro e9 w9 ⟨q9, n9, c9, rfl, HB9⟩
                  have HB9' := hideP (HX.out _ _ _ _ HB9.out)
                  clear HDO9 HX HB9
                  go_wp2
                  go_roundw
                  case rel => exact ⟨j + 1, q9, n9, c9, by omega, by go_num, rfl, (by have := HN.out; unfold nextV; rw [if_neg hk0]; congr 1; omega), HB9'⟩
                  case measure => simp [intOf]; omega
        · have hjn' : ¬ (j : Int) < (nc : Int) := by omega
          have hjc : j = nc := by omega
          subst hjc
          obtain ⟨hD, hS1, hL1, hF1, hr, hra⟩ := HD1.out
          have hDr := hD.still HA.out.below
          have hgz := HG.out.1
          have hzw := HA.out.below.size
          have hkL : k < a.fs.length := by rw [← hlen'.out]; exact hkl
          have hown := HA.out.own
          rw [show r.a.chs.take j = r.a.chs from by rw [← HNC.out, List.take_length]] at hown
          have hv0 : ∀ k9, (Value.slice q n c).ownBlock = some k9 → role1 k9 = 0 := fun k9 e9 => by
            by_cases hx : role1 k9 = 0
            · exact hx
            · have h1 := hD.dom k9 hx
              have h2 := (hown.lt k9 e9).1
              omega
          have hsl := HSL.out j
          rw [show r.a.chs.take j = r.a.chs from by rw [← HNC.out, List.take_length]] at hsl
          obtain ⟨role2, g1, g2, g3⟩ := DocOK.lay (f' := dieA a.keep (nxF a.fs k) a.fs[k]) hDr hr (own_zero hown) hv0 hsl (by rw [hra]; rfl) (by rw [hra]; rfl) rfl (g := g) (cap := cf) (by rw [hL1, ← hlen'.out])
          have hset : ∀ (L : List AFile), L.set k (dieA a.keep (nxF a.fs k) a.fs[k]) = L.set k (dieA a.keep (nxF a.fs k) a.fs[k]) := fun _ => rfl
          have HFIN : Hid (DieK w role M a (.slice (some ⟨g, 0, none⟩) nl cf) (.slice qk a.keep.length ck) lv uv (k + 1) ((wr.setCell ⟨g, k * 3 + 1, none⟩ (.slice q n c)).setCell ⟨g, k * 3 + 2, none⟩ (.slice none 0 0))) := by
            refine ⟨role2, rs1.set k { a := dieA a.keep (nxF a.fs k) a.fs[k], sv := .slice q n c, cv := .slice none 0 0, ds := [] }, ?_, ?_, ?_, ?_⟩
            rotate_left
            · refine hS1.trans ⟨HA.out.below.os, HA.out.below.tape, HA.out.below.output, ?_, fun k9 hk9 => ?_, fun k9 hk9 hr9 => ?_⟩
              · simp [World.setCell]; omega
              · rcases g2 k9 with e | e
                · exact e
                · have := (hown.lt k9 e).1; omega
              · exact (g3 k9 (by omega)).trans (HA.out.below.block k9 hk9)
            · rw [List.length_set]; exact hL1
            · refine ⟨by rw [List.length_set]; exact hF1.1, fun r2 hr2 => ?_⟩
              rcases List.mem_or_eq_of_mem_set hr2 with h9 | h9
              · exact hF1.2 r2 h9
              · rw [h9]; show ([] : List Chg).length ≤ 1000; simp
            · have e9 : ({ a with fs := dieF a.keep a.fs (k + 1) } : ASt) = { ({ a with fs := dieF a.keep a.fs k } : ASt) with fs := (dieF a.keep a.fs k).set k (dieA a.keep (nxF a.fs k) a.fs[k]) } := by rw [dieF_set hkL]
              rw [e9]
              exact g1
          have d1 : wr.cell? ⟨g, k * 3 + 1, none⟩ = some (.slice x1 x2 x3) := by
            obtain ⟨g', cap', e9, _, _, _, _, d1, d2, _⟩ := hDr.file hr
            simp only [Value.slice.injEq, Option.some.injEq, Addr.mk.injEq] at e9
            rw [← e9.1.1, HEX.out] at d1
            exact d1
          have d2 : wr.cell? ⟨g, k * 3 + 2, none⟩ = some (.slice y1 j y2) := by
            obtain ⟨g', cap', e9, _, _, _, _, d1, d2, _⟩ := hDr.file hr
            simp only [Value.slice.injEq, Option.some.injEq, Addr.mk.injEq] at e9
            rw [← e9.1.1, HEY.out] at d2
            exact d2
          have hfz : ∀ o, wr.frozen? ⟨g, o, none⟩ = false := by
            obtain ⟨g', cap', e9, _, _, _, _, d1, d2, hfz⟩ := hDr.file hr
            simp only [Value.slice.injEq, Option.some.injEq, Addr.mk.injEq] at e9
            rw [← e9.1.1] at hfz
            exact hfz
          have f1 := hfz (k * 3 + 1)
          have f2 := hfz (k * 3 + 2)
          have hnxs : nxF a.fs (k + 1) = nxF a.fs k + j := by rw [nxF_succ hkL, ← hra, HNC.out]
          have t2 : IntKind.i64.wrap ((k : Int) + 1) = (k : Int) + 1 := by rw [IntKind.wrap_i64]; omega
          clear hD hS1 hL1 hF1 hr hra hDr hgz hown hv0 hsl g1 g2 g3 hset hfz HA HD1 hzw
          go_wp2
          exact ⟨⟨k + 1, by omega, by go_num, by rw [hnxs], HFIN⟩, by simp [intOf]; omega⟩
    · have hkl' : ¬ (k : Int) < (nl : Int) := by omega
      have hkn : k = nl := by omega
      obtain ⟨role1, rs1, hD, hS1, hL1, hF1⟩ := HDK.out
      have hD0 := hD
      have e9 : dieF a.keep a.fs k = dieAll a.keep 0 a.fs := by rw [hkn, hlen'.out, dieF_end]
      rw [e9] at hD
      clear hD0 e9
      have hMs := hD.str
      have d7 : W.cell? ⟨M, 7, none⟩ = some (.bool a.dead) := blk_cell (o := 7) hMs rfl
      have f7 : W.frozen? ⟨M, 7, none⟩ = false := blk_free hMs
      have HFIN : Hid (DocTo w role M { a with fs := dieAll a.keep 0 a.fs, dead := true } (.slice qk a.keep.length ck) lv uv (W.setCell ⟨M, 7, none⟩ (.bool true))) := by
        have hM1 := hD.roleM
        have hne : ∀ k9, role1 k9 ≠ 1 → (W.setCell ⟨M, 7, none⟩ (.bool true)).heap[k9]? = W.heap[k9]? := fun k9 h9 => Below.heap_setCell _ _ _ k9 (fun e => h9 (by rw [show k9 = M from e]; exact hM1))
        have hs2 := blk_set (o := 7) hMs (.bool true)
        have h44 : ∀ k9, role1 k9 = 4 → k9 < W.heap.size → (W.setCell ⟨M, 7, none⟩ (.bool true)).heap[k9]? = W.heap[k9]? ∧ role1 k9 = 4 := fun k9 e _ => ⟨hne k9 (by omega), e⟩
        refine ⟨role1, rs1, .slice qf nl cf, ⟨hs2.trans (by rfl), hM1, hD.one, hD.fs, own_keep hD.row (fun k9 e => hne k9 (by rw [hD.rowR k9 e]; omega)), hD.rowR, fun r2 hr2 => (hD.files r2 hr2).kept h44 (fun k9 e => ⟨hne k9 (by rw [(hD.files r2 hr2).rowR k9 e]; omega), (hD.files r2 hr2).rowR k9 e⟩), hD.apart, hD.kK.kept h44, hD.kF.kept h44, hD.kU.kept h44, fun k9 h9 => by simpa [World.setCell] using hD.dom k9 h9, hD.iC, hD.iR⟩, hS1.trans ⟨rfl, rfl, rfl, by simp [World.setCell], fun _ _ => rfl, fun k9 _ h9 => hne k9 (by omega)⟩⟩
      clear hD hS1 hL1 hF1 hMs HDK
      go_wp2
      go_end0
      exact ⟨rfl, HFIN⟩

end Go.Proofs.Ytcceaokldphfgaa
