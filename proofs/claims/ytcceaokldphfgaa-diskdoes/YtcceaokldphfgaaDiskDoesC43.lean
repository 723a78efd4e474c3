/- YtcceaokldphfgaaDiskDoesC43 -/
import Derived.Test.YtcceaokldphfgaaDiskDoesC42
import Derived.Test.YtcceaokldphfgaaDiskDoesC24
namespace Go.Proofs.Ytcceaokldphfgaa
open Go.RowKit Go.Shelf

theorem file_new (w : World) (role : DRole) (t : ByteArray) : DFileOK w role { a := newA t, sv := .slice none 0 0, cv := .slice none 0 0, ds := [] } := by
  refine ⟨⟨World.ownsRow_nil _ _ _ _, (fun k e => by cases e)⟩, World.ownsRow_nil _ _ _ _, (fun k e => by cases e), rfl, fun j c d e _ => ?_, fun c hc => ?_, by simp [newA]⟩
  · replace e : ([] : List Chg)[j]? = some c := e
    simp at e
  · replace hc : c ∈ ([] : List Chg) := hc
    simp at hc

set_option maxHeartbeats 2000000 in
set_option maxRecDepth 100000 in
theorem rcreate_any {w : World} {role : DRole} {M n : Nat} {a : ASt} {rs : List DRep} {fv kv lv uv : Value} (h : DocOK w role M a rs fv kv lv uv) (hc : Coh a) (hf : FewA n a) (hn : n ≤ 998) (hs : SortedA a.fs) (t : ByteArray) :
    Calls Try.prog 37 #[.pointer (some ⟨M, 0, none⟩), .string t] w fun e w' => e = .returned (.int .i64 (createA a t).2) ∧ Hid (DocTo w role M (createA a t).1 kv lv uv w') := by
  have hbg := rbegin_any h hf (by omega)
  obtain ⟨X, hX⟩ : ∃ X, X = createA a t := ⟨_, rfl⟩
  rw [← hX]
  by_cases he : (beginA a).2 = 0
  · have hba : (beginA a).1 = bumpA a := (begin_zero he).1
    unfold createA at hX
    rw [if_neg (by rw [he]; decide), hba] at hX
    rw [he, hba] at hbg
    have HG := hideP (And.intro hc (And.intro hf (And.intro hs (And.intro he hX))))
    have hmay := fun W => rmay_any W t
    clear h hc hf hs he hX hba
    go_enter Try.func37, Try.ntmps37
    go_wp2_with fail
    refine hbg.mono ?_
    rintro e9 W1 ⟨rfl, HT⟩
    clear hbg
    have hmy := hmay W1
    clear hmay
    go_wp2_with fail
    refine hmy.mono ?_
    rintro e9 w9 ⟨rfl, rfl⟩
    clear hmy
    obtain ⟨role1, rs1, fv1, h1, s1⟩ := HT.out
    obtain ⟨hc, hf, hs, he, hX⟩ := HG.out
    by_cases hok : okName t = false
    · rw [if_pos hok] at hX
      have HF : Hid (DocTo w role M X.1 kv lv uv W1) := by rw [hX]; exact ⟨role1, rs1, fv1, h1, s1⟩
      have HX2 : Hid (X.2 = 15) := (by rw [hX] : X.2 = 15)
      rw [hok]
      clear h1 s1 hc hf hs he hX HG HT hok
      go_wp2
      go_ret
      refine ⟨?_, HF⟩
      rw [HX2.out]
      rfl
    have hokT : okName t = true := by simpa using hok
    rw [if_neg hok] at hX
    rw [hokT]
    have hfew : FewD rs1 := h1.few hf.bump (by omega)
    have hfs : a.fs = rs1.map (·.a) := h1.fs
    have hfd := rfind_any h1 hfew.1 t
    have H1 := hideP (And.intro h1 (And.intro s1 (And.intro hfew (And.intro hfs hX))))
    clear h1 s1 hfew hfs hc hf hs he hX HT hok hokT
    go_wp2_with fail
    refine hfd.mono ?_
    rintro e9 w9 ⟨⟨x, rfl, HFR⟩, rfl⟩
    clear hfd
    obtain ⟨h1, s1, hfew, hfs, hX⟩ := H1.out
    obtain ⟨hc, hf, hs, he, _⟩ := HG.out
    rcases HFR.out with ⟨hx, hno⟩ | ⟨i, r, hx, hr, hnm, hfst⟩
    · subst hx
      have hfn : findA (bumpA a).fs t = none := by show findA a.fs t = none; rw [hfs]; exact find_no hno
      rw [hfn] at hX
      have hl9 : ¬ 4096 ≤ (bumpA a).fs.length := by show ¬ 4096 ≤ a.fs.length; have := hf.files; omega
      rw [if_neg (by simp), if_neg hl9] at hX
      have hrm := rroom_any h1 hc.bump hfew hf.full 0 (by omega)
      obtain ⟨qf, cf, ef⟩ := h1.fvS
      have m5 : W1.cell? ⟨M, 5, none⟩ = some fv1 := blk_cell (o := 5) h1.str rfl
      have hlen := hfew.1
      have HPT : Hid (∀ W2, Below W1.heap.size W1 W2 → Calls Try.prog 68 #[.pointer (some ⟨M, 0, none⟩), .agg #[.string t, .slice none 0 0, .slice none 0 0]] W2 fun e w' => e = .returned (.tuple #[]) ∧ Hid (DocTo w role M { bumpA a with fs := insA (bumpA a).fs (newA t) } kv lv uv w')) := fun W2 hb2 => by
        have hp := rput_any (f := { a := newA t, sv := .slice none 0 0, cv := .slice none 0 0, ds := [] }) (h1.still hb2) (file_new _ _ _) (fun q _ k e => by cases e) (by have := hf.files; rw [hfs, List.length_map] at this; omega) hs (fun q hq => hno q hq)
        refine hp.mono ?_
        rintro e w' ⟨rfl, HT⟩
        obtain ⟨role', rs', fv', u1, u2⟩ := HT.out
        exact ⟨rfl, role', rs', fv', u1, (s1.trans (DStp.still hb2)).trans u2⟩
      have HFT : Hid (∀ W2, Below W1.heap.size W1 W2 → DocTo w role M (bumpA a) kv lv uv W2) := fun W2 hb2 => ⟨role1, rs1, fv1, h1.still hb2, s1.trans (DStp.still hb2)⟩
      rw [ef] at m5
      generalize hnl : rs1.length = nl at *
      have t9 : (nl : Int) < 4096 := by omega
      have t8 : ¬ (4096 : Int) ≤ (nl : Int) := by omega
      by_cases hfu : fullA (bumpA a) 0 = true
      · rw [if_pos hfu] at hX
        have HX := hideP hX
        rw [hfu] at hrm
        have HRM := hideP hrm
        clear h1 s1 hfew hfs hX hc hf hs he hno hfn hl9 hrm ef hfu H1 HG HFR hnl HPT
        go_wp2_with fail
        refine HRM.out.mono ?_
        rintro e9 W2 ⟨rfl, HB2⟩
        have HF := hideP (HFT.out _ HB2.out)
        clear HRM HFT
        go_wp2
        go_ret
        rw [HX.out]
        exact ⟨rfl, HF⟩
      · have hff : fullA (bumpA a) 0 = false := by simpa using hfu
        rw [if_neg hfu] at hX
        have HX := hideP hX
        rw [hff] at hrm
        have HRM := hideP hrm
        clear h1 s1 hfew hfs hX hc hf hs he hno hfn hl9 hrm ef hfu H1 HG HFR hnl hff HFT
        go_wp2_with fail
        refine HRM.out.mono ?_
        rintro e9 W2 ⟨rfl, HB2⟩
        have hpt := HPT.out _ HB2.out
        clear HRM HPT m5
        go_wp2_with fail
        refine hpt.mono ?_
        rintro e9 w9 ⟨rfl, HF⟩
        clear hpt
        go_wp2
        go_ret
        rw [HX.out]
        exact ⟨rfl, HF⟩
    · subst hx
      have hfa : findA (bumpA a).fs t = some r.a := by show findA a.fs t = _; rw [hfs]; exact find_yes hr hnm hfst
      rw [hfa, if_pos (by rfl)] at hX
      have HF : Hid (DocTo w role M X.1 kv lv uv W1) := by rw [hX]; exact ⟨role1, rs1, fv1, h1, s1⟩
      have HX2 : Hid (X.2 = 14) := (by rw [hX] : X.2 = 14)
      have hi0 : (0 : Int) ≤ (i : Int) := by omega
      clear h1 s1 hfew hfs hX hc hf hs he hr hnm hfst hfa H1 HG HFR
      go_wp2
      go_ret
      refine ⟨?_, HF⟩
      rw [HX2.out]
      rfl
  · have hXv : X = beginA a := by rw [hX]; unfold createA; rw [if_pos he]
    have hne : ((beginA a).2 != 0) = true := by simpa using he
    rw [← hXv] at hbg hne
    clear h hc hf hs hX hXv he
    generalize X.2 = y at *
    go_enter Try.func37, Try.ntmps37
    go_wp2_with fail
    refine hbg.mono ?_
    rintro e9 W1 ⟨rfl, HT⟩
    clear hbg
    go_wp2
    go_ret
    exact ⟨rfl, HT⟩

end Go.Proofs.Ytcceaokldphfgaa

namespace Go.Proofs.Ytcceaokldphfgaa
open Go.RowKit Go.Shelf

/-- Few, with the operations apart. -/
structure FewB (n m : Nat) (a : ASt) : Prop where
  files : a.fs.length ≤ n
  chs : ∀ f ∈ a.fs, f.chs.length ≤ n
  ops : 0 ≤ a.ops ∧ a.ops ≤ m
  keep : a.keep.length ≤ 140737488355328
  fail : a.fail.length ≤ 140737488355328
  full : a.full.length ≤ 140737488355328

theorem FewB.to {n m : Nat} {a : ASt} (h : FewB n m a) (hn : n ≤ m) : FewA m a := ⟨Nat.le_trans h.files hn, fun f hf => Nat.le_trans (h.chs f hf) hn, h.ops, h.keep, h.fail, h.full⟩

theorem die_chs (keep : List Int) : ∀ (l : List AFile) (nx : Nat), ∀ f ∈ dieAll keep nx l, f.chs = []
  | [], _, f, h => by simp [dieAll] at h
  | x :: l, nx, f, h => by
    simp only [dieAll, List.mem_cons] at h
    rcases h with rfl | h
    · rfl
    · exact die_chs keep l _ f h

theorem begin_few {n : Nat} {a : ASt} (h : FewA n a) : FewB n (n + 1) (beginA a).1 := by
  have ho := h.ops
  unfold beginA
  split
  · exact ⟨h.files, h.chs, ⟨ho.1, by show a.ops ≤ ((n + 1 : Nat) : Int); omega⟩, h.keep, h.fail, h.full⟩
  · split
    · refine ⟨?_, fun f hf => ?_, ⟨?_, ?_⟩, h.keep, h.fail, h.full⟩
      · show (dieAll a.keep 0 a.fs).length ≤ n
        rw [dieAll_length]; exact h.files
      · rw [die_chs _ _ _ f hf]; simp
      · show 0 ≤ a.ops + 1; omega
      · show a.ops + 1 ≤ ((n + 1 : Nat) : Int); omega
    · refine ⟨h.files, h.chs, ⟨?_, ?_⟩, h.keep, h.fail, h.full⟩
      · show 0 ≤ a.ops + 1; omega
      · show a.ops + 1 ≤ ((n + 1 : Nat) : Int); omega

theorem ins_mem {fs : List AFile} {f g : AFile} (h : g ∈ insA fs f) : g = f ∨ g ∈ fs := by
  unfold insA at h
  simp only [List.mem_append, List.mem_cons, List.mem_filter] at h
  rcases h with h | h | h
  · exact .inr h.1
  · exact .inl h
  · exact .inr h.1

theorem ins_len (fs : List AFile) (f : AFile) : (insA fs f).length = fs.length + 1 := by
  unfold insA
  rw [List.length_append, List.length_cons]
  induction fs with
  | nil => rfl
  | cons x l ih =>
    rw [List.filter_cons, List.filter_cons]
    by_cases hx : cmpS x.name f.name < 0
    · simp [hx] at ih ⊢; omega
    · simp [hx] at ih ⊢; omega

theorem on_few {n : Nat} {a : ASt} {t : ByteArray} {k : ASt → AFile → ASt × Int} (h : FewA n a) (hk : ∀ b f, FewB n (n + 1) b → f ∈ b.fs → FewA (n + 1) (k b f).1) : FewA (n + 1) (onA a t k).1 := by
  have hb := begin_few h
  unfold onA
  split
  · exact hb.to (by omega)
  · split
    · exact hb.to (by omega)
    · rename_i f hf
      exact hk _ f hb (List.mem_of_find?_eq_some hf)

theorem set_few {n : Nat} {b : ASt} {t : ByteArray} {g : AFile → AFile} (h : FewB n (n + 1) b) (hg : ∀ f, f.chs.length ≤ n → (g f).chs.length ≤ n + 1) : FewA (n + 1) { b with fs := setA b.fs t g } := by
  refine ⟨?_, fun f hf => ?_, h.ops, h.keep, h.fail, h.full⟩
  · show (setA b.fs t g).length ≤ n + 1
    unfold setA
    rw [List.length_map]
    have := h.files; omega
  · replace hf : f ∈ setA b.fs t g := hf
    unfold setA at hf
    obtain ⟨x, hx, rfl⟩ := List.mem_map.1 hf
    have := h.chs x hx
    split
    · exact hg x this
    · omega

theorem chg_few {n : Nat} {b : ASt} {f : AFile} {c : Chg} (h : FewB n (n + 1) b) : FewA (n + 1) (chgA c b f).1 := by
  unfold chgA
  split
  · exact h.to (by omega)
  · exact set_few h (fun f hf => by show (f.chs ++ [c]).length ≤ n + 1; rw [List.length_append]; simp; omega)

theorem drop_few {fs : List AFile} {t : ByteArray} : (dropA fs t).length ≤ fs.length ∧ ∀ f ∈ dropA fs t, f ∈ fs := by
  unfold dropA
  exact ⟨List.length_filter_le _ _, fun f hf => (List.mem_filter.1 hf).1⟩

theorem do_few {n : Nat} {a : ASt} (h : FewA n a) (o : AOp) (h1 : o.keep.length ≤ 140737488355328) (h2 : o.fail.length ≤ 140737488355328) (h3 : o.full.length ≤ 140737488355328) : FewA (n + 1) (doA a o).1 := by
  have hb := begin_few h
  unfold doA
  split
  · unfold createA
    split
    · exact hb.to (by omega)
    split
    · exact hb.to (by omega)
    split
    · exact hb.to (by omega)
    split
    · exact hb.to (by omega)
    split
    · exact hb.to (by omega)
    · refine ⟨?_, fun f hf => ?_, hb.ops, hb.keep, hb.fail, hb.full⟩
      · show (insA (beginA a).1.fs (newA o.name)).length ≤ n + 1
        rw [ins_len]; have := hb.files; omega
      · rcases ins_mem hf with rfl | hf
        · simp [newA]
        · have := hb.chs f hf; omega
  split
  · refine on_few h (fun b f hb _ => ?_)
    split
    · exact hb.to (by omega)
    · exact chg_few hb
  split
  · refine on_few h (fun b f hb _ => ?_)
    split
    · exact hb.to (by omega)
    · split
      · exact hb.to (by omega)
      · exact chg_few hb
  split
  · refine on_few h (fun b f hb _ => ?_)
    split
    · exact hb.to (by omega)
    · split
      · exact hb.to (by omega)
      · exact chg_few hb
  split
  · exact on_few h (fun b f hb _ => set_few hb (fun f hf => by simp [syncF]))
  split
  · refine on_few h (fun b f hb hf => ?_)
    split
    · exact hb.to (by omega)
    · split
      · exact hb.to (by omega)
      · refine ⟨?_, fun g hg => ?_, hb.ops, hb.keep, hb.fail, hb.full⟩
        · show (insA (dropA (dropA b.fs o.name) o.to) { f with name := o.to }).length ≤ n + 1
          rw [ins_len]
          have e1 := (drop_few (fs := dropA b.fs o.name) (t := o.to)).1
          have e2 := (drop_few (fs := b.fs) (t := o.name)).1
          have := hb.files; omega
        · rcases ins_mem hg with rfl | hg
          · have := hb.chs f hf; show f.chs.length ≤ n + 1; omega
          · have := hb.chs g (drop_few.2 g (drop_few.2 g hg)); omega
  split
  · refine on_few h (fun b f hb _ => ⟨?_, fun g hg => ?_, hb.ops, hb.keep, hb.fail, hb.full⟩)
    · show (dropA b.fs o.name).length ≤ n + 1
      have := (drop_few (fs := b.fs) (t := o.name)).1
      have := hb.files; omega
    · have := hb.chs g (drop_few.2 g hg); omega
  split
  · refine ⟨?_, fun f hf => ?_, ⟨by show (0 : Int) ≤ 0; omega, by show (0 : Int) ≤ ((n + 1 : Nat) : Int); omega⟩, h1, h2, h3⟩
    · show (if a.dead = true then a.fs else dieAll a.keep 0 a.fs).length ≤ n + 1
      have := h.files
      split
      · omega
      · rw [dieAll_length]; omega
    · replace hf : f ∈ (if a.dead = true then a.fs else dieAll a.keep 0 a.fs) := hf
      split at hf
      · have := h.chs f hf; omega
      · rw [die_chs _ _ _ f hf]; simp
  · exact h.mono (by omega)

end Go.Proofs.Ytcceaokldphfgaa

namespace Go.Proofs.Ytcceaokldphfgaa
open Go.RowKit Go.Shelf

theorem erase_sorted {L : List AFile} (h : SortedA L) (i : Nat) : SortedA (L.eraseIdx i) := h.sublist (List.eraseIdx_sublist _ _)

theorem drop_absent {L : List AFile} {t : ByteArray} (h : ∀ f ∈ L, f.name ≠ t) : dropA L t = L := by
  unfold dropA
  rw [List.filter_eq_self]
  intro f hf
  rw [bne_iff_ne]
  intro e
  exact h f hf (cmpS_zero.1 e)

theorem drop_comm (L : List AFile) (t u : ByteArray) : dropA (dropA L t) u = dropA (dropA L u) t := by
  unfold dropA
  rw [List.filter_filter, List.filter_filter]
  congr 1
  funext f
  rw [Bool.and_comm]

/-- From the second search on. -/
theorem ren_rest {w V : World} {role role2 : DRole} {M : Nat} {b : ASt} {rs2 : List DRep} {r : DRep} {fv2 kv lv uv : Value} {t u : ByteArray} (h2 : DocOK V role2 M b rs2 fv2 kv lv uv) (s2 : DStp role role2 w V) (hfew : FewD rs2) (hl : rs2.length ≤ 999) (hs : SortedA b.fs) (hr : r ∈ rs2) (hnm : r.a.name = t) (hu : ∀ q ∈ rs2, q.a.name ≠ u) :
    Calls Try.prog 47 #[.pointer (some ⟨M, 0, none⟩), .string t] V fun e w1 => (∃ j : Nat, e = .returned (.int .i64 j) ∧ Hid (Calls Try.prog 70 #[.pointer (some ⟨M, 0, none⟩), .int .i64 j] V fun e w2 => e = .returned (.agg #[.string t, r.sv, r.cv]) ∧ Hid (∀ o, Calls Try.prog 68 #[.pointer (some ⟨M, 0, none⟩), .agg #[.string u, r.sv, r.cv]] (w2.alloc o) fun e w3 => e = .returned (.tuple #[]) ∧ Hid (DocTo w role M { b with fs := insA (dropA b.fs t) { r.a with name := u } } kv lv uv w3)))) ∧ V = w1 := by
  refine (rfind_any h2 hfew.1 t).mono ?_
  rintro e w1 ⟨⟨x, rfl, HFR⟩, rfl⟩
  refine ⟨?_, rfl⟩
  have hfs := h2.fs
  rcases HFR.out with ⟨_, hno⟩ | ⟨j, r2, rfl, hr2, hnm2, _⟩
  · exact absurd hnm (hno r hr)
  have hr2r : r2 = r := by
    obtain ⟨i, hi⟩ := List.mem_iff_getElem?.1 hr
    obtain ⟨hi', rfl⟩ := List.getElem?_eq_some_iff.1 hi
    obtain ⟨hj', rfl⟩ := List.getElem?_eq_some_iff.1 hr2
    have hij : i = j := by
      unfold SortedA at hs
      rw [hfs] at hs
      rcases Nat.lt_trichotomy i j with h | h | h
      · have := List.pairwise_iff_getElem.1 hs i j (by simpa using hi') (by simpa using hj') h
        simp only [List.getElem_map, hnm, hnm2, cmp_self] at this
        omega
      · exact h
      · have := List.pairwise_iff_getElem.1 hs j i (by simpa using hj') (by simpa using hi') h
        simp only [List.getElem_map, hnm, hnm2, cmp_self] at this
        omega
    subst hij
    rfl
  subst hr2r
  refine ⟨j, rfl, ?_⟩
  refine (rout_any h2 hr2 hfew.1).mono ?_
  rintro e w2 ⟨rfl, HO⟩
  refine ⟨by rw [hnm], fun o => ?_⟩
  obtain ⟨role3, fv3, g1, g2, g3, g4⟩ := HO.out
  have hal : Below w2.heap.size w2 (w2.alloc o) := (Below.refl _ w2).alloc (Nat.le_refl _) o
  have hF' : DFileOK (w2.alloc o) role3 { r2 with a := { r2.a with name := u } } := by
    have := g3.kept (w' := w2.alloc o) (fun k e hk => ⟨hal.block k hk, e⟩) (fun k e => ⟨hal.block k (g3.row.lt k e).2, g3.rowR k e⟩)
    exact ⟨this.safe, this.row, this.rowR, this.dsLen, this.data, this.may, this.len⟩
  have hdr : dropA b.fs t = b.fs.eraseIdx j := by rw [← hnm2]; exact drop_name hs (by rw [hfs, List.getElem?_map, hr2]; rfl)
  have hp := rput_any (f := { r2 with a := { r2.a with name := u } }) (g1.still hal) hF' (fun q hq k e => g4 q hq k e) (by have := List.length_eraseIdx_le rs2 j; omega) (erase_sorted hs j) (fun q hq => hu q (List.mem_of_mem_eraseIdx hq))
  refine hp.mono ?_
  rintro e w3 ⟨rfl, HT⟩
  obtain ⟨role', rs', fv', u1, u2⟩ := HT.out
  rw [hdr]
  exact ⟨rfl, role', rs', fv', u1, ((s2.trans g2).trans (DStp.still hal)).trans u2⟩

set_option maxHeartbeats 2000000 in
set_option maxRecDepth 100000 in
theorem rrename_any {w : World} {role : DRole} {M n : Nat} {a : ASt} {rs : List DRep} {fv kv lv uv : Value} (h : DocOK w role M a rs fv kv lv uv) (hc : Coh a) (hf : FewA n a) (hn : n ≤ 998) (hs : SortedA a.fs) (t : ByteArray) (u : ByteArray) :
    Calls Try.prog 42 #[.pointer (some ⟨M, 0, none⟩), .string t, .string u] w fun e w' => e = .returned (.int .i64 (renameA a t u).2) ∧ Hid (DocTo w role M (renameA a t u).1 kv lv uv w') := by
  have hbg := rbegin_any h hf (by omega)
  obtain ⟨X, hX⟩ : ∃ X, X = renameA a t u := ⟨_, rfl⟩
  rw [← hX]
  by_cases he : (beginA a).2 = 0
  · have hba : (beginA a).1 = bumpA a := (begin_zero he).1
    rw [he, hba] at hbg
    have HG := hideP (And.intro hc (And.intro hf (And.intro hs (And.intro he hX))))
    clear h hc hf hs he hX hba
    go_enter Try.func42, Try.ntmps42
    go_wp2_with fail
    refine hbg.mono ?_
    rintro e9 W1 ⟨rfl, HT⟩
    clear hbg
    obtain ⟨role1, rs1, fv1, h1, s1⟩ := HT.out
    obtain ⟨hc, hf, hs, he, hX⟩ := HG.out
    have hfew : FewD rs1 := h1.few hf.bump (by omega)
    have hfs : a.fs = rs1.map (·.a) := h1.fs
    have hfd := rfind_any h1 hfew.1 t
    have H1 := hideP (And.intro h1 (And.intro s1 (And.intro hfew hfs)))
    clear h1 s1 hfew hfs hc hf hs he hX HT
    go_wp2_with fail
    refine hfd.mono ?_
    rintro e9 w9 ⟨⟨x, rfl, HFR⟩, rfl⟩
    clear hfd
    obtain ⟨h1, s1, hfew, hfs⟩ := H1.out
    obtain ⟨hc, hf, hs, he, hX⟩ := HG.out
    rcases HFR.out with ⟨hx, hno⟩ | ⟨i, r, hx, hr, hnm, hfst⟩
    · subst hx
      have hXv : X = (bumpA a, 13) := by rw [hX]; exact on_no he (by rw [hfs]; exact find_no hno)
      have HF : Hid (DocTo w role M X.1 kv lv uv W1) := by rw [hXv]; exact ⟨role1, rs1, fv1, h1, s1⟩
      have HX2 : Hid (X.2 = 13) := (by rw [hXv] : X.2 = 13)
      clear h1 s1 hfew hfs hc hf hs he hX hno hXv H1 HG HFR
      go_wp2
      go_ret
      refine ⟨?_, HF⟩
      rw [HX2.out]
      rfl
    · subst hx
      have hfa : findA a.fs t = some r.a := by rw [hfs]; exact find_yes hr hnm hfst
      have hi0 : ¬ (i : Int) < 0 := by omega
      have hmem := List.mem_of_getElem? hr
      have hil : i < rs1.length := (List.getElem?_eq_some_iff.1 hr).1
      have hi1 : (i : Int) < 1000 := by have := hfew.1; omega
      have hmy := rmay_any W1 u
      have hl99 : rs1.length ≤ 999 := by have := hf.files; rw [hfs, List.length_map] at this; omega
      have HM := hideP (And.intro hfa (And.intro hmem (And.intro hr (And.intro hnm hl99))))
      clear h1 s1 hfew hfs hc hf hs he hX HFR hmem hfa hr hnm hfst hl99
      go_wp2_with fail
      refine hmy.mono ?_
      rintro e9 w9 ⟨rfl, rfl⟩
      clear hmy
      obtain ⟨h1, s1, hfew, hfs⟩ := H1.out
      obtain ⟨hc, hf, hs, he, hX⟩ := HG.out
      obtain ⟨hfa, hmem, hr, hnm, hl99⟩ := HM.out
      have hXk : X = _ := hX.trans (on_yes he hfa)
      by_cases hok : okName u = false
      · rw [if_pos hok] at hXk
        have HF : Hid (DocTo w role M X.1 kv lv uv W1) := by rw [hXk]; exact ⟨role1, rs1, fv1, h1, s1⟩
        have HX2 : Hid (X.2 = 15) := (by rw [hXk] : X.2 = 15)
        rw [hok]
        clear h1 s1 hfew hfs hc hf hs he hX hfa hmem hr hnm hXk hok H1 HG HM
        go_wp2
        go_ret
        refine ⟨?_, HF⟩
        rw [HX2.out]
        rfl
      have hokT : okName u = true := by simpa using hok
      rw [if_neg hok] at hXk
      rw [hokT]
      by_cases htu : t = u
      · rw [if_pos htu] at hXk
        have HF : Hid (DocTo w role M X.1 kv lv uv W1) := by rw [hXk]; exact ⟨role1, rs1, fv1, h1, s1⟩
        have HX2 : Hid (X.2 = 0) := (by rw [hXk] : X.2 = 0)
        subst htu
        clear h1 s1 hfew hfs hc hf hs he hX hfa hmem hr hnm hXk hok hokT H1 HG HM
        go_wp2
        go_ret
        refine ⟨?_, HF⟩
        rw [HX2.out]
        rfl
      rw [if_neg htu] at hXk
      have hne : (t.toList == u.toList) = false := by
        rw [beq_eq_false_iff_ne]
        intro e
        exact htu (by
          rw [ByteArray.toList_eq, ByteArray.toList_eq] at e
          have e2 : t.data = u.data := Array.toList_inj.1 e
          cases hh : t; cases hh2 : u; rw [hh, hh2] at e2; cases e2; rfl)
      have hfd2 := rfind_any h1 hfew.1 u
      have HXK := hideP hXk
      have HTU := hideP htu
      clear h1 s1 hfew hfs hc hf hs he hX hfa hmem hr hnm hl99 hXk hok hokT htu
      go_wp2_with fail
      refine hfd2.mono ?_
      rintro e9 w9 ⟨⟨y, rfl, HFR2⟩, rfl⟩
      clear hfd2
      obtain ⟨h1, s1, hfew, hfs⟩ := H1.out
      obtain ⟨hc, hf, hs, he, hX⟩ := HG.out
      obtain ⟨hfa, hmem, hr, hnm, hl99⟩ := HM.out
      have htu := HTU.out
      rcases HFR2.out with ⟨hy, hno⟩ | ⟨k, q, hy, hq, hqn, hqf⟩
      · subst hy
        have hrr := ren_rest (u := u) h1 s1 hfew hl99 hs hmem hnm hno
        have hdd : dropA (dropA (bumpA a).fs t) u = dropA (bumpA a).fs t := by
          rw [drop_comm, drop_absent (L := (bumpA a).fs) (t := u)]
          intro f hf9
          replace hf9 : f ∈ a.fs := hf9
          rw [hfs] at hf9
          obtain ⟨q, hq, rfl⟩ := List.mem_map.1 hf9
          exact hno q hq
        have HXV : Hid (X = ({ bumpA a with fs := insA (dropA (bumpA a).fs t) { r.a with name := u } }, 0)) := by
          have := HXK.out
          rw [hdd] at this
          exact this
        have HRR := hideP hrr
        obtain ⟨x1, x2, x3, ex⟩ : ∃ q n c, r.sv = .slice q n c := by
          obtain ⟨q, c, e, _⟩ := own_slice (h1.files r hmem).safe.1
          exact ⟨_, _, _, e⟩
        obtain ⟨y1, y2, ey, _⟩ := (h1.files r hmem).crow
        rw [ex, ey] at HRR
        generalize r.a.chs.length = nc at *
        clear h1 s1 hfew hfs hc hf hs he hX hfa hmem hr hnm hno hrr hdd HXK H1 HG HM HFR2 HTU htu ex ey
        go_wp2_with fail
        refine HRR.out.mono ?_
        rintro e9 w9 ⟨⟨j, rfl, HC7⟩, rfl⟩
        clear HRR
        go_wp2_with fail
        refine HC7.out.mono ?_
        rintro e9 W5 ⟨rfl, HC8⟩
        clear HC7
        go_wp2_with fail
        refine (HC8.out _).mono ?_
        rintro e9 w9 ⟨rfl, HT9⟩
        clear HC8
        go_wp2
        go_ret
        rw [HXV.out]
        exact ⟨rfl, HT9⟩
      · subst hy
        have hk0 : (0 : Int) ≤ (k : Int) := by omega
        have hot := rout_any h1 hq hfew.1
        have hda : dropA (bumpA a).fs u = (bumpA a).fs.eraseIdx k := by rw [← hqn]; exact drop_name hs (by show a.fs[k]? = _; rw [hfs, List.getElem?_map, hq]; rfl)
        have hrm : r ∈ rs1.eraseIdx k := by
          obtain ⟨i9, hi9⟩ := List.mem_iff_getElem?.1 hmem
          rw [List.mem_eraseIdx_iff_getElem?]
          exact ⟨i9, fun e => by rw [e] at hi9; rw [hq] at hi9; cases hi9; exact htu (hnm.symm.trans hqn), hi9⟩
        have huo : ∀ q9 ∈ rs1.eraseIdx k, q9.a.name ≠ u := fun q9 hq9 e => by
          rw [List.mem_eraseIdx_iff_getElem?] at hq9
          obtain ⟨i9, hi9, hg9⟩ := hq9
          have hsr : SortedA a.fs := hs
          unfold SortedA at hsr
          rw [hfs] at hsr
          obtain ⟨l1, rfl⟩ := List.getElem?_eq_some_iff.1 hg9
          obtain ⟨l2, rfl⟩ := List.getElem?_eq_some_iff.1 hq
          rcases Nat.lt_or_gt_of_ne hi9 with h9 | h9
          · have := List.pairwise_iff_getElem.1 hsr i9 k (by simpa using l1) (by simpa using l2) h9
            simp only [List.getElem_map, e, hqn, cmp_self] at this
            omega
          · have := List.pairwise_iff_getElem.1 hsr k i9 (by simpa using l2) (by simpa using l1) h9
            simp only [List.getElem_map, e, hqn, cmp_self] at this
            omega
        have HXV : Hid (X = ({ bumpA a with fs := insA (dropA ((bumpA a).fs.eraseIdx k) t) { r.a with name := u } }, 0)) := by
          have := HXK.out
          rw [drop_comm, hda] at this
          exact this
        have HOT : Hid (Calls Try.prog 70 #[.pointer (some ⟨M, 0, none⟩), .int .i64 k] W1 fun e V => e = .returned (.agg #[.string q.a.name, q.sv, q.cv]) ∧ Hid (Calls Try.prog 47 #[.pointer (some ⟨M, 0, none⟩), .string t] V fun e w1 => (∃ j : Nat, e = .returned (.int .i64 j) ∧ Hid (Calls Try.prog 70 #[.pointer (some ⟨M, 0, none⟩), .int .i64 j] V fun e w2 => e = .returned (.agg #[.string t, r.sv, r.cv]) ∧ Hid (∀ o, Calls Try.prog 68 #[.pointer (some ⟨M, 0, none⟩), .agg #[.string u, r.sv, r.cv]] (w2.alloc o) fun e w3 => e = .returned (.tuple #[]) ∧ Hid (DocTo w role M { bumpA a with fs := insA (dropA ((bumpA a).fs.eraseIdx k) t) { r.a with name := u } } kv lv uv w3)))) ∧ V = w1)) := by
          refine hot.mono ?_
          rintro e V ⟨rfl, HO⟩
          obtain ⟨role2, fv2, g1, g2, _, _⟩ := HO.out
          exact ⟨rfl, ren_rest (b := { bumpA a with fs := (bumpA a).fs.eraseIdx k }) g1 (s1.trans g2) ⟨by have := List.length_eraseIdx_le rs1 k; have := hfew.1; omega, fun x hx => hfew.2 x (List.mem_of_mem_eraseIdx hx)⟩ (by have := List.length_eraseIdx_le rs1 k; omega) (erase_sorted hs k) hrm hnm huo⟩
        obtain ⟨x1, x2, x3, ex⟩ : ∃ q n c, r.sv = .slice q n c := by
          obtain ⟨q, c, e, _⟩ := own_slice (h1.files r hmem).safe.1
          exact ⟨_, _, _, e⟩
        obtain ⟨y1, y2, ey, _⟩ := (h1.files r hmem).crow
        rw [ex, ey] at HOT
        generalize r.a.chs.length = nc at *
        generalize Value.agg #[.string q.a.name, q.sv, q.cv] = qv at *
        clear h1 s1 hfew hfs hc hf hs he hX hfa hmem hr hnm hot hda hrm huo HXK H1 HG HM HFR2 HTU htu ex ey hq hqn hqf
        go_wp2_with fail
        refine HOT.out.mono ?_
        rintro e9 V ⟨rfl, HRR⟩
        clear HOT
        go_wp2_with fail
        refine HRR.out.mono ?_
        rintro e9 w9 ⟨⟨j, rfl, HC7⟩, rfl⟩
        clear HRR
        go_wp2_with fail
        refine HC7.out.mono ?_
        rintro e9 W5 ⟨rfl, HC8⟩
        clear HC7
        go_wp2_with fail
        refine (HC8.out _).mono ?_
        rintro e9 w9 ⟨rfl, HT9⟩
        clear HC8
        go_wp2
        go_ret
        rw [HXV.out]
        exact ⟨rfl, HT9⟩
  · have hXv : X = beginA a := by rw [hX]; exact on_err he
    have hne : ((beginA a).2 != 0) = true := by simpa using he
    rw [← hXv] at hbg hne
    clear h hc hf hs hX hXv he
    generalize X.2 = y at *
    go_enter Try.func42, Try.ntmps42
    go_wp2_with fail
    refine hbg.mono ?_
    rintro e9 W1 ⟨rfl, HT⟩
    clear hbg
    go_wp2
    go_ret
    exact ⟨rfl, HT⟩

end Go.Proofs.Ytcceaokldphfgaa
