/- YtcceaokldphfgaaDiskDoesC32 -/
import Derived.Deep.RegionHeld3
import Derived.Test.YtcceaokldphfgaaDiskDoesC31
namespace Go.Proofs.Ytcceaokldphfgaa
open Go.RowKit Go.Shelf

/-- Few files, few changes. -/
def FewD (rs : List DRep) : Prop := rs.length ≤ 1000 ∧ ∀ r ∈ rs, r.a.chs.length ≤ 1000

def sumD (rs : List DRep) (k : Nat) : Nat := ((rs.take k).map fun r => r.a.data.length).sum

theorem sumD_succ {rs : List DRep} {k : Nat} {r : DRep} (h : rs[k]? = some r) : sumD rs (k + 1) = sumD rs k + r.a.data.length := by
  obtain ⟨hk, rfl⟩ := List.getElem?_eq_some_iff.1 h
  unfold sumD
  rw [List.take_succ_eq_append_getElem hk, List.map_append, List.sum_append]
  rfl

theorem sumD_le {rs : List DRep} (h : ∀ r ∈ rs, r.a.data.length ≤ 268435456) : ∀ k, k ≤ rs.length → sumD rs k ≤ k * 268435456
  | 0, _ => by simp [sumD]
  | k + 1, hk => by
    have h1 := sumD_le h k (by omega)
    have h2 : rs[k]? = some rs[k] := List.getElem?_eq_getElem (by omega)
    rw [sumD_succ h2]
    have := h rs[k] (List.getElem_mem _)
    omega

theorem totA_sumD {a : ASt} {rs : List DRep} (h : a.fs = rs.map (·.a)) : totA a.fs = sumD rs rs.length := by
  unfold totA sumD
  rw [h, List.take_length, List.map_map]
  rfl

theorem DocOK.whole {w : World} {role : DRole} {M : Nat} {a : ASt} {rs : List DRep} {fv kv lv uv : Value} (h : DocOK w role M a rs fv kv lv uv) (hc : Coh a) {r : DRep} (hr : r ∈ rs) : Whole r.a :=
  hc.whole r.a (by rw [h.fs]; exact List.mem_map_of_mem hr)

theorem RoI.shape {w : World} {role : DRole} {v : Value} {l : List Int} (h : RoI w role v l) : ∃ q n c, v = .slice q n c := by
  rcases h.1.2 with ⟨e, _⟩ | ⟨g, cap, cur, e, _⟩
  · exact ⟨_, _, _, e⟩
  · exact ⟨_, _, _, e⟩

theorem RoI.hasQ {w : World} {role : DRole} {v : Value} {l : List Int} (h : RoI w role v l) (n : Int) (hl : l.length ≤ 140737488355328) (nq : Nat) :
    Calls Try.prog 80 #[v, .int .i64 n] (w.drewN nq) fun e w' => e = .returned (.bool (decide (n ∈ l))) ∧ w' = w.drewN nq := by
  refine (rhas_any (w := w.drewN nq) (RdI.of_own h.1) n hl).mono ?_
  rintro r w' ⟨rfl, rfl⟩
  exact ⟨rfl, rfl⟩

set_option maxHeartbeats 1000000 in
set_option maxRecDepth 100000 in
theorem rroom_any {w : World} {role : DRole} {M : Nat} {a : ASt} {rs : List DRep} {fv kv lv uv : Value} (h : DocOK w role M a rs fv kv lv uv) (hc : Coh a) (hf : FewD rs) (hul : a.full.length ≤ 140737488355328) (more : Int) (hm : -1000000000 ≤ more ∧ more ≤ 1000000000) :
    Calls Try.prog 67 #[.pointer (some ⟨M, 0, none⟩), .int .i64 more] w fun e w' => e = .returned (.bool (!fullA a more)) ∧ Hid (Below w.heap.size w w') := by
  have m3 : w.cell? ⟨M, 3, none⟩ = some uv := blk_cell h.str rfl
  have m6 : w.cell? ⟨M, 6, none⟩ = some (.int .i64 a.ops) := blk_cell h.str rfl
  have hcon := fun nq => h.kU.hasQ a.ops hul nq
  obtain ⟨q3, n3, c3, e3⟩ := h.kU.shape
  subst e3
  have HD := hideP h
  clear h
  by_cases hin : a.ops ∈ a.full
  · have hT : fullA a more = true := by unfold fullA; simp [hin]
    have hd : decide (a.ops ∈ a.full) = true := by simpa using hin
    rw [hd] at hcon
    rw [hT]
    clear hT hd hin hc hf HD hm
    go_enter Try.func67, Try.ntmps67
    go_wp2
    go_quiet ((go_at_call 80; exact Calls.quiet_of_same (hcon _)))
    go_wp2
    go_ret
    exact ⟨rfl, below_drewN (Below.refl _ _) _⟩
  · have hd : decide (a.ops ∈ a.full) = false := by simpa using hin
    rw [hd] at hcon
    have HF : Hid (fullA a more = (decide (0 < a.room) && decide (0 < more) && decide (a.room < sumD rs rs.length + more))) := by
      unfold fullA
      rw [hd, HD.out.fs, ← HD.out.fs, totA_sumD HD.out.fs]
      rfl
    obtain ⟨B, hB⟩ : ∃ B, B = fullA a more := ⟨_, rfl⟩
    rw [← hB] at HF ⊢
    have HW : Hid (∀ r ∈ rs, Whole r.a ∧ r.a.chs.length ≤ 1000 ∧ r.a.data.length ≤ 268435456) := fun r hr => ⟨HD.out.whole hc hr, hf.2 r hr, (HD.out.files r hr).lenD (HD.out.whole hc hr)⟩
    have HS : Hid (∀ k, k ≤ rs.length → sumD rs k ≤ k * 268435456) := sumD_le (fun r hr => (HW.out r hr).2.2)
    have hl := hf.1
    have m5 : w.cell? ⟨M, 5, none⟩ = some fv := blk_cell HD.out.str rfl
    obtain ⟨qf, cf, ef⟩ := HD.out.fvS
    generalize hnl : rs.length = nl at *
    have HN := hideP hnl
    subst ef
    have HIR := hideP HD.out.iR
    clear hin hd hB hc hf hnl
    go_enter Try.func67, Try.ntmps67
    go_wp2
    go_quiet ((go_at_call 80; exact Calls.quiet_of_same (hcon _)))
    go_wp2
    clear m3 m6 m5 hcon
    go_loopw [5, 23] (fun s i wr => ∃ k : Nat, k ≤ nl ∧ i = .int .i64 k ∧ s = .int .i64 (sumD rs k : Nat) ∧ Hid (Below w.heap.size w wr)) (fun _ i _ => nl - (intOf i).toNat)
    case atStart => exact ⟨0, Nat.zero_le _, rfl, rfl, below_drewN (Below.refl _ _) _⟩
    case round =>
      obtain ⟨k, hk, rfl, rfl, HBR⟩ := hrel
      by_cases hkl : k < nl
      · have hkl' : (k : Int) < (nl : Int) := by omega
        have hkL : k < rs.length := by rw [HN.out]; exact hkl
        obtain ⟨r, hr⟩ : ∃ r, rs[k]? = some r := ⟨_, List.getElem?_eq_getElem hkL⟩
        have hD := HD.out.still HBR.out
        obtain ⟨g, cap', e, _, _, _, c0, c1, c2, _⟩ := hD.file hr
        cases e
        have hmem := List.mem_of_getElem? hr
        have hal : ∀ o, Below wr.heap.size wr (wr.alloc o) := fun o => (Below.refl _ wr).alloc (Nat.le_refl _) o
        obtain ⟨z1, z2, z3⟩ := HW.out r hmem
        have hdat := ((hD.files r hmem).kept (w' := wr.alloc (.cells #[.string r.a.name, r.sv, r.cv] 90)) (fun k e hk => ⟨(hal _).block k hk, e⟩) (fun k e => ⟨(hal _).block k ((hD.files r hmem).row.lt k e).2, (hD.files r hmem).rowR k e⟩)).dataD z1 z2
        have z4 := HS.out k hk
        have z5 := HS.out (k + 1) (by omega)
        have t1 : IntKind.i64.wrap (((sumD rs k : Nat) : Int) + ((r.a.data.length : Nat) : Int)) = ((sumD rs (k + 1) : Nat) : Int) := by rw [sumD_succ hr, IntKind.wrap_i64]; omega
        have t2 : IntKind.i64.wrap ((k : Int) + 1) = (k : Int) + 1 := by rw [IntKind.wrap_i64]; omega
        obtain ⟨x1, x2, x3, ex⟩ : ∃ q n c, r.sv = .slice q n c := by
          obtain ⟨q, c, e, _⟩ := own_slice (hD.files r hmem).safe.1
          exact ⟨_, _, _, e⟩
        obtain ⟨y1, y2, ey, _⟩ := (hD.files r hmem).crow
        have HDT := hideP hdat
        have HAL := hideP (hal (.cells #[.string r.a.name, r.sv, r.cv] 90))
        rw [ex] at c1
        rw [ey] at c2
        rw [ex, ey] at HDT HAL
        generalize r.a.chs.length = nc at *
        generalize r.a.name = nm at *
        generalize r.a.data = dat at *
        clear hD hdat z1 z2 z3 hal hmem z4 z5
        go_wp2_with fail
        refine HDT.out.mono ?_
        rintro e9 w5 ⟨q5, n5, c5, rfl, HO⟩
        have hn5 := HO.out.2
        have HB5 : Hid (Below w.heap.size w w5) := HBR.out.trans ((HAL.out.trans (HO.out.1.2.mono HAL.out.size)).mono HBR.out.size)
        rw [← hn5] at t1
        clear HO HDT HAL HBR hn5
        go_wp2
        exact ⟨⟨k + 1, by omega, by go_num, rfl, HB5⟩, by simp [intOf]; omega⟩
      · have hkl' : ¬ (k : Int) < (nl : Int) := by omega
        have hkn : k = nl := by omega
        subst hkn
        have m4 : wr.cell? ⟨M, 4, none⟩ = some (.int .i64 a.room) := blk_cell (HD.out.still HBR.out).str rfl
        obtain ⟨r1, r2⟩ := HIR.out
        have z4 := HS.out k (Nat.le_refl _)
        obtain ⟨hm1, hm2⟩ := hm
        have t1 : IntKind.i64.wrap (((sumD rs k : Nat) : Int) + more) = ((sumD rs k : Nat) : Int) + more := by rw [IntKind.wrap_i64]; omega
        have hBv := HF.out
        generalize sumD rs k = sm at *
        generalize a.room = ro at *
        by_cases hr0 : ro ≤ 0
        · have hT : B = false := by rw [hBv, decide_eq_false (by omega)]; rfl
          subst hT
          clear hBv HF
          go_wp2
          go_ret
          exact ⟨rfl, HBR⟩
        · by_cases hm0 : more ≤ 0
          · have hT : B = false := by rw [hBv, decide_eq_false (p := 0 < more) (by omega), Bool.and_false]; rfl
            subst hT
            clear hBv HF
            go_wp2
            go_ret
            exact ⟨rfl, HBR⟩
          · by_cases hle : (sm : Int) + more ≤ ro
            · have hT : B = false := by rw [hBv, decide_eq_false (p := ro < sm + more) (by omega), Bool.and_false]
              subst hT
              clear hBv HF
              go_wp2
              go_ret
              exact ⟨rfl, HBR⟩
            · have hT : B = true := by rw [hBv, decide_eq_true (p := ro < sm + more) (by omega), decide_eq_true (p := 0 < ro) (by omega), decide_eq_true (p := 0 < more) (by omega)]; rfl
              subst hT
              clear hBv HF
              go_wp2
              go_ret
              exact ⟨rfl, HBR⟩

end Go.Proofs.Ytcceaokldphfgaa

namespace Go.Proofs.Ytcceaokldphfgaa
open Go.RowKit Go.Shelf

/-- The same disk, told anew. -/
theorem DocOK.re {w w' : World} {role role' : DRole} {M : Nat} {a a' : ASt} {rs rs' : List DRep} {fv fv' kv lv uv : Value} (h : DocOK w role M a rs fv kv lv uv) (hext : ∀ k, k < w.heap.size → role' k = role k) (h4 : ∀ k, role k = 4 → k < w.heap.size → w'.heap[k]? = w.heap[k]?)
    (str : w'.heap[M]? = some (.cells (docC a' fv' kv lv uv) 41 (0, 0))) (hk : a'.keep = a.keep) (hf : a'.fail = a.fail) (hu : a'.full = a.full) (hc : a'.crash = a.crash) (hr : a'.room = a.room) (hfs : a'.fs = rs'.map (·.a)) (row : w'.ownsRow 0 90 3 fv' rs'.length (filesC rs'))
    (rowR : ∀ k, fv'.ownBlock = some k → role' k = 2) (files : ∀ r ∈ rs', DFileOK w' role' r) (apart : rs'.Pairwise fun r q => ∀ k, r.cv.ownBlock = some k → q.cv.ownBlock ≠ some k) (one : ∀ k, role' k = 1 → k = M) (dom : ∀ k, role' k ≠ 0 → k < w'.heap.size) : DocOK w' role' M a' rs' fv' kv lv uv := by
  have hM := h.dom M (by rw [h.roleM]; omega)
  have h4' : ∀ k, role k = 4 → k < w.heap.size → w'.heap[k]? = w.heap[k]? ∧ role' k = 4 := fun k e hk => ⟨h4 k e hk, (hext k hk).trans e⟩
  exact ⟨str, (hext M hM).trans h.roleM, one, hfs, row, rowR, files, apart, by rw [hk]; exact h.kK.kept h4', by rw [hf]; exact h.kF.kept h4', by rw [hu]; exact h.kU.kept h4', dom, by rw [hc]; exact h.iC, by rw [hr]; exact h.iR⟩

theorem apart_get {rs : List DRep} (h : rs.Pairwise fun r q => ∀ k, r.cv.ownBlock = some k → q.cv.ownBlock ≠ some k) {i j k : Nat} {r q : DRep} (hi : rs[i]? = some r) (hj : rs[j]? = some q) (e1 : r.cv.ownBlock = some k) (e2 : q.cv.ownBlock = some k) : i = j := by
  obtain ⟨hi', rfl⟩ := List.getElem?_eq_some_iff.1 hi
  obtain ⟨hj', rfl⟩ := List.getElem?_eq_some_iff.1 hj
  rcases Nat.lt_trichotomy i j with h1 | h1 | h1
  · exact absurd e2 (List.pairwise_iff_getElem.1 h i j hi' hj' h1 k e1)
  · exact h1
  · exact absurd e1 (List.pairwise_iff_getElem.1 h j i hj' hi' h1 k e2)

theorem apart_mk {rs : List DRep} (h : ∀ (i j k : Nat) (r q : DRep), rs[i]? = some r → rs[j]? = some q → r.cv.ownBlock = some k → q.cv.ownBlock = some k → i = j) : rs.Pairwise fun r q => ∀ k, r.cv.ownBlock = some k → q.cv.ownBlock ≠ some k := by
  rw [List.pairwise_iff_getElem]
  intro i j hi hj hij k e1 e2
  have := h i j k _ _ (List.getElem?_eq_getElem hi) (List.getElem?_eq_getElem hj) e1 e2
  omega

theorem filesC_set : ∀ {rs : List DRep} {i : Nat} {r q : DRep}, rs[i]? = some r → q.a.name = r.a.name → q.sv = r.sv → filesC (rs.set i q) = (filesC rs).set (i * 3 + 2) q.cv
  | [], i, r, q, h, _, _ => by simp at h
  | x :: rs, 0, r, q, h, h1, h2 => by
    simp only [List.getElem?_cons_zero, Option.some.injEq] at h
    subst h
    simp [filesC, h1, h2]
  | x :: rs, i + 1, r, q, h, h1, h2 => by
    have ih := filesC_set (rs := rs) (i := i) (by simpa using h) h1 h2
    show [Value.string x.a.name, x.sv, x.cv] ++ filesC (rs.set i q) = ([Value.string x.a.name, x.sv, x.cv] ++ filesC rs).set ((i + 1) * 3 + 2) q.cv
    rw [ih, List.set_append_right _ _ (by simp; omega)]
    congr 2
    simp
    omega

theorem chgsC_snoc {cs : List Chg} {ds : List Value} (h : ds.length = cs.length) (c : Chg) (d : Value) : chgsC (cs ++ [c]) (ds ++ [d]) = chgsC cs ds ++ chgC c d := by
  unfold chgsC
  rw [List.zipWith_append h.symm]
  simp

theorem chgC_one (c : Chg) (d : Value) (hd : d.oneCell' = true) : ∀ u ∈ chgC c d, u.oneCell' = true := by
  obtain ⟨b, x, l, e⟩ := chgC_four c d
  intro u hu
  rw [e] at hu
  simp only [List.mem_cons, List.not_mem_nil, or_false] at hu
  rcases hu with rfl | rfl | rfl | rfl
  · rfl
  · rfl
  · rfl
  · exact hd

theorem Try.info114 : (Try.prog.info? 114).map (fun i => (i.zero, i.size, i.bytes)) = some (some (.agg #[.bool false, .int .i64 0, .int .i64 0, .slice none 0 0]), 4, 48) := by kernel_rfl

theorem Try.info90 : (Try.prog.info? 90).map (fun i => (i.zero, i.size, i.bytes)) = some (some (.agg #[.string ByteArray.empty, .slice none 0 0, .slice none 0 0]), 3, 64) := by kernel_rfl

/-- One more change in a file's row. -/
theorem DFileOK.more {W : World} {role : DRole} {r : DRep} {c : Chg} {d : Value} {b : Bool} {at_ long : Int} (h : DFileOK W role r) (hd : RoB W role d (chgL c)) (h4 : chgC c d = [.bool b, .int .i64 at_, .int .i64 long, d]) (hn : r.a.chs.length ≤ 1000) :
    ∃ q' c' w7, (Builtin.append_ #[88, 88] 88 #[r.cv, .slice (some ⟨W.heap.size, 0, none⟩) 1 1]).run Try.prog (W.alloc (.cells #[.bool b, .int .i64 at_, .int .i64 long, d] 114)) = .ok (.slice q' (r.a.chs.length + 1) c') w7 ∧
      w7.ownsRow 0 114 4 (.slice q' (r.a.chs.length + 1) c') (r.a.chs.length + 1) (chgsC (r.a.chs ++ [c]) (r.ds ++ [d])) ∧ Grew W w7 r.cv (.slice q' (r.a.chs.length + 1) c') := by
  obtain ⟨i0, hi0, hz0, hz1, hz2⟩ := info_parts Try.info114
  have hd1 : d.oneCell' = true := by
    obtain ⟨a, k, e, _⟩ := own_slice hd.1
    rw [e]; rfl
  have hnew : (W.alloc (.cells #[.bool b, .int .i64 at_, .int .i64 long, d] 114)).heap[W.heap.size]? = some (.cells #[.bool b, .int .i64 at_, .int .i64 long, d] 114 (0, 0)) := World.alloc_heap_new W _
  obtain ⟨v', w7, hrun, hown, hgrew⟩ := app_wide (P := Try.prog) (W.alloc (.cells #[.bool b, .int .i64 at_, .int .i64 long, d] 114)) 88 88 114 i0 _ 4 48 Try.underlying88 hi0 hz0 hz1 hz2 rfl (by decide) r.cv r.a.chs.length _ (h.row.alloc _) ⟨W.heap.size, 0, none⟩ 1 1 (chgC c d) (by rw [h4]; rfl)
    (fun j u hu => by rw [Addr.add_lit, h4] at *; exact blk_cell hnew (by simpa using hu)) (chgC_one c d hd1) (by unfold maxLen; omega) (by omega)
  have hsl : ∃ q' c', v' = .slice q' (r.a.chs.length + 1) c' := by
    rcases hown.2 with ⟨_, h0⟩ | ⟨g, cap, cur, e, _⟩
    · omega
    · exact ⟨_, _, e⟩
  obtain ⟨q', c', rfl⟩ := hsl
  exact ⟨q', c', w7, hrun, by rw [chgsC_snoc h.dsLen]; exact hown, grew_alloc hgrew⟩

theorem DocOK.chg_step {W : World} {role : DRole} {M i : Nat} {a : ASt} {rs : List DRep} {r : DRep} {fv kv lv uv d : Value} {c : Chg} {b : Bool} {at_ long : Int} (h : DocOK W role M a rs fv kv lv uv) (hi : rs[i]? = some r) (hd : RoB W role d (chgL c)) (hm : ChgMay c) (h4 : chgC c d = [.bool b, .int .i64 at_, .int .i64 long, d]) (hn : r.a.chs.length ≤ 1000) (hs : SortedA a.fs) {g cap : Nat} (hfv : fv = .slice (some ⟨g, 0, none⟩) rs.length cap) :
    ∃ q' c' w7, Hid ((Builtin.append_ #[88, 88] 88 #[r.cv, .slice (some ⟨W.heap.size, 0, none⟩) 1 1]).run Try.prog (W.alloc (.cells #[.bool b, .int .i64 at_, .int .i64 long, d] 114)) = .ok (.slice q' (r.a.chs.length + 1) c') w7) ∧
      (∀ k, role k ≠ 3 → k < W.heap.size → w7.heap[k]? = W.heap[k]?) ∧
      Hid (∃ role' rs', DocOK (w7.setCell ⟨g, i * 3 + 2, none⟩ (.slice q' (r.a.chs.length + 1) c')) role' M { a with fs := setA a.fs r.a.name (changeA c) } rs' fv kv lv uv ∧ DStp role role' W (w7.setCell ⟨g, i * 3 + 2, none⟩ (.slice q' (r.a.chs.length + 1) c'))) := by
  have hmem := List.mem_of_getElem? hi
  have hF := h.files r hmem
  obtain ⟨q', c', w7, hrun, hown, hgr⟩ := hF.more hd h4 hn
  refine ⟨q', c', w7, hrun, ?_, ?_⟩
  · intro k hk hkz
    exact hgr.by_.block k hkz (fun e => hk (hF.rowR k e.symm))
  have hz := hgr.by_.size
  have hg2 : role g = 2 := h.rowR g (by rw [hfv]; rfl)
  have hgz : g < W.heap.size := h.dom g (by omega)
  have hcv : ∀ k, (Value.slice q' (r.a.chs.length + 1) c').ownBlock = some k → r.cv.ownBlock = some k ∨ W.heap.size ≤ k := hgr.at_
  have hw7 : ∀ k, k < W.heap.size → role k ≠ 3 → w7.heap[k]? = W.heap[k]? := fun k hk h3 => hgr.by_.block k hk (fun e => h3 (hF.rowR k e.symm))
  have hset : ∀ k, k ≠ g → (w7.setCell ⟨g, i * 3 + 2, none⟩ (.slice q' (r.a.chs.length + 1) c')).heap[k]? = w7.heap[k]? := fun k hk => Below.heap_setCell _ _ _ k hk
  have hne : ∀ k, role k ≠ 2 → k ≠ g := fun k h2 e => h2 (by rw [e]; exact hg2)
  have hM : role M = 1 := h.roleM
  have hMz := h.dom M (by omega)
  obtain ⟨role', hrole⟩ : ∃ role' : DRole, role' = fun k => if k < W.heap.size then role k else if (Value.slice q' (r.a.chs.length + 1) c').ownBlock = some k then 3 else 0 := ⟨_, rfl⟩
  have hro : ∀ k, k < W.heap.size → role' k = role k := fun k hk => by rw [hrole]; simp only [if_pos hk]
  have hro3 : ∀ k, (Value.slice q' (r.a.chs.length + 1) c').ownBlock = some k → role' k = 3 := fun k e => by
    rcases hcv k e with h1 | h1
    · rw [hro k (hF.row.lt k h1).2]; exact hF.rowR k h1
    · rw [hrole]; simp only [if_neg (by omega : ¬ k < W.heap.size), if_pos e]
  have hrow7 : w7.ownsRow 0 90 3 (.slice (some ⟨g, 0, none⟩) rs.length cap) rs.length (filesC rs) := by
    rw [← hfv]; exact own_keep h.row (fun k e => by rw [hfv] at e; cases e; exact hw7 g hgz (by omega))
  have hst := hrow7.stored (i * 3 + 2) (.slice q' (r.a.chs.length + 1) c')
  have hsz : (w7.setCell ⟨g, i * 3 + 2, none⟩ (.slice q' (r.a.chs.length + 1) c')).heap.size = w7.heap.size := by simp [World.setCell]
  refine ⟨role', rs.set i { r with a := changeA c r.a, cv := .slice q' (r.a.chs.length + 1) c', ds := r.ds ++ [d] }, ?_, ?_⟩
  · have hsn := set_name (changeA c) hs (i := i) (x := r.a) (by rw [h.fs, List.getElem?_map, hi]; rfl)
    refine h.re hro (fun k e hk => (hset k (hne k (by omega))).trans (hw7 k hk (by omega))) ((hset M (hne M (by omega))).trans ((hw7 M hMz (by omega)).trans h.str)) rfl rfl rfl rfl rfl ?_ ?_ ?_ ?_ ?_ ?_ ?_
    · show setA a.fs r.a.name (changeA c) = _
      rw [← hsn, h.fs, List.map_set]
    · rw [filesC_set (q := { r with a := changeA c r.a, cv := .slice q' (r.a.chs.length + 1) c', ds := r.ds ++ [d] }) hi rfl rfl, hfv, List.length_set]
      exact hst.1
    · intro k e
      rw [hfv] at e
      cases e
      exact (hro g hgz).trans hg2
    · intro r2 hr2
      have h44 : ∀ k, role k = 4 → k < W.heap.size → (w7.setCell ⟨g, i * 3 + 2, none⟩ (.slice q' (r.a.chs.length + 1) c')).heap[k]? = W.heap[k]? ∧ role' k = 4 := fun k e hk => ⟨(hset k (hne k (by omega))).trans (hw7 k hk (by omega)), (hro k hk).trans e⟩
      obtain ⟨j, hj⟩ := List.mem_iff_getElem?.1 hr2
      rw [List.getElem?_set] at hj
      split at hj
      · rename_i hij
        split at hj
        · simp only [Option.some.injEq] at hj
          subst hj
          refine ⟨hF.safe.kept h44, ?_, hro3, ?_, ?_, ?_, hF.len⟩
          · show (w7.setCell ⟨g, i * 3 + 2, none⟩ (.slice q' (r.a.chs.length + 1) c')).ownsRow 0 114 4 (.slice q' (r.a.chs.length + 1) c') (r.a.chs ++ [c]).length (chgsC (r.a.chs ++ [c]) (r.ds ++ [d]))
            rw [List.length_append]
            refine own_keep hown (fun k e => hset k (fun e2 => ?_))
            subst e2
            rcases hcv k e with h1 | h1
            · have := hF.rowR k h1; omega
            · omega
          · show (r.ds ++ [d]).length = (r.a.chs ++ [c]).length
            rw [List.length_append, List.length_append, hF.dsLen]; rfl
          · intro j2 c2 d2 e1 e2
            replace e1 : (r.a.chs ++ [c])[j2]? = some c2 := e1
            replace e2 : (r.ds ++ [d])[j2]? = some d2 := e2
            rw [List.getElem?_append] at e1 e2
            rw [hF.dsLen] at e2
            split at e1
            · rename_i hlt
              rw [if_pos hlt] at e2
              exact (hF.data j2 c2 d2 e1 e2).kept h44
            · rename_i hlt
              rw [if_neg hlt] at e2
              have hj0 : j2 - r.a.chs.length = 0 := by
                rcases Nat.eq_zero_or_pos (j2 - r.a.chs.length) with h1 | h1
                · exact h1
                · rw [List.getElem?_eq_none (by simp; omega)] at e1; cases e1
              rw [hj0] at e1 e2
              cases e1
              cases e2
              exact hd.kept h44
          · intro c2 hc2
            replace hc2 : c2 ∈ r.a.chs ++ [c] := hc2
            simp only [List.mem_append, List.mem_singleton] at hc2
            rcases hc2 with hc2 | rfl
            · exact hF.may c2 hc2
            · exact hm
        · cases hj
      · rename_i hij
        have hF2 := h.files r2 (List.mem_of_getElem? hj)
        refine hF2.kept h44 (fun k e => ?_)
        have hkz := (hF2.row.lt k e).2
        have h3 := hF2.rowR k e
        refine ⟨(hset k (hne k (by omega))).trans (hgr.by_.block k hkz (fun e' => hij (apart_get h.apart hi hj e'.symm e))), (hro k hkz).trans h3⟩
    · refine apart_mk (fun i1 i2 k r1 r2 e1 e2 o1 o2 => ?_)
      rw [List.getElem?_set] at e1 e2
      split at e1
      · rename_i hi1
        split at e1
        · cases e1
          split at e2
          · rename_i hi2
            omega
          · have hk2 := ((h.files r2 (List.mem_of_getElem? e2)).row.lt k o2).2
            rcases hcv k o1 with h1 | h1
            · rw [← hi1]; exact apart_get h.apart hi e2 h1 o2
            · omega
        · cases e1
      · split at e2
        · rename_i hi2
          split at e2
          · cases e2
            have hk2 := ((h.files r1 (List.mem_of_getElem? e1)).row.lt k o1).2
            rcases hcv k o2 with h1 | h1
            · rw [← hi2]; exact apart_get h.apart e1 hi o1 h1
            · omega
          · cases e2
        · exact apart_get h.apart e1 e2 o1 o2
    · intro k e
      rcases Nat.lt_or_ge k W.heap.size with h1 | h1
      · rw [hro k h1] at e; exact h.one k e
      · rw [hrole] at e; simp only [if_neg (by omega : ¬ k < W.heap.size)] at e; split at e <;> omega
    · intro k e
      rw [hsz]
      rcases Nat.lt_or_ge k W.heap.size with h1 | h1
      · omega
      · rw [hrole] at e
        simp only [if_neg (by omega : ¬ k < W.heap.size)] at e
        split at e
        · rename_i e2
          exact (hown.lt k e2).2
        · omega
  · refine ⟨hgr.by_.os, hgr.by_.tape, hgr.by_.output, by rw [hsz]; exact hz, hro, fun k hk hr => (hset k (fun e => ?_)).trans (hw7 k hk (by omega))⟩
    subst e
    omega

end Go.Proofs.Ytcceaokldphfgaa
