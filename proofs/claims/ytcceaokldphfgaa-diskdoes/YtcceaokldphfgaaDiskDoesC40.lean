/- YtcceaokldphfgaaDiskDoesC40 -/
import Derived.Test.YtcceaokldphfgaaDiskDoesC39
import Derived.Test.YtcceaokldphfgaaDiskDoesC36
import Derived.Test.YtcceaokldphfgaaDiskDoesC24
namespace Go.Proofs.Ytcceaokldphfgaa
open Go.RowKit Go.Shelf

theorem drop_name : ∀ {L : List AFile} {i : Nat} {x : AFile}, SortedA L → L[i]? = some x → dropA L x.name = L.eraseIdx i
  | [], _, _, _, h => by simp at h
  | a :: L, 0, x, hs, h => by
    simp only [List.getElem?_cons_zero, Option.some.injEq] at h
    subst h
    have h1 := (List.pairwise_cons.1 hs).1
    show (a :: L).filter (fun f => cmpS f.name a.name != 0) = L
    rw [List.filter_cons_of_neg (by simp [cmp_self]), List.filter_eq_self]
    intro b hb
    have h2 := h1 b hb
    rw [bne_iff_ne]
    intro h3
    rw [cmpS_zero.1 h3, cmp_self] at h2
    omega
  | a :: L, i + 1, x, hs, h => by
    simp only [List.getElem?_cons_succ] at h
    have ih := drop_name (List.pairwise_cons.1 hs).2 h
    have h1 := (List.pairwise_cons.1 hs).1 x (List.mem_of_getElem? h)
    show (a :: L).filter (fun f => cmpS f.name x.name != 0) = a :: L.eraseIdx i
    rw [List.filter_cons_of_pos (by rw [bne_iff_ne]; omega)]
    congr 1

/-- The document's disk, whatever its plan. -/
def DocAny (w : World) (role : DRole) (M : Nat) (a : ASt) (w' : World) : Prop := ∃ kv lv uv, DocTo w role M a kv lv uv w'

set_option maxHeartbeats 2000000 in
set_option maxRecDepth 100000 in
theorem rremove_any {w : World} {role : DRole} {M n : Nat} {a : ASt} {rs : List DRep} {fv kv lv uv : Value} (h : DocOK w role M a rs fv kv lv uv) (hc : Coh a) (hf : FewA n a) (hn : n ≤ 998) (hs : SortedA a.fs) (t : ByteArray) :
    Calls Try.prog 43 #[.pointer (some ⟨M, 0, none⟩), .string t] w fun e w' => e = .returned (.int .i64 (removeA a t).2) ∧ Hid (DocTo w role M (removeA a t).1 kv lv uv w') := by
  have hbg := rbegin_any h hf (by omega)
  obtain ⟨X, hX⟩ : ∃ X, X = removeA a t := ⟨_, rfl⟩
  rw [← hX]
  by_cases he : (beginA a).2 = 0
  · have hba : (beginA a).1 = bumpA a := (begin_zero he).1
    rw [he, hba] at hbg
    have HG := hideP (And.intro hc (And.intro hf (And.intro hs (And.intro he hX))))
    clear h hc hf hs he hX hba
    go_enter Try.func43, Try.ntmps43
    go_wp2_with fail
    refine hbg.mono ?_
    rintro e9 W1 ⟨rfl, HT⟩
    clear hbg
    obtain ⟨role1, rs1, fv1, h1, s1⟩ := HT.out
    obtain ⟨hc, hf, hs, he, hX⟩ := HG.out
    have hfew : FewD rs1 := h1.few hf.bump (by omega)
    have hfs : a.fs = rs1.map (·.a) := h1.fs
    have hfd := rfind_any h1 hfew.1 t
    have H1 := hideP (And.intro h1 (And.intro s1 (And.intro hfew hfs)))
    clear h1 s1 hfew hfs hc hf hs he hX HT
    go_wp2_with fail
    refine hfd.mono ?_
    rintro e9 w9 ⟨⟨x, rfl, HFR⟩, rfl⟩
    clear hfd
    obtain ⟨h1, s1, hfew, hfs⟩ := H1.out
    obtain ⟨hc, hf, hs, he, hX⟩ := HG.out
    rcases HFR.out with ⟨hx, hno⟩ | ⟨i, r, hx, hr, hnm, hfst⟩
    · subst hx
      have hXv : X = (bumpA a, 13) := by rw [hX]; exact on_no he (by rw [hfs]; exact find_no hno)
      have HF : Hid (DocTo w role M X.1 kv lv uv W1) := by rw [hXv]; exact ⟨role1, rs1, fv1, h1, s1⟩
      have HX2 : Hid (X.2 = 13) := (by rw [hXv] : X.2 = 13)
      clear h1 s1 hfew hfs hc hf hs he hX hno hXv H1 HG HFR
      go_wp2
      go_ret
      refine ⟨?_, HF⟩
      rw [HX2.out]
      rfl
    · subst hx
      have hfa : findA a.fs t = some r.a := by rw [hfs]; exact find_yes hr hnm hfst
      have hi0 : ¬ (i : Int) < 0 := by omega
      have hmem := List.mem_of_getElem? hr
      have hil : i < rs1.length := (List.getElem?_eq_some_iff.1 hr).1
      have hi1 : (i : Int) < 1000 := by have := hfew.1; omega
      have hot := rout_any h1 hr hfew.1
      have hXv : X = ({ bumpA a with fs := dropA (bumpA a).fs t }, 0) := by rw [hX]; exact on_yes he hfa
      have hdr : dropA (bumpA a).fs t = (bumpA a).fs.eraseIdx i := by rw [← hnm]; exact drop_name hs (by show a.fs[i]? = _; rw [hfs, List.getElem?_map, hr]; rfl)
      have HF : Hid (∀ w', OutTo W1 role1 M (bumpA a) rs1 i r kv lv uv w' → DocTo w role M X.1 kv lv uv w') := fun w' ⟨role', fv', g1, g2, _⟩ => by
        rw [hXv]
        show DocTo w role M { bumpA a with fs := dropA (bumpA a).fs t } kv lv uv w'
        rw [hdr]
        exact ⟨role', _, fv', g1, s1.trans g2⟩
      have HX2 : Hid (X.2 = 0) := (by rw [hXv] : X.2 = 0)
      have HOT := hideP hot
      generalize Value.agg #[.string r.a.name, r.sv, r.cv] = fvv at *
      clear h1 s1 hfew hfs hc hf hs he hX hXv H1 HG HFR hmem hfa hr hnm hfst hdr hot
      go_wp2_with fail
      refine HOT.out.mono ?_
      rintro e9 w9 ⟨rfl, HT⟩
      have HF9 := hideP (HF.out _ HT.out)
      clear HOT HF HT
      go_wp2
      go_ret
      refine ⟨?_, HF9⟩
      rw [HX2.out]
      rfl
  · have hXv : X = beginA a := by rw [hX]; exact on_err he
    have hne : ((beginA a).2 != 0) = true := by simpa using he
    rw [← hXv] at hbg hne
    clear h hc hf hs hX hXv he
    generalize X.2 = y at *
    go_enter Try.func43, Try.ntmps43
    go_wp2_with fail
    refine hbg.mono ?_
    rintro e9 W1 ⟨rfl, HT⟩
    clear hbg
    go_wp2
    go_ret
    exact ⟨rfl, HT⟩

end Go.Proofs.Ytcceaokldphfgaa

namespace Go.Proofs.Ytcceaokldphfgaa
open Go.RowKit Go.Shelf

def newS (cr ro : Int) (keep fail full : List Int) : ASt := { dead := false, crash := cr, room := ro, ops := 0, keep := keep, fail := fail, full := full, fs := [] }

/-- A disk of the document, all of it made since w. -/
def DocNew (w : World) (M : Nat) (a : ASt) (w' : World) : Prop := ∃ role rs fv kv lv uv, DocOK w' role M a rs fv kv lv uv ∧ Below w.heap.size w w' ∧ ∀ k, role k ≠ 0 → w.heap.size ≤ k

theorem plan_new {w w1 w2 : World} {M : Nat} {cr ro : Int} {keep fail full : List Int} {v1 v2 v3 : Value} (o1 : w1.ownsRow w.heap.size 3 1 v1 keep.length (keep.map (Value.int .i64))) (o2 : w1.ownsRow w.heap.size 3 1 v2 fail.length (fail.map (Value.int .i64))) (o3 : w1.ownsRow w.heap.size 3 1 v3 full.length (full.map (Value.int .i64))) (hb : Below w.heap.size w w1)
    (i1 : ∀ x ∈ keep, I64 x) (i2 : ∀ x ∈ fail, I64 x) (i3 : ∀ x ∈ full, I64 x) (iC : I64 cr) (iR : I64 ro) (hb2 : Below w1.heap.size w1 w2) (hMz : w1.heap.size ≤ M) (hM : w2.heap[M]? = some (.cells (docC (newS cr ro keep fail full) (.slice none 0 0) v1 v2 v3) 41 (0, 0))) : DocNew w M (newS cr ro keep fail full) w2 := by
  have hMl := (Array.getElem?_eq_some_iff.1 hM).1
  have hz := hb.size
  have hz2 := hb2.size
  obtain ⟨role, hrole⟩ : ∃ role : DRole, role = fun k => if k = M then 1 else if v1.ownBlock = some k ∨ v2.ownBlock = some k ∨ v3.ownBlock = some k then 4 else 0 := ⟨_, rfl⟩
  have h4 : ∀ k, (v1.ownBlock = some k ∨ v2.ownBlock = some k ∨ v3.ownBlock = some k) → w.heap.size ≤ k ∧ k < w1.heap.size := fun k e => by
    rcases e with e | e | e
    · exact o1.lt k e
    · exact o2.lt k e
    · exact o3.lt k e
  have hr4 : ∀ k, (v1.ownBlock = some k ∨ v2.ownBlock = some k ∨ v3.ownBlock = some k) → role k = 4 := fun k e => by
    have := (h4 k e).2
    rw [hrole]
    simp only
    rw [if_neg (by omega), if_pos e]
  have hrM : role M = 1 := by rw [hrole]; simp only [if_true]
  have hkeep : ∀ {v : Value} {l : List Int}, w1.ownsRow w.heap.size 3 1 v l.length (l.map (Value.int .i64)) → w2.ownsRow 0 3 1 v l.length (l.map (Value.int .i64)) := fun o => own_zero (own_keep o (fun k e => hb2.block k (o.lt k e).2))
  refine ⟨role, [], .slice none 0 0, v1, v2, v3, ⟨hM, hrM, fun k e => ?_, rfl, World.ownsRow_nil _ _ _ _, (fun k e => by cases e), (fun r hr => by simp at hr), List.Pairwise.nil, ⟨hkeep o1, fun k e => hr4 k (.inl e), i1⟩, ⟨hkeep o2, fun k e => hr4 k (.inr (.inl e)), i2⟩, ⟨hkeep o3, fun k e => hr4 k (.inr (.inr e)), i3⟩, fun k e => ?_, iC, iR⟩, hb.trans (hb2.mono hz), fun k e => ?_⟩
  · rw [hrole] at e
    simp only at e
    split at e
    · assumption
    · split at e <;> omega
  · rw [hrole] at e
    simp only at e
    split at e
    · rename_i e2; rw [e2]; exact hMl
    · split at e
      · rename_i e2; have := (h4 k e2).2; omega
      · omega
  · rw [hrole] at e
    simp only at e
    split at e
    · omega
    · split at e
      · rename_i e2; exact (h4 k e2).1
      · omega

set_option maxHeartbeats 1000000 in
set_option maxRecDepth 100000 in
theorem rnew_any {w : World} {a1 a2 a3 : Option Addr} {c1 c2 c3 : Nat} {cr ro : Int} {keep fail full : List Int} (hp : PlanAt w a1 a2 a3 c1 c2 c3 cr ro keep fail full) :
    Calls Try.prog 13 #[planV a1 a2 a3 c1 c2 c3 cr ro keep fail full] w fun e w' => ∃ M, e = .returned (.pointer (some ⟨M, 0, none⟩)) ∧ Hid (DocNew w M (newS cr ro keep fail full) w') := by
  unfold planV
  generalize hn1 : keep.length = n1
  generalize hn2 : fail.length = n2
  generalize hn3 : full.length = n3
  obtain ⟨O, hO⟩ : ∃ O : Obj, O = .cells #[.int .i64 cr, .slice a1 n1 c1, .slice a2 n2 c2, .slice a3 n3 c3, .int .i64 ro] 24 := ⟨_, rfl⟩
  have hal : Below w.heap.size w (w.alloc O) := (Below.refl _ w).alloc (Nat.le_refl _) O
  obtain ⟨W0, hW0⟩ : ∃ W0, W0 = w.alloc O := ⟨_, rfl⟩
  rw [← hW0] at hal
  have hp0 := hp.later hal
  have htw := planTwin_new W0 cr ro a1 a2 a3 c1 c2 c3 _ _ _ hp0.rK hp0.rF hp0.rU
  simp only [List.length_map, hn1, hn2, hn3] at htw
  have HTW : Hid (Calls Try.prog 11 #[.agg #[.int .i64 cr, .slice a1 n1 c1, .slice a2 n2 c2, .slice a3 n3 c3, .int .i64 ro]] W0 fun e w1 => ∃ v1 v2 v3, e = .returned (.agg #[.int .i64 cr, v1, v2, v3, .int .i64 ro]) ∧ Hid (DocNew w w1.heap.size (newS cr ro keep fail full) (w1.alloc (.cells (docC (newS cr ro keep fail full) (.slice none 0 0) v1 v2 v3) 41)))) := by
    refine htw.mono ?_
    rintro e w1 ⟨v1, v2, v3, rfl, hb1, o1, o2, o3⟩
    refine ⟨v1, v2, v3, rfl, ?_⟩
    have hd := plan_new (w := W0) (w1 := w1) (w2 := w1.alloc (.cells (docC (newS cr ro keep fail full) (.slice none 0 0) v1 v2 v3) 41)) (M := w1.heap.size) (cr := cr) (ro := ro) (keep := keep) (fail := fail) (full := full) (by rw [hn1]; exact o1) (by rw [hn2]; exact o2) (by rw [hn3]; exact o3) hb1 hp.iK hp.iF hp.iU hp.iC hp.iR ((Below.refl _ w1).alloc (Nat.le_refl _) _) (Nat.le_refl _) (World.alloc_heap_new w1 _)
    obtain ⟨role, rs, fv, kv, lv, uv, g1, g2, g3⟩ := hd
    exact ⟨role, rs, fv, kv, lv, uv, g1, hal.trans (g2.mono hal.size), fun k hk => Nat.le_trans hal.size (g3 k hk)⟩
  have HW0 : Hid (W0 = w.alloc (.cells #[.int .i64 cr, .slice a1 n1 c1, .slice a2 n2 c2, .slice a3 n3 c3, .int .i64 ro] 24)) := by rw [hW0, hO]; exact (rfl : _ = _)
  unfold newS docC at HTW
  clear hp hp0 htw hal hW0 hO hn1 hn2 hn3
  go_enter Try.func13, Try.ntmps13
  go_wp2_with fail
  rw [← HW0.out]
  refine HTW.out.mono ?_
  rintro e9 w1 ⟨v1, v2, v3, rfl, HF⟩
  clear HTW
  go_wp2
  go_ret
  exact ⟨_, rfl, HF⟩

end Go.Proofs.Ytcceaokldphfgaa

namespace Go.Proofs.Ytcceaokldphfgaa
open Go.RowKit Go.Shelf

/-- The document's disk gets another plan. -/
theorem DocOK.plan {W W2 W3 : World} {role : DRole} {M : Nat} {a : ASt} {rs : List DRep} {fv kv lv uv v1 v2 v3 : Value} {cr ro : Int} {keep fail full : List Int} (h : DocOK W role M a rs fv kv lv uv) (hb : Below W.heap.size W W2)
    (o1 : W2.ownsRow W.heap.size 3 1 v1 keep.length (keep.map (Value.int .i64))) (o2 : W2.ownsRow W.heap.size 3 1 v2 fail.length (fail.map (Value.int .i64))) (o3 : W2.ownsRow W.heap.size 3 1 v3 full.length (full.map (Value.int .i64)))
    (i1 : ∀ x ∈ keep, I64 x) (i2 : ∀ x ∈ fail, I64 x) (i3 : ∀ x ∈ full, I64 x) (iC : I64 cr) (iR : I64 ro)
    (hos : W3.os = W2.os) (htp : W3.tape = W2.tape) (hot : W3.output = W2.output) (hsz : W3.heap.size = W2.heap.size) (hne : ∀ k, k ≠ M → W3.heap[k]? = W2.heap[k]?)
    (hM : W3.heap[M]? = some (.cells (docC { a with crash := cr, room := ro, ops := 0, dead := false } fv v1 v2 v3) 41 (0, 0))) :
    ∃ role', DocOK W3 role' M { dead := false, crash := cr, room := ro, ops := 0, keep := keep, fail := fail, full := full, fs := a.fs } rs fv v1 v2 v3 ∧ DStp role role' W W3 := by
  have h4 : ∀ k, (v1.ownBlock = some k ∨ v2.ownBlock = some k ∨ v3.ownBlock = some k) → W.heap.size ≤ k ∧ k < W2.heap.size := fun k e => by
    rcases e with e | e | e
    · exact o1.lt k e
    · exact o2.lt k e
    · exact o3.lt k e
  have hM1 := h.roleM
  have hMz := h.dom M (by omega)
  have hz := hb.size
  obtain ⟨role', hrole⟩ : ∃ role' : DRole, role' = fun k => if v1.ownBlock = some k ∨ v2.ownBlock = some k ∨ v3.ownBlock = some k then 4 else role k := ⟨_, rfl⟩
  have hro : ∀ k, k < W.heap.size → role' k = role k := fun k hk => by
    rw [hrole]
    exact if_neg (fun e => by have := (h4 k e).1; omega)
  have hr4 : ∀ k, (v1.ownBlock = some k ∨ v2.ownBlock = some k ∨ v3.ownBlock = some k) → role' k = 4 := fun k e => by
    rw [hrole]
    exact if_pos e
  have hneR : ∀ k, role k ≠ 1 → k ≠ M := fun k hk e => hk (by rw [e]; exact hM1)
  have hsame : ∀ k, k < W.heap.size → role k ≠ 1 → W3.heap[k]? = W.heap[k]? := fun k hk hr => (hne k (hneR k hr)).trans (hb.block k hk)
  have h44 : ∀ k, role k = 4 → k < W.heap.size → W3.heap[k]? = W.heap[k]? ∧ role' k = 4 := fun k e hk => ⟨hsame k hk (by omega), (hro k hk).trans e⟩
  have hkeep : ∀ {v : Value} {l : List Int}, W2.ownsRow W.heap.size 3 1 v l.length (l.map (Value.int .i64)) → W3.ownsRow 0 3 1 v l.length (l.map (Value.int .i64)) := fun o => own_zero (own_keep o (fun k e => hne k (fun e2 => by have := (o.lt k e).1; omega)))
  refine ⟨role', ⟨hM, (hro M hMz).trans hM1, fun k e => ?_, h.fs, own_keep h.row (fun k e => hsame k (h.row.lt k e).2 (by rw [h.rowR k e]; omega)), fun k e => (hro k (h.row.lt k e).2).trans (h.rowR k e), fun r hr => (h.files r hr).kept h44 (fun k e => ?_), h.apart, ⟨hkeep o1, fun k e => hr4 k (.inl e), i1⟩, ⟨hkeep o2, fun k e => hr4 k (.inr (.inl e)), i2⟩, ⟨hkeep o3, fun k e => hr4 k (.inr (.inr e)), i3⟩, fun k e => ?_, iC, iR⟩, hos.trans hb.os, htp.trans hb.tape, hot.trans hb.output, by rw [hsz]; exact hz, hro, fun k hk hr => hsame k hk (by omega)⟩
  · rw [hrole] at e
    simp only at e
    split at e
    · omega
    · exact h.one k e
  · have h3 := (h.files r hr).rowR k e
    have hkz := ((h.files r hr).row.lt k e).2
    exact ⟨hsame k hkz (by omega), (hro k hkz).trans h3⟩
  · rw [hsz]
    rw [hrole] at e
    simp only at e
    split at e
    · rename_i e2; exact (h4 k e2).2
    · have := h.dom k e; omega

theorem RdS.stp {w w' : World} {role role' : DRole} {ao : Option Addr} {c : Nat} {xs : List Value} {bytes : Nat} (h : RdS w ao c xs bytes) (hs : DStp role role' w w') (h0 : ∀ ad, ao = some ad → xs ≠ [] → role ad.block = 0) : RdS w' ao c xs bytes := by
  refine ⟨h.nil, fun a e hne => Nat.lt_of_lt_of_le (h.lt a e hne) hs.size, fun a e j u hu => ?_, h.one, h.len, h.room⟩
  have hlt := h.lt a e (by rintro rfl; simp at hu)
  have hk := hs.keep a.block hlt (.inl (h0 a e (by rintro rfl; simp at hu)))
  have : w'.cell? (a.add j) = w.cell? (a.add j) := by simp only [World.cell?, add_block, hk]
  rw [this]
  exact h.at_ a e j u hu

def set7 (W2 : World) (M : Nat) (cr ro : Int) (v1 v2 v3 : Value) : World := ((((((W2.setCell ⟨M, 0, none⟩ (.int .i64 cr)).setCell ⟨M, 1, none⟩ v1).setCell ⟨M, 2, none⟩ v2).setCell ⟨M, 3, none⟩ v3).setCell ⟨M, 4, none⟩ (.int .i64 ro)).setCell ⟨M, 6, none⟩ (.int .i64 0)).setCell ⟨M, 7, none⟩ (.bool false)

theorem set7_at {W2 : World} {M : Nat} {a : ASt} {fv kv lv uv : Value} (h : W2.heap[M]? = some (.cells (docC a fv kv lv uv) 41 (0, 0))) (cr ro : Int) (v1 v2 v3 : Value) : (set7 W2 M cr ro v1 v2 v3).heap[M]? = some (.cells (docC { a with crash := cr, room := ro, ops := 0, dead := false } fv v1 v2 v3) 41 (0, 0)) := by
  unfold set7
  have hst := blk_set (o := 7) (blk_set (o := 6) (blk_set (o := 4) (blk_set (o := 3) (blk_set (o := 2) (blk_set (o := 1) (blk_set (o := 0) h (.int .i64 cr)) v1) v2) v3) (.int .i64 ro)) (.int .i64 0)) (.bool false)
  rw [hst]
  simp [docC]

theorem set7_other {W2 : World} {M k : Nat} (hk : k ≠ M) (cr ro : Int) (v1 v2 v3 : Value) : (set7 W2 M cr ro v1 v2 v3).heap[k]? = W2.heap[k]? :=
  (Below.heap_setCell _ _ _ k hk).trans ((Below.heap_setCell _ _ _ k hk).trans ((Below.heap_setCell _ _ _ k hk).trans ((Below.heap_setCell _ _ _ k hk).trans ((Below.heap_setCell _ _ _ k hk).trans ((Below.heap_setCell _ _ _ k hk).trans (Below.heap_setCell _ _ _ k hk))))))

theorem set7_size {W2 : World} {M : Nat} (cr ro : Int) (v1 v2 v3 : Value) : (set7 W2 M cr ro v1 v2 v3).heap.size = W2.heap.size := by unfold set7; simp [World.setCell]

theorem sc_os (w : World) (p : Addr) (v : Value) : (w.setCell p v).os = w.os := rfl

theorem sc_tape (w : World) (p : Addr) (v : Value) : (w.setCell p v).tape = w.tape := rfl

theorem sc_output (w : World) (p : Addr) (v : Value) : (w.setCell p v).output = w.output := rfl

theorem set7_oo (W2 : World) (M : Nat) (cr ro : Int) (v1 v2 v3 : Value) : (set7 W2 M cr ro v1 v2 v3).os = W2.os ∧ (set7 W2 M cr ro v1 v2 v3).tape = W2.tape ∧ (set7 W2 M cr ro v1 v2 v3).output = W2.output := by
  unfold set7
  simp only [sc_os, sc_tape, sc_output, and_self]

/-- What is wanted of the disk's cells ahead of the stores. -/
structure Cells7 (W2 : World) (M : Nat) : Prop where
  cell : ∀ o, o < 8 → ∃ k, W2.cell? ⟨M, o, none⟩ = some k
  free : ∀ o, W2.frozen? ⟨M, o, none⟩ = false

theorem cells7_of {W2 : World} {M : Nat} {a : ASt} {fv kv lv uv : Value} (h : W2.heap[M]? = some (.cells (docC a fv kv lv uv) 41 (0, 0))) : Cells7 W2 M := by
  refine ⟨fun o ho => ?_, fun o => blk_free h⟩
  match o, ho with
  | 0, _ => exact ⟨_, blk_cell h rfl⟩
  | 1, _ => exact ⟨_, blk_cell h rfl⟩
  | 2, _ => exact ⟨_, blk_cell h rfl⟩
  | 3, _ => exact ⟨_, blk_cell h rfl⟩
  | 4, _ => exact ⟨_, blk_cell h rfl⟩
  | 5, _ => exact ⟨_, blk_cell h rfl⟩
  | 6, _ => exact ⟨_, blk_cell h rfl⟩
  | 7, _ => exact ⟨_, blk_cell h rfl⟩

/-- From the plan's twin on. -/
theorem start_rest {w W0 W1 : World} {role role1 : DRole} {M : Nat} {a : ASt} {F : List AFile} {d : Bool} {rs1 : List DRep} {fv1 kv lv uv : Value} {a1 a2 a3 : Option Addr} {c1 c2 c3 : Nat} {cr ro : Int} {keep fail full : List Int} (hp : PlanAt w a1 a2 a3 c1 c2 c3 cr ro keep fail full) (hp0 : (∀ ad, a1 = some ad → keep ≠ [] → role ad.block = 0) ∧ (∀ ad, a2 = some ad → fail ≠ [] → role ad.block = 0) ∧ ∀ ad, a3 = some ad → full ≠ [] → role ad.block = 0) (hal : Below w.heap.size w W0)
    (g1 : DocOK W1 role1 M { a with fs := F, dead := d } rs1 fv1 kv lv uv) (g2 : DStp role role1 W0 W1) (hF : F = (startA a cr ro keep fail full).fs) :
    Calls Try.prog 11 #[planV a1 a2 a3 c1 c2 c3 cr ro keep fail full] W1 fun e W2 => ∃ q1 k1 q2 k2 q3 k3, e = .returned (.agg #[.int .i64 cr, .slice q1 keep.length k1, .slice q2 fail.length k2, .slice q3 full.length k3, .int .i64 ro]) ∧ Hid (Cells7 W2 M ∧ DocAny w role M (startA a cr ro keep fail full) (set7 W2 M cr ro (.slice q1 keep.length k1) (.slice q2 fail.length k2) (.slice q3 full.length k3))) := by
  have s1 : DStp role role1 w W1 := (DStp.still hal).trans g2
  have htw := planTwin_new W1 cr ro a1 a2 a3 c1 c2 c3 _ _ _ (hp.rK.stp s1 (fun ad e hne => hp0.1 ad e (by rintro rfl; exact hne rfl))) (hp.rF.stp s1 (fun ad e hne => hp0.2.1 ad e (by rintro rfl; exact hne rfl))) (hp.rU.stp s1 (fun ad e hne => hp0.2.2 ad e (by rintro rfl; exact hne rfl)))
  simp only [List.length_map] at htw
  refine htw.mono ?_
  rintro e W2 ⟨v1, v2, v3, rfl, hb2, o1, o2, o3⟩
  have hM2 := (hb2.block M (g1.dom M (by rw [g1.roleM]; omega))).trans g1.str
  have hx := set7_at hM2 cr ro v1 v2 v3
  have hy := cells7_of hM2
  obtain ⟨q1, k1, rfl⟩ := own_shape o1
  obtain ⟨q2, k2, rfl⟩ := own_shape o2
  obtain ⟨q3, k3, rfl⟩ := own_shape o3
  have e9 : startA a cr ro keep fail full = { dead := false, crash := cr, room := ro, ops := 0, keep := keep, fail := fail, full := full, fs := F } := by rw [hF]; rfl
  obtain ⟨b, hb⟩ : ∃ b : ASt, b = { a with fs := F, dead := d } := ⟨_, rfl⟩
  have hbF : b.fs = F := by rw [hb]
  rw [← hb] at g1 hx
  clear hM2 hb
  obtain ⟨V3, hV3⟩ : ∃ V3, V3 = set7 W2 M cr ro (.slice q1 keep.length k1) (.slice q2 fail.length k2) (.slice q3 full.length k3) := ⟨_, rfl⟩
  have hsz : V3.heap.size = W2.heap.size := by rw [hV3]; exact set7_size _ _ _ _ _
  have hot : ∀ k, k ≠ M → V3.heap[k]? = W2.heap[k]? := fun k hk => by rw [hV3]; exact set7_other hk _ _ _ _ _
  have hoo : V3.os = W2.os ∧ V3.tape = W2.tape ∧ V3.output = W2.output := by rw [hV3]; exact set7_oo _ _ _ _ _ _ _
  rw [← hV3] at hx
  have hfin : DocAny w role M (startA a cr ro keep fail full) V3 := by
    obtain ⟨role', g3, g4⟩ := g1.plan hb2 o1 o2 o3 hp.iK hp.iF hp.iU hp.iC hp.iR hoo.1 hoo.2.1 hoo.2.2 hsz hot hx
    rw [e9, ← hbF]
    exact Exists.intro _ (Exists.intro _ (Exists.intro _ (Exists.intro role' (Exists.intro rs1 (Exists.intro fv1 (And.intro g3 (s1.trans g4)))))))
  rw [hV3] at hfin
  exact ⟨q1, k1, q2, k2, q3, k3, rfl, hy, hfin⟩

set_option maxHeartbeats 2000000 in
set_option maxRecDepth 100000 in
theorem rstart_any {w : World} {role : DRole} {M n : Nat} {a : ASt} {rs : List DRep} {fv kv lv uv : Value} (h : DocOK w role M a rs fv kv lv uv) (hf : FewA n a) (hn : n ≤ 998) {a1 a2 a3 : Option Addr} {c1 c2 c3 : Nat} {cr ro : Int} {keep fail full : List Int} (hp : PlanAt w a1 a2 a3 c1 c2 c3 cr ro keep fail full) (hp0 : (∀ ad, a1 = some ad → keep ≠ [] → role ad.block = 0) ∧ (∀ ad, a2 = some ad → fail ≠ [] → role ad.block = 0) ∧ ∀ ad, a3 = some ad → full ≠ [] → role ad.block = 0) :
    Calls Try.prog 44 #[.pointer (some ⟨M, 0, none⟩), planV a1 a2 a3 c1 c2 c3 cr ro keep fail full] w fun e w' => e = .returned (.tuple #[]) ∧ Hid (DocAny w role M (startA a cr ro keep fail full) w') := by
  obtain ⟨S, hS⟩ : ∃ S, S = startA a cr ro keep fail full := ⟨_, rfl⟩
  obtain ⟨O, hO⟩ : ∃ O : Obj, O = .cells #[.int .i64 cr, .slice a1 keep.length c1, .slice a2 fail.length c2, .slice a3 full.length c3, .int .i64 ro] 24 := ⟨_, rfl⟩
  have hal : Below w.heap.size w (w.alloc O) := (Below.refl _ w).alloc (Nat.le_refl _) O
  obtain ⟨W0, hW0⟩ : ∃ W0, W0 = w.alloc O := ⟨_, rfl⟩
  rw [← hW0] at hal
  have hB0 : W0.heap[w.heap.size]? = some (.cells #[.int .i64 cr, .slice a1 keep.length c1, .slice a2 fail.length c2, .slice a3 full.length c3, .int .i64 ro] 24 (0, 0)) := by rw [hW0, hO]; exact World.alloc_heap_new w _
  have hz0 : w.heap.size < W0.heap.size := (Array.getElem?_eq_some_iff.1 hB0).1
  have h0 := h.still hal
  have hMz := h.dom M (by rw [h.roleM]; omega)
  have hr0 : role w.heap.size = 0 := by
    by_cases hx : role w.heap.size = 0
    · exact hx
    · exact absurd (h.dom _ hx) (Nat.lt_irrefl _)
  have m7 : w.cell? ⟨M, 7, none⟩ = some (.bool a.dead) := blk_cell (o := 7) h.str rfl
  have HW0 : Hid (W0 = w.alloc (.cells #[.int .i64 cr, .slice a1 keep.length c1, .slice a2 fail.length c2, .slice a3 full.length c3, .int .i64 ro] 24)) := (by rw [hW0, hO] : W0 = _)
  rw [← hS]
  cases hd : a.dead with
  | true =>
    rw [hd] at m7
    have hc2 := start_rest (F := a.fs) (d := true) hp hp0 hal (role1 := role) (W1 := W0) (rs1 := rs) (fv1 := fv) (kv := kv) (lv := lv) (uv := uv) (M := M) (a := a) (by rw [← hd]; exact h0) .refl (by unfold startA; rw [if_pos hd])
    rw [← hS] at hc2
    unfold planV at hc2 ⊢
    have HC2 := hideP hc2
    generalize keep.length = n1 at *
    generalize fail.length = n2 at *
    generalize full.length = n3 at *
    clear h hf hp hp0 hal hW0 hO hB0 hz0 h0 hr0 hd hS hc2
    go_enter Try.func44, Try.ntmps44
    go_wp2_with fail
    rw [← HW0.out]
    refine HC2.out.mono ?_
    rintro e9 W2 ⟨q1, b1, q2, b2, q3, b3, rfl, HF⟩
    obtain ⟨hcs, hF⟩ := HF.out
    obtain ⟨k0, l0⟩ := hcs.cell 0 (by omega)
    obtain ⟨k1, l1⟩ := hcs.cell 1 (by omega)
    obtain ⟨k2, l2⟩ := hcs.cell 2 (by omega)
    obtain ⟨k3, l3⟩ := hcs.cell 3 (by omega)
    obtain ⟨k4, l4⟩ := hcs.cell 4 (by omega)
    obtain ⟨k6, l6⟩ := hcs.cell 6 (by omega)
    obtain ⟨k7, l7⟩ := hcs.cell 7 (by omega)
    have z0 := hcs.free 0
    have z1 := hcs.free 1
    have z2 := hcs.free 2
    have z3 := hcs.free 3
    have z4 := hcs.free 4
    have z6 := hcs.free 6
    have z7 := hcs.free 7
    have HFF := hideP hF
    unfold set7 at HFF
    clear HC2 m7 hF HF hcs
    go_wp2
    go_end0
    exact ⟨rfl, HFF⟩
  | false =>
    rw [hd] at m7
    have hdie := rdie_any h0 (h.few hf (by omega)) hf.keep
    have HR : Hid (∀ W1, DocTo W0 role M { a with fs := dieAll a.keep 0 a.fs, dead := true } kv lv uv W1 → W1.heap[w.heap.size]? = some (.cells #[.int .i64 cr, .slice a1 keep.length c1, .slice a2 fail.length c2, .slice a3 full.length c3, .int .i64 ro] 24 (0, 0)) ∧ Calls Try.prog 11 #[planV a1 a2 a3 c1 c2 c3 cr ro keep fail full] W1 fun e W2 => ∃ q1 k1 q2 k2 q3 k3, e = .returned (.agg #[.int .i64 cr, .slice q1 keep.length k1, .slice q2 fail.length k2, .slice q3 full.length k3, .int .i64 ro]) ∧ Hid (Cells7 W2 M ∧ DocAny w role M S (set7 W2 M cr ro (.slice q1 keep.length k1) (.slice q2 fail.length k2) (.slice q3 full.length k3)))) := fun W1 ⟨role1, rs1, fv1, g1, g2⟩ => by
      refine ⟨(g2.keep _ hz0 (.inl hr0)).trans hB0, ?_⟩
      rw [hS]
      exact start_rest hp hp0 hal g1 g2 (by unfold startA; rw [if_neg (by rw [hd]; decide)])
    have HDIE := hideP hdie
    unfold planV at HR ⊢
    generalize keep.length = n1 at *
    generalize fail.length = n2 at *
    generalize full.length = n3 at *
    clear h hf hp hp0 hal hW0 hO hB0 hz0 h0 hr0 hd hS hdie
    go_enter Try.func44, Try.ntmps44
    go_wp2_with fail
    rw [← HW0.out]
    refine HDIE.out.mono ?_
    rintro e9 W1 ⟨rfl, HT⟩
    obtain ⟨hbx, hc2⟩ := HR.out W1 HT.out
    have HC2 := hideP hc2
    have d0 : W1.cell? ⟨w.heap.size, 0, none⟩ = some (.int .i64 cr) := blk_cell hbx rfl
    have d1 : W1.cell? ⟨w.heap.size, 1, none⟩ = some (.slice a1 n1 c1) := blk_cell hbx rfl
    have d2 : W1.cell? ⟨w.heap.size, 2, none⟩ = some (.slice a2 n2 c2) := blk_cell hbx rfl
    have d3 : W1.cell? ⟨w.heap.size, 3, none⟩ = some (.slice a3 n3 c3) := blk_cell hbx rfl
    have d4 : W1.cell? ⟨w.heap.size, 4, none⟩ = some (.int .i64 ro) := blk_cell hbx rfl
    clear HDIE HR HT hbx hc2 m7 HW0
    go_wp2_with fail
    refine HC2.out.mono ?_
    rintro e9 W2 ⟨q1, b1, q2, b2, q3, b3, rfl, HF⟩
    obtain ⟨hcs, hF⟩ := HF.out
    obtain ⟨k0, l0⟩ := hcs.cell 0 (by omega)
    obtain ⟨k1, l1⟩ := hcs.cell 1 (by omega)
    obtain ⟨k2, l2⟩ := hcs.cell 2 (by omega)
    obtain ⟨k3, l3⟩ := hcs.cell 3 (by omega)
    obtain ⟨k4, l4⟩ := hcs.cell 4 (by omega)
    obtain ⟨k6, l6⟩ := hcs.cell 6 (by omega)
    obtain ⟨k7, l7⟩ := hcs.cell 7 (by omega)
    have z0 := hcs.free 0
    have z1 := hcs.free 1
    have z2 := hcs.free 2
    have z3 := hcs.free 3
    have z4 := hcs.free 4
    have z6 := hcs.free 6
    have z7 := hcs.free 7
    have HFF := hideP hF
    unfold set7 at HFF
    clear HC2 hF HF hcs d0 d1 d2 d3 d4
    go_wp2
    go_end0
    exact ⟨rfl, HFF⟩

end Go.Proofs.Ytcceaokldphfgaa
