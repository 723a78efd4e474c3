/- YtcceaokldphfgaaDiskDoesC34 -/
import Derived.Test.YtcceaokldphfgaaDiskDoesC33
namespace Go.Proofs.Ytcceaokldphfgaa
open Go.RowKit Go.Shelf

theorem filesC_set2 : ∀ {rs : List DRep} {i : Nat} {r q : DRep}, rs[i]? = some r → q.a.name = r.a.name → filesC (rs.set i q) = ((filesC rs).set (i * 3 + 1) q.sv).set (i * 3 + 2) q.cv
  | [], i, r, q, h, _ => by simp at h
  | x :: rs, 0, r, q, h, h1 => by
    simp only [List.getElem?_cons_zero, Option.some.injEq] at h
    subst h
    simp [filesC, h1]
  | x :: rs, i + 1, r, q, h, h1 => by
    have ih := filesC_set2 (rs := rs) (i := i) (by simpa using h) h1
    show [Value.string x.a.name, x.sv, x.cv] ++ filesC (rs.set i q) = (([Value.string x.a.name, x.sv, x.cv] ++ filesC rs).set ((i + 1) * 3 + 1) q.sv).set ((i + 1) * 3 + 2) q.cv
    rw [ih, List.set_append_right _ _ (by simp; omega), List.set_append_right _ _ (by simp; omega), show (i + 1) * 3 + 1 - [Value.string x.a.name, x.sv, x.cv].length = i * 3 + 1 from by simp; omega, show (i + 1) * 3 + 2 - [Value.string x.a.name, x.sv, x.cv].length = i * 3 + 2 from by simp; omega]

/-- A file's bytes are laid anew, and it has no changes any more. -/
theorem DocOK.lay {W : World} {role : DRole} {M i : Nat} {a : ASt} {rs : List DRep} {r : DRep} {fv kv lv uv v : Value} {L : List UInt8} {f' : AFile} (h : DocOK W role M a rs fv kv lv uv) (hi : rs[i]? = some r) (hv : W.ownsRow 0 5 1 v L.length (L.map byteV)) (hv0 : ∀ k, v.ownBlock = some k → role k = 0) (hL : L.length ≤ 268435456) (hn : f'.name = r.a.name) (hsf : f'.safe = L) (hch : f'.chs = []) {g cap : Nat} (hfv : fv = .slice (some ⟨g, 0, none⟩) rs.length cap) :
    ∃ role', DocOK ((W.setCell ⟨g, i * 3 + 1, none⟩ v).setCell ⟨g, i * 3 + 2, none⟩ (.slice none 0 0)) role' M { a with fs := a.fs.set i f' } (rs.set i { a := f', sv := v, cv := .slice none 0 0, ds := [] }) fv kv lv uv ∧ (∀ k, role' k = role k ∨ v.ownBlock = some k) ∧ (∀ k, role k ≠ 2 → ((W.setCell ⟨g, i * 3 + 1, none⟩ v).setCell ⟨g, i * 3 + 2, none⟩ (.slice none 0 0)).heap[k]? = W.heap[k]?) := by
  have hg2 : role g = 2 := h.rowR g (by rw [hfv]; rfl)
  have hgz : g < W.heap.size := h.dom g (by omega)
  have hne : ∀ k, role k ≠ 2 → k ≠ g := fun k h2 e => h2 (by rw [e]; exact hg2)
  have hset : ∀ k, role k ≠ 2 → ((W.setCell ⟨g, i * 3 + 1, none⟩ v).setCell ⟨g, i * 3 + 2, none⟩ (.slice none 0 0)).heap[k]? = W.heap[k]? := fun k hk => (Below.heap_setCell _ _ _ k (hne k hk)).trans (Below.heap_setCell _ _ _ k (hne k hk))
  obtain ⟨role', hrole⟩ : ∃ role' : DRole, role' = fun k => if v.ownBlock = some k then 4 else role k := ⟨_, rfl⟩
  have hro : ∀ k, role k ≠ 0 → role' k = role k := fun k hk => by
    rw [hrole]
    simp only
    rw [if_neg (fun e => hk (hv0 k e))]
  have hv4 : ∀ k, v.ownBlock = some k → role' k = 4 := fun k e => by rw [hrole]; simp only [if_pos e]
  have hsz : ((W.setCell ⟨g, i * 3 + 1, none⟩ v).setCell ⟨g, i * 3 + 2, none⟩ (.slice none 0 0)).heap.size = W.heap.size := by simp [World.setCell]
  have hrow : W.ownsRow 0 90 3 (.slice (some ⟨g, 0, none⟩) rs.length cap) rs.length (filesC rs) := by rw [← hfv]; exact h.row
  have hst := (hrow.stored (i * 3 + 1) v).1.stored (i * 3 + 2) (.slice none 0 0)
  have hMr := h.roleM
  have h44 : ∀ k, role k = 4 → k < W.heap.size → ((W.setCell ⟨g, i * 3 + 1, none⟩ v).setCell ⟨g, i * 3 + 2, none⟩ (.slice none 0 0)).heap[k]? = W.heap[k]? ∧ role' k = 4 := fun k e _ => ⟨hset k (by omega), (hro k (by omega)).trans e⟩
  have hcvb : ∀ k, (Value.slice none 0 0).ownBlock ≠ some k := fun k e => by cases e
  refine ⟨role', ?_, fun k => ?_, hset⟩
  · refine ⟨(hset M (by omega)).trans h.str, (hro M (by omega)).trans hMr, fun k e => ?_, ?_, ?_, ?_, ?_, ?_, h.kK.kept h44, h.kF.kept h44, h.kU.kept h44, fun k e => ?_, h.iC, h.iR⟩
    · rw [hrole] at e
      simp only at e
      split at e
      · omega
      · exact h.one k e
    · show a.fs.set i f' = _
      rw [h.fs, List.map_set]
    · rw [filesC_set2 (q := { a := f', sv := v, cv := .slice none 0 0, ds := [] }) hi hn, hfv, List.length_set]
      exact hst.1
    · intro k e
      rw [hfv] at e
      cases e
      exact (hro g (by omega)).trans hg2
    · intro r2 hr2
      obtain ⟨j, hj⟩ := List.mem_iff_getElem?.1 hr2
      rw [List.getElem?_set] at hj
      split at hj
      · split at hj
        · simp only [Option.some.injEq] at hj
          subst hj
          refine ⟨⟨?_, hv4⟩, ?_, fun k e => absurd e (hcvb k), ?_, ?_, ?_, ?_⟩
          · show (((W.setCell ⟨g, i * 3 + 1, none⟩ v).setCell ⟨g, i * 3 + 2, none⟩ (.slice none 0 0))).ownsRow 0 5 1 v f'.safe.length (f'.safe.map byteV)
            rw [hsf]
            exact own_keep hv (fun k e => hset k (by rw [hv0 k e]; omega))
          · show (((W.setCell ⟨g, i * 3 + 1, none⟩ v).setCell ⟨g, i * 3 + 2, none⟩ (.slice none 0 0))).ownsRow 0 114 4 (.slice none 0 0) f'.chs.length (chgsC f'.chs [])
            rw [hch]
            exact World.ownsRow_nil _ _ _ _
          · show ([] : List Value).length = f'.chs.length
            rw [hch]
            rfl
          · intro j2 c2 d2 e1 _
            replace e1 : f'.chs[j2]? = some c2 := e1
            rw [hch] at e1
            simp at e1
          · intro c2 hc2
            replace hc2 : c2 ∈ f'.chs := hc2
            rw [hch] at hc2
            simp at hc2
          · show f'.safe.length ≤ _
            rw [hsf]; exact hL
        · cases hj
      · have hF2 := h.files r2 (List.mem_of_getElem? hj)
        refine hF2.kept h44 (fun k e => ?_)
        have h3 := hF2.rowR k e
        exact ⟨hset k (by omega), (hro k (by omega)).trans h3⟩
    · refine apart_mk (fun i1 i2 k r1 r2 e1 e2 o1 o2 => ?_)
      rw [List.getElem?_set] at e1 e2
      split at e1
      · split at e1
        · cases e1
          exact absurd o1 (hcvb k)
        · cases e1
      · split at e2
        · split at e2
          · cases e2
            exact absurd o2 (hcvb k)
          · cases e2
        · exact apart_get h.apart e1 e2 o1 o2
    · rw [hsz]
      rw [hrole] at e
      simp only at e
      split at e
      · rename_i e2
        exact (hv.lt k e2).2
      · exact h.dom k e
  · by_cases e : v.ownBlock = some k
    · exact .inr e
    · left
      rw [hrole]
      simp only [if_neg e]

theorem dieAll_snoc (keep : List Int) : ∀ (l : List AFile) (nx : Nat) (f : AFile), dieAll keep nx (l ++ [f]) = dieAll keep nx l ++ [dieA keep (nx + (l.map fun f => f.chs.length).sum) f]
  | [], nx, f => by simp [dieAll]
  | x :: l, nx, f => by
    simp only [List.cons_append, dieAll, List.map_cons, List.sum_cons]
    rw [dieAll_snoc keep l]
    congr 4
    omega

theorem dieAll_length (keep : List Int) : ∀ (l : List AFile) (nx : Nat), (dieAll keep nx l).length = l.length
  | [], _ => rfl
  | _ :: l, nx => by simp [dieAll, dieAll_length keep l]

/-- The files when k of them have died. -/
def dieF (keep : List Int) (fs : List AFile) (k : Nat) : List AFile := dieAll keep 0 (fs.take k) ++ fs.drop k

def nxF (fs : List AFile) (k : Nat) : Nat := ((fs.take k).map fun f => f.chs.length).sum

theorem dieF_get {keep : List Int} {fs : List AFile} {k : Nat} (hk : k < fs.length) : (dieF keep fs k)[k]? = some fs[k] := by
  unfold dieF
  rw [List.getElem?_append_right (by rw [dieAll_length]; simp; omega), dieAll_length]
  simp [show k - min k fs.length = 0 by omega, hk]

theorem dieF_set {keep : List Int} {fs : List AFile} {k : Nat} (hk : k < fs.length) : (dieF keep fs k).set k (dieA keep (nxF fs k) fs[k]) = dieF keep fs (k + 1) := by
  unfold dieF nxF
  rw [List.set_append_right _ _ (by rw [dieAll_length]; simp; omega), dieAll_length, List.take_succ_eq_append_getElem hk, dieAll_snoc, List.append_assoc]
  congr 1
  rw [show k - (fs.take k).length = 0 by simp; omega, List.drop_eq_getElem_cons hk, Nat.zero_add]
  rfl

theorem dieF_zero (keep : List Int) (fs : List AFile) : dieF keep fs 0 = fs := by simp [dieF, dieAll]

theorem dieF_end (keep : List Int) (fs : List AFile) : dieF keep fs fs.length = dieAll keep 0 fs := by simp [dieF]

theorem nxF_succ {fs : List AFile} {k : Nat} (hk : k < fs.length) : nxF fs (k + 1) = nxF fs k + fs[k].chs.length := by
  unfold nxF
  rw [List.take_succ_eq_append_getElem hk, List.map_append, List.sum_append]
  rfl

theorem nxF_le {fs : List AFile} (h : ∀ f ∈ fs, f.chs.length ≤ 1000) : ∀ k, k ≤ fs.length → nxF fs k ≤ k * 1000
  | 0, _ => by simp [nxF]
  | k + 1, hk => by
    have h1 := nxF_le h k (by omega)
    rw [nxF_succ (by omega)]
    have := h fs[k] (List.getElem_mem _)
    omega

theorem surv_len {c : Chg} {k : Int} {xs : List UInt8} (h : ChgMay c) (hx : xs.length ≤ 268435456) : (surviveC c k xs).length ≤ 268435456 := by
  match c, h with
  | .inl (at_, l), h =>
    have h' : at_ + l.length ≤ 268435456 := h
    show (if k < 0 then applyW at_ l xs else if k % (l.length + 1) = 0 then xs else applyW at_ (l.take (k % (l.length + 1)).toNat) xs).length ≤ _
    split
    · rw [length_applyW]; omega
    · split
      · exact hx
      · rw [length_applyW, List.length_take]; omega
  | .inr long, h =>
    have h' : long ≤ 268435456 := h
    show (if k < 0 ∨ k % 2 = 1 then applyT long xs else xs).length ≤ _
    split
    · rw [length_applyT]; exact h'
    · exact hx

theorem survAll_len {keep : List Int} : ∀ {cs : List Chg} {n : Nat} {xs : List UInt8}, (∀ c ∈ cs, ChgMay c) → xs.length ≤ 268435456 → (survAll keep n cs xs).length ≤ 268435456
  | [], _, _, _, hx => hx
  | c :: cs, _, _, h, hx => survAll_len (cs := cs) (fun d hd => h d (List.mem_cons_of_mem _ hd)) (surv_len (h c List.mem_cons_self) hx)

end Go.Proofs.Ytcceaokldphfgaa
