/- YtcceaokldphfgaaDiskDoesC31 -/
import Derived.Test.YtcceaokldphfgaaDiskDoesC30
namespace Go.Proofs.Ytcceaokldphfgaa
open Go.RowKit Go.Shelf

/-- 'append' onto a row of one's own, of elements of any width: where the value lies behind it. -/
theorem app_wide {P : Program} (w : World) (t ty e : TypeId) (i : TypeInfo) (z : Value) (size bytes : Nat) (ht : P.underlying t = some (.slice e)) (hi : P.info? e = some i) (hz : i.zero = some z)
    (hsize : i.size = size) (hby : i.bytes = bytes) (hzs : z.cells.size = size) (hsz : 0 < size)
    (v : Value) (n : Nat) (xs : List Value) (hown : w.ownsRow 0 e size v n xs)
    (a : Addr) (m c : Nat) (news : List Value) (hl : news.length = m * size) (hnews : ∀ j u, news[j]? = some u → w.cell? (a.add j) = some u) (h1 : ∀ u ∈ news, u.oneCell' = true)
    (h63 : n + m ≤ maxLen) (hbytes : (n + m) * bytes ≤ 140737488355328) :
    ∃ v' w', (Builtin.append_ #[t, t] ty #[v, .slice (some a) m c]).run P w = .ok v' w' ∧ w'.ownsRow 0 e size v' (n + m) (xs ++ news) ∧ Grew w w' v v' := by
  obtain ⟨v', w', hrun, h2, h3, h4⟩ := run_append_own (P := P) w 0 t ty e i z size bytes ht hi hz hsize hby hzs hsz v n xs hown a m c news hl hnews h1 h63 hbytes (Nat.zero_le _)
  refine ⟨v', w', hrun, h2, h3, ?_⟩
  have hl' : news.length = m * i.size := by rw [hsize]; exact hl
  simp only [maxLen] at h63
  rcases hown.2 with ⟨rfl, rfl⟩ | ⟨g, cap, cur, rfl, hbg, hg, hnc, hcm, hcs, htake⟩
  · by_cases hm : m = 0
    · have := h4.2 ⟨rfl, hm⟩
      rw [this]
      intro k hk
      exact .inl hk
    · have hr := run_append_nil (P := P) w t ty e i z ht hi hz a m c news hl' hnews (by omega) (by omega) (by rw [hby]; rw [Nat.zero_add] at hbytes; omega)
      rw [hr] at hrun
      cases hrun
      intro k hk
      simp only [Value.ownBlock, Option.some.injEq] at hk
      exact .inr (by omega)
  · by_cases hroom : n + m ≤ cap
    · have hfit : n * i.size + news.length ≤ cur.size := by rw [hl, hcs, hsize, ← Nat.add_mul]; exact Nat.mul_le_mul_right _ hroom
      have hr := run_append_room (P := P) w t ty e i ht hi g n cap cur hg a m c news hl' hnews h1 hroom hfit
      rw [hr] at hrun
      cases hrun
      intro k hk
      exact .inl hk
    · have holds : ∀ j u, xs[j]? = some u → w.cell? ((⟨g, 0, none⟩ : Addr).add j) = some u := hown.cells (g := g) rfl
      have hr := run_append_grow (P := P) w t ty e i z ht hi hz ⟨g, 0, none⟩ n cap xs (by rw [hsize]; exact hown.1) holds a m c news hl' hnews (by omega) (by omega) (growslice_fits (by omega) (by rw [hby]; exact hbytes))
      rw [hr] at hrun
      cases hrun
      intro k hk
      simp only [Value.ownBlock, Option.some.injEq] at hk
      exact .inr (by omega)

/-- What a block is to the document's disk: 0 nothing, 1 the disk, 2 its files' row, 3 a row of changes, 4 what is never written again. -/
abbrev DRole := Nat → Nat

structure DRep where
  a : AFile
  sv : Value
  cv : Value
  ds : List Value

def chgsC (cs : List Chg) (ds : List Value) : List Value := (List.zipWith chgC cs ds).flatten

def filesC (rs : List DRep) : List Value := rs.flatMap fun r => [.string r.a.name, r.sv, r.cv]

/-- Bytes that stay. -/
def RoB (w : World) (role : DRole) (v : Value) (l : List UInt8) : Prop := w.ownsRow 0 5 1 v l.length (l.map byteV) ∧ ∀ k, v.ownBlock = some k → role k = 4

/-- Numbers that stay. -/
def RoI (w : World) (role : DRole) (v : Value) (l : List Int) : Prop := w.ownsRow 0 3 1 v l.length (l.map (Value.int .i64)) ∧ (∀ k, v.ownBlock = some k → role k = 4) ∧ ∀ x ∈ l, I64 x

structure DFileOK (w : World) (role : DRole) (r : DRep) : Prop where
  safe : RoB w role r.sv r.a.safe
  row : w.ownsRow 0 114 4 r.cv r.a.chs.length (chgsC r.a.chs r.ds)
  rowR : ∀ k, r.cv.ownBlock = some k → role k = 3
  dsLen : r.ds.length = r.a.chs.length
  data : ∀ (j : Nat) c d, r.a.chs[j]? = some c → r.ds[j]? = some d → RoB w role d (chgL c)
  may : ∀ c ∈ r.a.chs, ChgMay c
  len : r.a.safe.length ≤ 268435456

abbrev docC (a : ASt) (fv kv lv uv : Value) : Array Value := #[.int .i64 a.crash, kv, lv, uv, .int .i64 a.room, fv, .int .i64 a.ops, .bool a.dead]

/-- The document's disk. -/
structure DocOK (w : World) (role : DRole) (M : Nat) (a : ASt) (rs : List DRep) (fv kv lv uv : Value) : Prop where
  str : w.heap[M]? = some (.cells (docC a fv kv lv uv) 41 (0, 0))
  roleM : role M = 1
  one : ∀ k, role k = 1 → k = M
  fs : a.fs = rs.map (·.a)
  row : w.ownsRow 0 90 3 fv rs.length (filesC rs)
  rowR : ∀ k, fv.ownBlock = some k → role k = 2
  files : ∀ r ∈ rs, DFileOK w role r
  apart : rs.Pairwise fun r q => ∀ k, r.cv.ownBlock = some k → q.cv.ownBlock ≠ some k
  kK : RoI w role kv a.keep
  kF : RoI w role lv a.fail
  kU : RoI w role uv a.full
  dom : ∀ k, role k ≠ 0 → k < w.heap.size
  iC : I64 a.crash
  iR : I64 a.room

/-- What the document's operations leave. -/
structure DStp (role role' : DRole) (w w' : World) : Prop where
  os : w'.os = w.os
  tape : w'.tape = w.tape
  output : w'.output = w.output
  size : w.heap.size ≤ w'.heap.size
  ext : ∀ k, k < w.heap.size → role' k = role k
  keep : ∀ k, k < w.heap.size → role k = 0 ∨ role k = 4 → w'.heap[k]? = w.heap[k]?

theorem DStp.trans {r1 r2 r3 : DRole} {w1 w2 w3 : World} (h : DStp r1 r2 w1 w2) (g : DStp r2 r3 w2 w3) : DStp r1 r3 w1 w3 :=
  ⟨g.os.trans h.os, g.tape.trans h.tape, g.output.trans h.output, Nat.le_trans h.size g.size, fun k hk => (g.ext k (Nat.lt_of_lt_of_le hk h.size)).trans (h.ext k hk),
    fun k hk hr => (g.keep k (Nat.lt_of_lt_of_le hk h.size) (by rw [h.ext k hk]; exact hr)).trans (h.keep k hk hr)⟩

theorem DStp.still {r : DRole} {w w' : World} (h : Below w.heap.size w w') : DStp r r w w' := ⟨h.os, h.tape, h.output, h.size, fun _ _ => rfl, fun k hk _ => h.block k hk⟩

theorem DStp.refl {r : DRole} {w : World} : DStp r r w w := .still (Below.refl _ _)

theorem RoB.kept {w w' : World} {role role' : DRole} {v : Value} {l : List UInt8} (h : RoB w role v l) (hs : ∀ k, role k = 4 → k < w.heap.size → w'.heap[k]? = w.heap[k]? ∧ role' k = 4) : RoB w' role' v l :=
  ⟨own_keep h.1 (fun k e => (hs k (h.2 k e) (h.1.lt k e).2).1), fun k e => (hs k (h.2 k e) (h.1.lt k e).2).2⟩

theorem RoI.kept {w w' : World} {role role' : DRole} {v : Value} {l : List Int} (h : RoI w role v l) (hs : ∀ k, role k = 4 → k < w.heap.size → w'.heap[k]? = w.heap[k]? ∧ role' k = 4) : RoI w' role' v l :=
  ⟨own_keep h.1 (fun k e => (hs k (h.2.1 k e) (h.1.lt k e).2).1), fun k e => (hs k (h.2.1 k e) (h.1.lt k e).2).2, h.2.2⟩

theorem DFileOK.kept {w w' : World} {role role' : DRole} {r : DRep} (h : DFileOK w role r) (hs : ∀ k, role k = 4 → k < w.heap.size → w'.heap[k]? = w.heap[k]? ∧ role' k = 4) (hc : ∀ k, r.cv.ownBlock = some k → w'.heap[k]? = w.heap[k]? ∧ role' k = 3) : DFileOK w' role' r :=
  ⟨h.safe.kept hs, own_keep h.row (fun k e => (hc k e).1), fun k e => (hc k e).2, h.dsLen, fun j c d h1 h2 => (h.data j c d h1 h2).kept hs, h.may, h.len⟩

theorem DocOK.kept {w w' : World} {role role' : DRole} {M : Nat} {a : ASt} {rs : List DRep} {fv kv lv uv : Value} (h : DocOK w role M a rs fv kv lv uv) (hs : ∀ k, role k ≠ 0 → k < w.heap.size → w'.heap[k]? = w.heap[k]? ∧ role' k = role k) (h1 : ∀ k, role' k = 1 → k = M) (hz : ∀ k, role' k ≠ 0 → k < w'.heap.size) : DocOK w' role' M a rs fv kv lv uv := by
  have h4 : ∀ k, role k = 4 → k < w.heap.size → w'.heap[k]? = w.heap[k]? ∧ role' k = 4 := fun k e hk => by obtain ⟨q1, q2⟩ := hs k (by omega) hk; exact ⟨q1, q2.trans e⟩
  have hM := hs M (by rw [h.roleM]; omega) (Array.getElem?_eq_some_iff.1 h.str).1
  refine ⟨hM.1.trans h.str, hM.2.trans h.roleM, h1, h.fs, own_keep h.row (fun k e => (hs k (by rw [h.rowR k e]; omega) (h.row.lt k e).2).1), fun k e => (hs k (by rw [h.rowR k e]; omega) (h.row.lt k e).2).2.trans (h.rowR k e), fun r hr => (h.files r hr).kept h4 (fun k e => ?_), h.apart, h.kK.kept h4, h.kF.kept h4, h.kU.kept h4, hz, h.iC, h.iR⟩
  have e3 := (h.files r hr).rowR k e
  obtain ⟨q1, q2⟩ := hs k (by omega) ((h.files r hr).row.lt k e).2
  exact ⟨q1, q2.trans e3⟩

theorem DocOK.still {w w' : World} {role : DRole} {M : Nat} {a : ASt} {rs : List DRep} {fv kv lv uv : Value} (h : DocOK w role M a rs fv kv lv uv) (hb : Below w.heap.size w w') : DocOK w' role M a rs fv kv lv uv :=
  h.kept (fun k _ hk => ⟨hb.block k hk, rfl⟩) h.one (fun k hk => Nat.lt_of_lt_of_le (h.dom k hk) hb.size)

end Go.Proofs.Ytcceaokldphfgaa

namespace Go.Proofs.Ytcceaokldphfgaa
open Go.RowKit Go.Shelf

theorem flatten_get {α : Type} {n : Nat} : ∀ (L : List (List α)) (i j : Nat) (x : List α), (∀ y ∈ L, y.length = n) → L[i]? = some x → j < n → L.flatten[i * n + j]? = x[j]?
  | [], i, j, x, _, h, _ => by simp at h
  | y :: L, 0, j, x, hy, h, hj => by
    simp only [List.getElem?_cons_zero, Option.some.injEq] at h
    subst h
    rw [List.flatten_cons, List.getElem?_append_left (by rw [hy y List.mem_cons_self]; omega)]
    congr 1
    omega
  | y :: L, i + 1, j, x, hy, h, hj => by
    rw [List.flatten_cons, List.getElem?_append_right (by rw [hy y List.mem_cons_self, Nat.add_mul]; omega), hy y List.mem_cons_self, show (i + 1) * n + j - n = i * n + j from by rw [Nat.add_mul]; omega]
    exact flatten_get L i j x (fun z hz => hy z (List.mem_cons_of_mem _ hz)) (by simpa using h) hj

theorem filesC_get {rs : List DRep} {i : Nat} {r : DRep} (h : rs[i]? = some r) : (filesC rs)[i * 3]? = some (.string r.a.name) ∧ (filesC rs)[i * 3 + 1]? = some r.sv ∧ (filesC rs)[i * 3 + 2]? = some r.cv := by
  have hg := fun j hj => flatten_get (n := 3) (rs.map fun r => [Value.string r.a.name, r.sv, r.cv]) i j [.string r.a.name, r.sv, r.cv] (fun y hy => by obtain ⟨q, _, rfl⟩ := List.mem_map.1 hy; rfl) (by rw [List.getElem?_map, h]; rfl) hj
  have e : filesC rs = (rs.map fun r => [Value.string r.a.name, r.sv, r.cv]).flatten := by unfold filesC; rw [List.flatMap_def]
  rw [e]
  exact ⟨hg 0 (by omega), hg 1 (by omega), hg 2 (by omega)⟩

theorem zipC_len {cs : List Chg} {ds : List Value} : ∀ y ∈ List.zipWith chgC cs ds, y.length = 4 := by
  intro y hy
  obtain ⟨i, hi⟩ := List.mem_iff_getElem?.1 hy
  rw [List.getElem?_zipWith] at hi
  split at hi
  · obtain ⟨b, x, l, e⟩ := chgC_four ‹_› ‹_›
    simp only [Option.some.injEq] at hi
    rw [← hi, e]
    rfl
  · cases hi

theorem chgsC_get {cs : List Chg} {ds : List Value} {j i : Nat} {c : Chg} {d : Value} (hc : cs[j]? = some c) (hd : ds[j]? = some d) (hi : i < 4) : (chgsC cs ds)[j * 4 + i]? = (chgC c d)[i]? :=
  flatten_get (n := 4) _ j i _ zipC_len (by rw [List.getElem?_zipWith, hc, hd]) hi

/-- A cell of a row of one's own. -/
theorem own_cell {w : World} {B e size n k : Nat} {v u : Value} {xs : List Value} (h : w.ownsRow B e size v n xs) (hk : xs[k]? = some u) : ∃ g cap, v = .slice (some ⟨g, 0, none⟩) n cap ∧ n ≤ cap ∧ g < w.heap.size ∧ w.cell? ⟨g, k, none⟩ = some u ∧ w.frozen? ⟨g, k, none⟩ = false := by
  rcases h.2 with ⟨_, h0⟩ | ⟨g, cap, cur, e0, _, hg, hn, _, _, ht⟩
  · have := h.1
    rw [h0, Nat.zero_mul] at this
    rw [List.eq_nil_of_length_eq_zero this] at hk
    simp at hk
  · refine ⟨g, cap, e0, hn, (Array.getElem?_eq_some_iff.1 hg).1, blk_cell hg ?_, blk_free hg⟩
    rw [← ht, List.getElem?_take] at hk
    split at hk
    · simpa using hk
    · cases hk

theorem DFileOK.crow {w : World} {role : DRole} {r : DRep} (h : DFileOK w role r) : CRow w r.cv r.a.chs := by
  have hsl : ∃ a cap, r.cv = .slice a r.a.chs.length cap := by
    rcases h.row.2 with ⟨e, h0⟩ | ⟨g, cap, cur, e, _⟩
    · exact ⟨none, 0, by rw [h0]; exact e⟩
    · exact ⟨_, _, e⟩
  obtain ⟨a, cap, e⟩ := hsl
  refine ⟨a, cap, e, fun j c hc => ⟨h.may c (List.mem_of_getElem? hc), ?_⟩⟩
  have hj : j < r.a.chs.length := (List.getElem?_eq_some_iff.1 hc).1
  obtain ⟨d, hd⟩ : ∃ d, r.ds[j]? = some d := ⟨_, List.getElem?_eq_getElem (by rw [h.dsLen]; exact hj)⟩
  have h4 := h.data j c _ hc hd
  obtain ⟨b, x, l, e4⟩ := chgC_four c d
  obtain ⟨g, cap', e', hn, hgz, hcell, _⟩ := own_cell h.row ((chgsC_get hc hd (by omega : 0 < 4)).trans (by rw [e4]; rfl))
  rw [e] at e'
  cases e'
  refine ⟨g, 0, d, rfl, hgz, fun i u hu => ?_, own_rd h4.1⟩
  have hi : i < 4 := by
    have := (List.getElem?_eq_some_iff.1 hu).1
    rw [e4] at this
    exact this
  obtain ⟨g2, cap2, e2, _, _, hcell2, _⟩ := own_cell h.row ((chgsC_get hc hd hi).trans hu)
  rw [e] at e2
  cases e2
  rw [show 0 + j * 4 + i = j * 4 + i from by omega]
  exact hcell2

/-- A file's data, by the document. -/
theorem DFileOK.dataD {w : World} {role : DRole} {r : DRep} (h : DFileOK w role r) (hw : Whole r.a) (hn : r.a.chs.length ≤ 1000) :
    Calls Try.prog 48 #[.agg #[.string r.a.name, r.sv, r.cv]] w fun e w' => ∃ q n c, e = .returned (.slice q n c) ∧ Hid (Out w r.a.data (.slice q n c) w' ∧ n = r.a.data.length) := by
  have := rdata_any (t := r.a.name) (own_rdN h.safe.1) h.len h.crow hn
  rw [← hw] at this
  exact this

theorem DFileOK.lenD {w : World} {role : DRole} {r : DRep} (h : DFileOK w role r) (hw : Whole r.a) : r.a.data.length ≤ 268435456 := by
  rw [hw]; exact applyAll_len h.may h.len

/-- A file of the document's disk, in its row. -/
theorem DocOK.file {w : World} {role : DRole} {M : Nat} {a : ASt} {rs : List DRep} {fv kv lv uv : Value} (h : DocOK w role M a rs fv kv lv uv) {i : Nat} {r : DRep} (hi : rs[i]? = some r) :
    ∃ g cap, fv = .slice (some ⟨g, 0, none⟩) rs.length cap ∧ rs.length ≤ cap ∧ g < w.heap.size ∧ role g = 2 ∧ w.cell? ⟨g, i * 3, none⟩ = some (.string r.a.name) ∧ w.cell? ⟨g, i * 3 + 1, none⟩ = some r.sv ∧ w.cell? ⟨g, i * 3 + 2, none⟩ = some r.cv ∧ ∀ k, w.frozen? ⟨g, k, none⟩ = false := by
  obtain ⟨f0, f1, f2⟩ := filesC_get hi
  obtain ⟨g, cap, e, hn, hg, c0, _⟩ := own_cell h.row f0
  obtain ⟨g1, cap1, e1, _, _, c1, _⟩ := own_cell h.row f1
  obtain ⟨g2, cap2, e2, _, _, c2, _⟩ := own_cell h.row f2
  rw [e] at e1 e2
  cases e1
  cases e2
  refine ⟨g, cap, e, hn, hg, h.rowR g (by rw [e]; rfl), c0, c1, c2, fun k => ?_⟩
  rcases h.row.2 with ⟨e0, _⟩ | ⟨g', cap', cur, e0, _, hg', _⟩
  · rw [e] at e0; cases e0
  · rw [e] at e0; cases e0; exact blk_free hg'

theorem DocOK.fvS {w : World} {role : DRole} {M : Nat} {a : ASt} {rs : List DRep} {fv kv lv uv : Value} (h : DocOK w role M a rs fv kv lv uv) : ∃ q cap, fv = .slice q rs.length cap := by
  rcases h.row.2 with ⟨e, h0⟩ | ⟨g, cap, cur, e, _⟩
  · exact ⟨none, 0, by rw [h0]; exact e⟩
  · exact ⟨_, _, e⟩

/-- Where a file is, in the document's words. -/
def FindR (rs : List DRep) (t : ByteArray) (x : Int) : Prop := (x = -1 ∧ ∀ r ∈ rs, r.a.name ≠ t) ∨ ∃ (i : Nat) (r : DRep), x = i ∧ rs[i]? = some r ∧ r.a.name = t ∧ ∀ j q, j < i → rs[j]? = some q → q.a.name ≠ t

set_option maxHeartbeats 1000000 in
set_option maxRecDepth 100000 in
theorem rfind_any {w : World} {role : DRole} {M : Nat} {a : ASt} {rs : List DRep} {fv kv lv uv : Value} (h : DocOK w role M a rs fv kv lv uv) (hn : rs.length ≤ 1000) (t : ByteArray) :
    Calls Try.prog 47 #[.pointer (some ⟨M, 0, none⟩), .string t] w fun e w' => (∃ x, e = .returned (.int .i64 x) ∧ Hid (FindR rs t x)) ∧ w = w' := by
  have m5 : w.cell? ⟨M, 5, none⟩ = some fv := blk_cell h.str rfl
  have HF : Hid (∀ (i : Nat) r, rs[i]? = some r → ∃ g cap, fv = .slice (some ⟨g, 0, none⟩) rs.length cap ∧ rs.length ≤ cap ∧ g < w.heap.size ∧ role g = 2 ∧ w.cell? ⟨g, i * 3, none⟩ = some (.string r.a.name) ∧ w.cell? ⟨g, i * 3 + 1, none⟩ = some r.sv ∧ w.cell? ⟨g, i * 3 + 2, none⟩ = some r.cv ∧ ∀ k, w.frozen? ⟨g, k, none⟩ = false) := fun i r hi => h.file hi
  obtain ⟨q, cap, e⟩ := h.fvS
  generalize hnl : rs.length = nl at *
  have HN := hideP hnl
  subst e
  clear h hnl
  go_enter Try.func47, Try.ntmps47
  go_wp2
  go_loopw [11] (fun i wr => ∃ k : Nat, k ≤ nl ∧ i = .int .i64 k ∧ Hid (∀ (j : Nat) q, j < k → rs[j]? = some q → q.a.name ≠ t) ∧ w = wr) (fun i _ => nl - (intOf i).toNat)
  case atStart => exact ⟨0, Nat.zero_le _, rfl, fun j _ hj => by omega, rfl⟩
  case round =>
    obtain ⟨k, hk, rfl, HK, rfl⟩ := hrel
    by_cases hkl : k < nl
    · have hkl' : (k : Int) < (nl : Int) := by omega
      have hkL : k < rs.length := by rw [HN.out]; exact hkl
      obtain ⟨r, hr⟩ : ∃ r, rs[k]? = some r := ⟨_, List.getElem?_eq_getElem hkL⟩
      obtain ⟨g, cap', e, _, _, _, c0, _⟩ := HF.out k r hr
      cases e
      have t2 : IntKind.i64.wrap ((k : Int) + 1) = (k : Int) + 1 := by rw [IntKind.wrap_i64]; omega
      by_cases hx : r.a.name = t
      · have HR : Hid (FindR rs t k) := .inr ⟨k, r, rfl, hr, hx, HK.out⟩
        rw [hx] at c0
        clear hx HK hr
        go_wp2
        go_ret
        exact ⟨⟨k, rfl, HR⟩, rfl⟩
      · have HK' : Hid (∀ (j : Nat) q, j < k + 1 → rs[j]? = some q → q.a.name ≠ t) := fun j q hj hq => by
          rcases Nat.lt_or_ge j k with h | h
          · exact HK.out j q h hq
          · obtain rfl : j = k := by omega
            rw [hr] at hq
            cases hq
            exact hx
        have he : (r.a.name.toList == t.toList) = false := by
          rw [beq_eq_false_iff_ne]
          intro e
          exact hx (by
            rw [ByteArray.toList_eq, ByteArray.toList_eq] at e
            have e2 : r.a.name.data = t.data := Array.toList_inj.1 e
            cases hh : r.a.name; cases hh2 : t; rw [hh, hh2] at e2; cases e2; rfl)
        clear hr HK HF
        generalize r.a.name = y at *
        clear hx
        go_wp2
        exact ⟨⟨k + 1, by omega, by go_num, HK', trivial⟩, by simp [intOf]; omega⟩
    · have hkl' : ¬ (k : Int) < (nl : Int) := by omega
      have hkn : k = nl := by omega
      have HR : Hid (FindR rs t (-1)) := .inl ⟨rfl, fun r hr => by
        obtain ⟨j, hj⟩ := List.mem_iff_getElem?.1 hr
        exact HK.out j r (by rw [hkn, ← HN.out]; exact (List.getElem?_eq_some_iff.1 hj).1) hj⟩
      clear HK HF
      go_wp2
      go_ret
      exact ⟨⟨-1, rfl, HR⟩, rfl⟩

end Go.Proofs.Ytcceaokldphfgaa
