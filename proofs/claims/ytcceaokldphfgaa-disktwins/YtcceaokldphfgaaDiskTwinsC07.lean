/- YtcceaokldphfgaaDiskTwinsC07 -/
import Derived.Test.YtcceaokldphfgaaDiskTwinsC06
namespace Go.Proofs.Ytcceaokldphfgaa
open Go.RowKit

theorem cmp_zero : ∀ (a b : List UInt8), Lib.compareBytes a b = 0 ↔ a = b
  | [], [] => by simp [Lib.compareBytes]
  | [], _ :: _ => by simp [Lib.compareBytes]
  | _ :: _, [] => by simp [Lib.compareBytes]
  | a :: as', b :: bs => by
    have ih := cmp_zero as' bs
    simp only [Lib.compareBytes, List.cons.injEq]
    by_cases h1 : a < b
    · simp only [h1, if_true]
      constructor
      · intro h; omega
      · rintro ⟨rfl, _⟩; exact absurd h1 (UInt8.lt_irrefl _)
    · by_cases h2 : b < a
      · simp only [h1, h2, if_true, if_false]
        constructor
        · intro h; omega
        · rintro ⟨rfl, _⟩; exact absurd h2 (UInt8.lt_irrefl _)
      · simp only [h1, h2, if_false]
        have e : a = b := by
          have h1' := UInt8.not_lt.1 h1
          have h2' := UInt8.not_lt.1 h2
          exact UInt8.le_antisymm h2' h1'
        simp [e, ih]

theorem cmp_trans : ∀ (a b c : List UInt8), Lib.compareBytes a b < 0 → Lib.compareBytes b c < 0 → Lib.compareBytes a c < 0
  | [], [], _, h, _ => by simp [Lib.compareBytes] at h
  | [], _ :: _, [], _, h => by simp [Lib.compareBytes] at h
  | [], _ :: _, _ :: _, _, _ => by simp [Lib.compareBytes]
  | _ :: _, [], _, h, _ => by simp [Lib.compareBytes] at h
  | _ :: _, _ :: _, [], _, h => by simp [Lib.compareBytes] at h
  | a :: as', b :: bs, c :: cs, h, k => by
    have ih := cmp_trans as' bs cs
    simp only [Lib.compareBytes] at h k ⊢
    simp only [UInt8.lt_iff_toNat_lt] at h k ⊢
    by_cases h1 : a.toNat < b.toNat
    · by_cases k1 : b.toNat < c.toNat
      · rw [if_pos (by omega)]; omega
      · by_cases k2 : c.toNat < b.toNat
        · rw [if_neg k1, if_pos k2] at k; omega
        · rw [if_pos (by omega)]; omega
    · by_cases h2 : b.toNat < a.toNat
      · rw [if_neg h1, if_pos h2] at h; omega
      · rw [if_neg h1, if_neg h2] at h
        by_cases k1 : b.toNat < c.toNat
        · rw [if_pos (by omega)]; omega
        · by_cases k2 : c.toNat < b.toNat
          · rw [if_neg k1, if_pos k2] at k; omega
          · rw [if_neg k1, if_neg k2] at k
            rw [if_neg (by omega), if_neg (by omega)]
            exact ih h k

theorem cmpS_zero {a b : ByteArray} : cmpS a b = 0 ↔ a = b := by
  unfold cmpS
  rw [cmp_zero]
  constructor
  · intro h
    cases a; cases b
    simp only at h
    congr 1
    exact Array.toList_inj.1 h
  · rintro rfl; rfl

theorem cmpS_trans {a b c : ByteArray} (h : cmpS a b < 0) (k : cmpS b c < 0) : cmpS a c < 0 := cmp_trans _ _ _ h k

/-- The files as the search reads them. -/
def rowL (fs : List FRep) : List (Nat × ByteArray) := fs.map fun f => (f.p, f.a.name)

theorem rowL_at {fs : List FRep} {j : Nat} {q : Nat × ByteArray} (h : (rowL fs)[j]? = some q) : ∃ f, fs[j]? = some f ∧ q = (f.p, f.a.name) := by
  unfold rowL at h
  rw [List.getElem?_map, Option.map_eq_some_iff] at h
  obtain ⟨f, hf, rfl⟩ := h
  exact ⟨f, hf, rfl⟩

theorem sorted_at {fs : List FRep} (hs : fs.Pairwise (fun f g => cmpS f.a.name g.a.name < 0)) {j k : Nat} {f g : FRep} (hf : fs[j]? = some f) (hg : fs[k]? = some g) (h : j < k) : cmpS f.a.name g.a.name < 0 := by
  obtain ⟨h1, rfl⟩ := List.getElem?_eq_some_iff.1 hf
  obtain ⟨h2, rfl⟩ := List.getElem?_eq_some_iff.1 hg
  exact List.pairwise_iff_getElem.1 hs j k h1 h2 h

theorem steady_of {fs : List FRep} (hs : fs.Pairwise (fun f g => cmpS f.a.name g.a.name < 0)) (t : ByteArray) : Steady (rowL fs) t := by
  intro j k q r hq hr hjk hlt
  obtain ⟨f, hf, rfl⟩ := rowL_at hq
  obtain ⟨g, hg, rfl⟩ := rowL_at hr
  rcases Nat.eq_or_lt_of_le hjk with rfl | h
  · rw [hf] at hg; cases hg; exact hlt
  · exact cmpS_trans (sorted_at hs hf hg h) hlt

theorem unlike_of {fs : List FRep} (hs : fs.Pairwise (fun f g => cmpS f.a.name g.a.name < 0)) (t : ByteArray) :
    ∀ (j k : Nat) (q r : Nat × ByteArray), (rowL fs)[j]? = some q → (rowL fs)[k]? = some r → cmpS r.2 t = 0 → j < k → cmpS q.2 t < 0 := by
  intro j k q r hq hr h0 hjk
  obtain ⟨f, hf, rfl⟩ := rowL_at hq
  obtain ⟨g, hg, rfl⟩ := rowL_at hr
  have e := cmpS_zero.1 h0
  simp only at e ⊢
  rw [← e]
  exact sorted_at hs hf hg hjk

theorem DiskOK.row {w : World} {role : Role} {D : Nat} {s : DSt} (h : DiskOK w role D s) : RowOf w s.filesV (rowL s.fs) := by
  rcases h.files.2 with ⟨e, h0⟩ | ⟨g, cap, cur, e, hb, hg, hn, hm, hz, ht⟩
  · exact .inl ⟨e, by simp [rowL, List.eq_nil_of_length_eq_zero h0]⟩
  · refine .inr ⟨g, cap, by simp [rowL, e], fun j q hq => ?_⟩
    obtain ⟨f, hf, rfl⟩ := rowL_at hq
    have hj := (List.getElem?_eq_some_iff.1 hf).1
    refine ⟨?_, blk_cell (h.each f (List.mem_of_getElem? hf)).blk rfl⟩
    have h1 : (s.fs.map ptrV)[j]? = some (ptrV f) := by simp [hf]
    rw [← ht, List.getElem?_take, if_pos (by omega)] at h1
    refine blk_cell hg ?_
    simpa [ptrV] using h1

/-- The file of that name. -/
def findF (fs : List FRep) (t : ByteArray) : Option FRep := fs.find? fun f => cmpS f.a.name t == 0

def fileV : Option FRep → Value
  | some f => ptrV f
  | none => .pointer none

theorem find_stands {fs : List FRep} (hs : fs.Pairwise (fun f g => cmpS f.a.name g.a.name < 0)) {t : ByteArray} {i : Nat} (h : Stands (rowL fs) t i) :
    (thereAt (rowL fs) t i = true ∧ ∃ f, fs[i]? = some f ∧ f.a.name = t ∧ findF fs t = some f) ∨ (thereAt (rowL fs) t i = false ∧ findF fs t = none) := by
  have hfm : foundAt (rowL fs) t = (findF fs t).map (·.p) := by
    unfold foundAt findF rowL
    rw [List.find?_map]
    simp only [Option.map_map]
    rfl
  cases ht : thereAt (rowL fs) t i
  · right
    refine ⟨rfl, ?_⟩
    have := found_not h (unlike_of hs t) ht
    rw [hfm] at this
    simpa using this
  · left
    obtain ⟨q, hq, h0, _⟩ := found_there h ht
    obtain ⟨f, hf, rfl⟩ := rowL_at hq
    refine ⟨rfl, f, hf, cmpS_zero.1 h0, ?_⟩
    unfold findF
    have hlt : i < fs.length := (List.getElem?_eq_some_iff.1 hf).1
    rw [List.find?_eq_some_iff_getElem]
    refine ⟨by simpa using h0, i, hlt, (List.getElem?_eq_some_iff.1 hf).2, fun j hj => ?_⟩
    have := h.below j (fs[j].p, fs[j].a.name) (by unfold rowL; rw [List.getElem?_map, List.getElem?_eq_getElem (by omega)]; rfl) hj
    simp only at this
    simp; omega

theorem DiskOK.cells {w : World} {role : Role} {D : Nat} {s : DSt} (h : DiskOK w role D s) :
    w.cell? ⟨D, 0, none⟩ = some (.bool true) ∧ w.cell? ⟨D, 1, none⟩ = some (.bool s.dead) ∧ w.cell? ⟨D, 8, none⟩ = some s.filesV :=
  ⟨blk_cell h.blk rfl, blk_cell h.blk rfl, blk_cell h.blk rfl⟩

theorem dPlace {w : World} {role : Role} {D : Nat} {s : DSt} (h : DiskOK w role D s) (t : ByteArray) :
    Calls Try.prog 76 #[.pointer (some ⟨D, 0, none⟩), .string t] w fun e w' =>
      (∃ i : Nat, e = .returned (.tuple #[.int .i64 i, .bool (thereAt (rowL s.fs) t i)]) ∧ Stands (rowL s.fs) t i) ∧ w' = w :=
  place_any D s.filesV (rowL s.fs) t w (by have := h.few; simp [rowL]; omega) (steady_of h.sorted t) h.row h.cells.2.2

set_option maxHeartbeats 400000 in
set_option maxRecDepth 100000 in
theorem dFind {w : World} {role : Role} {D : Nat} {s : DSt} (h : DiskOK w role D s) (t : ByteArray) :
    Calls Try.prog 59 #[.pointer (some ⟨D, 0, none⟩), .string t] w fun e w' => e = .returned (fileV (findF s.fs t)) ∧ w' = w := by
  have hp := dPlace h t
  have hc := h.cells.2.2
  have hp2 : Calls Try.prog 76 #[.pointer (some ⟨D, 0, none⟩), .string t] w fun e w' =>
      (∃ i : Nat, ((e = .returned (.tuple #[.int .i64 i, .bool true]) ∧ ∃ g c f, s.filesV = .slice (some ⟨g, 0, none⟩) s.fs.length c ∧ i < s.fs.length ∧ w'.cell? ⟨g, i, none⟩ = some (ptrV f) ∧ Hid (findF s.fs t = some f)) ∨
        (e = .returned (.tuple #[.int .i64 i, .bool false]) ∧ Hid (findF s.fs t = none)))) ∧ w' = w := by
    refine hp.mono ?_
    rintro e w' ⟨⟨i, rfl, hst⟩, rfl⟩
    refine ⟨⟨i, ?_⟩, rfl⟩
    rcases find_stands h.sorted hst with ⟨ht, f, hf, _, he⟩ | ⟨ht, he⟩
    · left
      have hlt : i < s.fs.length := (List.getElem?_eq_some_iff.1 hf).1
      refine ⟨by rw [ht], ?_⟩
      rcases h.row with ⟨_, e0⟩ | ⟨g, c, e1, hr⟩
      · simp [rowL] at e0; rw [e0] at hlt; simp at hlt
      · exact ⟨g, c, f, by simpa [rowL] using e1, hlt, (hr i (f.p, f.a.name) (by simp [rowL, hf])).1, he⟩
    · exact .inr ⟨by rw [ht], he⟩
  clear hp
  have few := h.few
  clear h
  obtain ⟨fv, hfv⟩ : ∃ fv, fv = s.filesV := ⟨_, rfl⟩
  rw [← hfv] at hc hp2
  clear hfv
  have h2 : Calls Try.prog 59 #[.pointer (some ⟨D, 0, none⟩), .string t] w fun e w' => (∃ o, e = .returned (fileV o) ∧ Hid (findF s.fs t = o)) ∧ w' = w := by
    go_enter Try.func59, Try.ntmps59
    go_wp2_with fail
    refine hp2.mono ?_
    rintro e w' ⟨⟨i, ⟨rfl, g, c, f, rfl, hlt, hcell, hfind⟩ | ⟨rfl, hfind⟩⟩, rfl⟩
    · simp only [ptrV] at hcell
      go_wp2
      go_ret
      exact ⟨⟨some f, rfl, hfind⟩, rfl⟩
    · go_wp2
      go_ret
      exact ⟨⟨none, rfl, hfind⟩, rfl⟩
  refine h2.mono ?_
  rintro e w' ⟨⟨o, rfl, ho⟩, rfl⟩
  exact ⟨by rw [ho.out], rfl⟩

end Go.Proofs.Ytcceaokldphfgaa
