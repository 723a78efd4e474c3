/- YtcceaokldphfgaaDiskTwinsC15 -/
import Derived.Test.YtcceaokldphfgaaDiskTwinsC14
namespace Go.Proofs.Ytcceaokldphfgaa
open Go.RowKit Go.Shelf

/-- What becomes of the disk where a change is asked for. -/
def ChangeR (s s' : DSt) (i : Nat) (f : FRep) (c : Chg) (e : Int) : Prop :=
  s' = { s with fs := s'.fs } ∧ s'.fs.map (·.p) = s.fs.map (·.p) ∧
    ((fullB s (((applyC c f.a.data).length : Int) - f.a.data.length) = true ∧ e = 12 ∧ s'.fs.map (·.a) = s.fs.map (·.a)) ∨
     (fullB s (((applyC c f.a.data).length : Int) - f.a.data.length) = false ∧ e = 0 ∧ s'.fs.map (·.a) = (s.fs.map (·.a)).set i (changeA c f.a)))

/-- Append. -/
def AppendR (s s' : DSt) (t : ByteArray) (l : List UInt8) (e : Int) : Prop :=
  (∃ v, OnR s s' t v e ∧ e ≠ 0) ∨
  ∃ (s1 : DSt) (i : Nat) (f : FRep), OnR s s1 t (ptrV f) 0 ∧ s1.fs[i]? = some f ∧ f.a.name = t ∧
    ((268435456 < f.a.data.length + l.length ∧ e = 2 ∧ s' = s1) ∨ (f.a.data.length + l.length ≤ 268435456 ∧ ChangeR s1 s' i f (.inl (f.a.data.length, l)) e))

theorem OnR.found {s s' : DSt} {t : ByteArray} {v : Value} (h : OnR s s' t v 0) : BeginR s s' 0 ∧ ∃ (f : FRep) (i : Nat), v = ptrV f ∧ s'.fs[i]? = some f ∧ f.a.name = t ∧ findF s'.fs t = some f := by
  rcases h with ⟨e', _, h2, h3, _⟩ | ⟨h1, h2, h3⟩
  · exact absurd h3.symm h2
  · refine ⟨h1, ?_⟩
    cases hf : findF s'.fs t with
    | none => rw [hf] at h3; simp at h3
    | some f =>
      rw [hf] at h2
      have hm := List.mem_of_find?_eq_some hf
      obtain ⟨i, hi⟩ := List.getElem?_of_mem hm
      have hn := List.find?_some hf
      exact ⟨f, i, h2, hi, cmpS_zero.1 (by simpa using hn), rfl⟩

theorem BeginR.nch {w : World} {role : Role} {D : Nat} {s s' : DSt} (hs : DiskOK w role D s) (h : BeginR s s' 0) : (nchs s'.fs : Int) + 1 ≤ s'.ops := by
  obtain ⟨_, e⟩ := h.live
  rw [e]
  have := hs.nch
  simp only [bump]
  omega

/-- Bytes that lie beside the disk. -/
def Beside (role : Role) (v : Value) : Prop := ∀ a n c, v = .slice (some a) n c → role a.block = none

theorem Rd.stp {w w' : World} {role role' : Role} {v : Value} {l : List UInt8} (h : Rd w v l) (hb : Beside role v) (hs : Stp role role' w w') : Rd w' v l :=
  h.same (fun a n c e hc => hs.keep _ (by obtain ⟨cs, t, fr, hk⟩ := hc; exact (Array.getElem?_eq_some_iff.1 hk).1) (.inl (hb a n c e)))

theorem write_length (l xs : List UInt8) : (applyC (.inl (xs.length, l)) xs).length = xs.length + l.length := by
  simp only [applyC]; rw [length_applyW]; omega

set_option maxHeartbeats 1000000 in
set_option maxRecDepth 100000 in
theorem append_any {w : World} {role : Role} {D : Nat} {s : DSt} (h : DiskOK w role D s) (ho : s.ops < 1099511627776) (t : ByteArray) (bv : Value) (l : List UInt8) (hrd : Rd w bv l) (hbs : Beside role bv) (hl : l.length ≤ 140737488355328) :
    Calls Try.prog 30 #[.pointer (some ⟨D, 0, none⟩), .string t, bv] w fun r w' => ∃ role' s' e, r = .returned (.int .i64 e) ∧ DiskOK w' role' D s' ∧ Stp role role' w w' ∧ AppendR s s' t l e := by
  have hb := beginOn_any h ho t
  have HN : Hid (∀ s', BeginR s s' 0 → (nchs s'.fs : Int) + 1 ≤ s'.ops) := fun s' hr => hr.nch h
  obtain ⟨ab, cb, hbe, _⟩ := id hrd
  have HRD := hideP hrd
  have HBS := hideP hbs
  clear h ho hrd hbs
  subst hbe
  go_enter Try.func30, Try.ntmps30
  go_wp2_with fail
  refine hb.mono ?_
  rintro r w1 ⟨role1, s1, v, e, rfl, hd1, hs1, hon⟩
  by_cases he : e = 0
  · subst he
    obtain ⟨hbg, f, i, rfl, hi, hfn, _⟩ := hon.found
    have hF := hd1.each f (List.mem_of_getElem? hi)
    have hcd : w1.cell? ⟨f.p, 3, none⟩ = some f.dataV := blk_cell hF.blk rfl
    obtain ⟨av, cv, hv, _⟩ := own_slice hF.odata
    rw [hv] at hcd
    have hld := hF.ldata
    have hrd1 := HRD.out.stp HBS.out hs1
    have HON := hideP hon
    have HD1 := hideP hd1
    have HS1 := hideP hs1
    have HI := hideP hi
    have HFN := hideP hfn
    have HBG := hideP hbg
    simp only [ptrV]
    by_cases hlong : 268435456 < f.a.data.length + l.length
    · have HF : Hid (∃ role' s' e, (.int .i64 2 : Value) = .int .i64 e ∧ DiskOK w1 role' D s' ∧ Stp role role' w w1 ∧ AppendR s s' t l e) := ⟨role1, s1, 2, rfl, hd1, hs1, .inr ⟨s1, i, f, hon, hi, hfn, .inl ⟨hlong, rfl, rfl⟩⟩⟩
      clear hon hd1 hs1 hi hfn hbg hF hrd1 hv hb
      go_wp2
      go_ret
      obtain ⟨role', s', e, q1, q2⟩ := HF.out
      exact ⟨role', s', e, by rw [← q1]; rfl, q2⟩
    · have hlong' : f.a.data.length + l.length ≤ 268435456 := by omega
      have hcp := copyBytes_any _ l w1 hrd1 (by omega)
      clear hon hd1 hs1 hi hfn hbg hF hrd1 hv hb
      go_wp2_with fail
      refine hcp.mono ?_
      rintro r w2 ⟨rfl, ho2, hb2⟩
      have hd2 := HD1.out.below hb2 (6, 0)
      have hrd2 := Rd.of_own (own_base ho2)
      have hlt2 := (ho2.lt w1.heap.size rfl).2
      have hch : ChgAt w2 (extR role1 w1 w2 (6, 0)) (.inl (f.a.data.length, l)) (.iface 106 (.agg #[.int .i64 f.a.data.length, .slice (some ⟨w1.heap.size, 0, none⟩) l.length l.length])) :=
        ⟨_, rfl, hrd2, fun a n c e => by cases e; exact extR_new (Nat.le_refl _) hlt2, hlong'⟩
      have hchg := change_any hd2 HI.out hch (f.a.data.length + l.length) (write_length l f.a.data).symm (HN.out s1 HBG.out)
      have hchg2 : Calls Try.prog 62 #[.pointer (some ⟨D, 0, none⟩), .pointer (some ⟨f.p, 0, none⟩), .iface 106 (.agg #[.int .i64 f.a.data.length, .slice (some ⟨w1.heap.size, 0, none⟩) l.length l.length]), .int .i64 ((f.a.data.length : Int) + (l.length : Int))] w2 fun r w' => ∃ e, r = .returned (.int .i64 e) ∧ Hid (∃ role' s', DiskOK w' role' D s' ∧ Stp role role' w w' ∧ AppendR s s' t l e) := by
        have e1 : ((f.a.data.length + l.length : Nat) : Int) = (f.a.data.length : Int) + (l.length : Int) := by omega
        rw [← e1]
        refine hchg.mono ?_
        rintro r w' ⟨role', s', q1, q2, q3, q4, q5⟩
        have hst := (HS1.out.trans (Stp.ofBelow (6, 0) hb2)).trans q2
        have hw := write_length l f.a.data
        rcases q5 with ⟨g1, rfl, g2⟩ | ⟨g1, rfl, g2⟩
        · exact ⟨12, rfl, role', s', q1, hst, .inr ⟨s1, i, f, HON.out, HI.out, HFN.out, .inr ⟨hlong', q3, q4, .inl ⟨by rw [hw]; exact g1, rfl, g2⟩⟩⟩⟩
        · exact ⟨0, rfl, role', s', q1, hst, .inr ⟨s1, i, f, HON.out, HI.out, HFN.out, .inr ⟨hlong', q3, q4, .inr ⟨by rw [hw]; exact g1, rfl, g2⟩⟩⟩⟩
      have HC := hideP hchg2
      clear hchg hchg2 hch hrd2 hd2 ho2 hb2 hcp hlt2
      go_wp2_with fail
      refine HC.out.mono ?_
      rintro r w3 ⟨e, rfl, HF⟩
      go_wp2
      go_ret
      obtain ⟨role', s', q1, q2, q3⟩ := HF.out
      exact ⟨role', s', e, rfl, q1, q2, q3⟩
  · have hq : (e != 0) = true := by simp [he]
    have HF : Hid (∃ role' s' e', (.int .i64 e : Value) = .int .i64 e' ∧ DiskOK w1 role' D s' ∧ Stp role role' w w1 ∧ AppendR s s' t l e') := ⟨role1, s1, e, rfl, hd1, hs1, .inl ⟨v, hon, he⟩⟩
    clear hon hd1 hs1 hb he
    go_wp2
    go_ret
    obtain ⟨role', s', e, q1, q2⟩ := HF.out
    exact ⟨role', s', e, by rw [← q1]; rfl, q2⟩

end Go.Proofs.Ytcceaokldphfgaa
