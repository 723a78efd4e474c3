/- YtcceaokldphfgaaDiskDoesC19 -/
import Derived.Test.YtcceaokldphfgaaDiskDoesC18
namespace Go.Proofs.Ytcceaokldphfgaa
open Go.RowKit Go.Shelf

set_option maxHeartbeats 1000000 in
set_option maxRecDepth 100000 in
theorem truncate_D {w : World} {role : Role} {D : Nat} {s : DSt} (h : DiskOK w role D s) (ho : s.ops < 1099511627776) (t : ByteArray) (long : Int) :
    Calls Try.prog 34 #[.pointer (some ⟨D, 0, none⟩), .string t, .int .i64 long] w (Done w role D (cutA (abs s) t long)) := by
  have hb := beginOn_D h ho t
  clear h ho
  go_enter Try.func34, Try.ntmps34
  go_wp2_with fail
  refine hb.mono ?_
  rintro r w1 ⟨v, e, role1, s1, rfl, hd1, hs1, hon⟩
  rcases hon with ⟨he, rfl, hon⟩ | ⟨rfl, f, i, rfl, hi, hfn, hnc, hon⟩
  · have hq : (e != 0) = true := by simp [he]
    have HF : Hid (Done w role D (cutA (abs s) t long) (.returned (.int .i64 e)) w1) := by
      unfold cutA
      rw [hon]
      exact ⟨rfl, role1, s1, hd1, hs1, rfl⟩
    clear hon hd1 hs1 hb he
    go_wp2
    go_ret
    exact HF.out
  · have HW : Hid (cutA (abs s) t long = if long < 0 then (abs s1, 1) else if 268435456 < long then (abs s1, 2) else chgA (.inr long.toNat) (abs s1) f.a) := hon _
    simp only [ptrV]
    by_cases h0 : long < 0
    · have HF : Hid (Done w role D (cutA (abs s) t long) (.returned (.int .i64 1)) w1) := by
        rw [HW.out, if_pos h0]
        exact ⟨rfl, role1, s1, hd1, hs1, rfl⟩
      clear hon hd1 hs1 hb hi
      go_wp2
      go_ret
      exact HF.out
    · by_cases h2 : 268435456 < long
      · have HF : Hid (Done w role D (cutA (abs s) t long) (.returned (.int .i64 2)) w1) := by
          rw [HW.out, if_neg h0, if_pos h2]
          exact ⟨rfl, role1, s1, hd1, hs1, rfl⟩
        clear hon hd1 hs1 hb hi
        go_wp2
        go_ret
        exact HF.out
      · obtain ⟨n, rfl⟩ : ∃ n : Nat, long = n := ⟨long.toNat, by omega⟩
        have hch : ChgAt w1 role1 (.inr n) (.iface 109 (.agg #[.int .i64 n])) := ⟨rfl, by omega⟩
        have hlen : n = (applyC (.inr n) f.a.data).length := by simp only [applyC]; rw [length_applyT]
        have hchg : Calls Try.prog 62 #[.pointer (some ⟨D, 0, none⟩), .pointer (some ⟨f.p, 0, none⟩), .iface 109 (.agg #[.int .i64 n]), .int .i64 n] w1 (Done w role D (cutA (abs s) t n)) := by
          rw [HW.out, if_neg h0, if_neg h2]
          exact (change_D hd1 hi hch n hlen hnc).mono fun r w' hr => Done.trans hs1 hr
        have HC := hideP hchg
        clear hon hd1 hs1 hi hb hfn hchg hch hlen
        go_wp2_with fail
        refine HC.out.mono ?_
        rintro r w3 ⟨rfl, HF⟩
        go_wp2
        go_ret
        exact ⟨rfl, HF⟩

theorem abs_drop (fs : List FRep) (t : ByteArray) : (fs.filter (fun g => cmpS g.a.name t != 0)).map (·.a) = dropA (fs.map (·.a)) t := by
  unfold dropA
  rw [List.filter_map]
  rfl

set_option maxHeartbeats 1000000 in
set_option maxRecDepth 100000 in
theorem remove_D {w : World} {role : Role} {D : Nat} {s : DSt} (h : DiskOK w role D s) (ho : s.ops < 1099511627776) (t : ByteArray) :
    Calls Try.prog 36 #[.pointer (some ⟨D, 0, none⟩), .string t] w (Done w role D (removeA (abs s) t)) := by
  have hb := beginOn_D h ho t
  clear h ho
  go_enter Try.func36, Try.ntmps36
  go_wp2_with fail
  refine hb.mono ?_
  rintro r w1 ⟨v, e, role1, s1, rfl, hd1, hs1, hon⟩
  rcases hon with ⟨he, rfl, hon⟩ | ⟨rfl, f, i, rfl, hi, hfn, hnc, hon⟩
  · have hq : (e != 0) = true := by simp [he]
    have HF : Hid (Done w role D (removeA (abs s) t) (.returned (.int .i64 e)) w1) := by
      unfold removeA
      rw [hon]
      exact ⟨rfl, role1, s1, hd1, hs1, rfl⟩
    clear hon hd1 hs1 hb he
    go_wp2
    go_ret
    exact HF.out
  · have HW : Hid (removeA (abs s) t = ({ abs s1 with fs := dropA (abs s1).fs t }, 0)) := hon _
    simp only [ptrV]
    have hdr : Calls Try.prog 64 #[.pointer (some ⟨D, 0, none⟩), .string t] w1 fun r w' => r = .returned (.tuple #[]) ∧ Hid (Done w role D (removeA (abs s) t) (.returned (.int .i64 0)) w') := by
      refine (drop_any hd1 t).mono ?_
      rintro r w' ⟨rfl, role', v', h1, h2⟩
      refine ⟨rfl, ?_⟩
      rw [HW.out]
      refine ⟨rfl, role', _, h1, hs1.trans (h2.stp hd1), ?_⟩
      simp only [abs, abs_drop]
    have HD := hideP hdr
    clear hon hd1 hs1 hi hb hfn hdr
    go_wp2_with fail
    refine HD.out.mono ?_
    rintro r w3 ⟨rfl, HF⟩
    go_wp2
    go_ret
    exact HF.out

set_option maxHeartbeats 400000 in
set_option maxRecDepth 100000 in
theorem size_D {w : World} {role : Role} {D : Nat} {s : DSt} (h : DiskOK w role D s) (t : ByteArray) :
    Calls Try.prog 24 #[.pointer (some ⟨D, 0, none⟩), .string t] w fun r w' => r = .returned (.tuple #[.int .i64 (sizeA (abs s) t).1, .int .i64 (sizeA (abs s) t).2]) ∧ w = w' := by
  cases hd : s.dead with
  | true =>
    have hl := look_dead h hd t
    have e : sizeA (abs s) t = (0, 10) := by simp [sizeA, abs, hd]
    rw [e]
    clear h hd e
    go_enter Try.func24, Try.ntmps24
    go_wp2_with fail
    refine hl.mono ?_
    rintro r w1 ⟨rfl, rfl⟩
    go_wp2
    go_ret2
    exact ⟨rfl, rfl⟩
  | false =>
    have hl := look_live h hd t
    cases hf : findF s.fs t with
    | none =>
      have e : sizeA (abs s) t = (0, 13) := by simp [sizeA, abs, hd, find_fn, hf]
      rw [hf] at hl
      simp only [fileV, Option.isSome_none, Bool.false_eq_true, if_false] at hl
      rw [e]
      clear h hd e hf
      go_enter Try.func24, Try.ntmps24
      go_wp2_with fail
      refine hl.mono ?_
      rintro r w1 ⟨rfl, rfl⟩
      go_wp2
      go_ret2
      exact ⟨rfl, rfl⟩
    | some f =>
      have e : sizeA (abs s) t = (f.a.data.length, 0) := by simp [sizeA, abs, hd, find_fn, hf]
      rw [hf] at hl
      simp only [fileV, ptrV, Option.isSome_some, if_true] at hl
      have hF := h.each f (List.mem_of_find?_eq_some hf)
      have hcd : w.cell? ⟨f.p, 3, none⟩ = some f.dataV := blk_cell hF.blk rfl
      obtain ⟨av, cv, hv, _⟩ := own_slice hF.odata
      rw [hv] at hcd
      rw [e]
      clear h hd e hf hF hv
      go_enter Try.func24, Try.ntmps24
      go_wp2_with fail
      refine hl.mono ?_
      rintro r w1 ⟨rfl, rfl⟩
      go_wp2
      go_ret2
      exact ⟨rfl, rfl⟩

end Go.Proofs.Ytcceaokldphfgaa

namespace Go.Proofs.Ytcceaokldphfgaa
open Go.RowKit Go.Shelf

/-- Bytes in a row of their own, made since w. -/
def Out (w : World) (l : List UInt8) (v : Value) (w' : World) : Prop := w'.ownsRow w.heap.size 5 1 v l.length (l.map byteV) ∧ Below w.heap.size w w'

theorem Out.nil (w : World) : Out w [] (.slice none 0 0) w := ⟨World.ownsRow_nil _ _ _ _, Below.refl _ _⟩

theorem Rd.part {w : World} {g cap n k : Nat} {l : List UInt8} (h : w.ownsRow 0 5 1 (.slice (some ⟨g, 0, none⟩) l.length cap) l.length (l.map byteV)) (hn : n + k ≤ l.length) : Rd w (.slice (if cap = n then some ⟨g, 0, none⟩ else some ⟨g, n, none⟩) k (cap - n)) ((l.drop n).take k) := by
  obtain ⟨cur, hg, _, hnc, hcm, hcl, hct⟩ := own_row h
  have e : ((l.drop n).take k).length = k := by simp; omega
  refine ⟨_, _, by rw [e], by omega, fun j x hx => ?_⟩
  have hj : j < k := by
    have := (List.getElem?_eq_some_iff.1 hx).1
    omega
  have hne : ¬ cap = n := by omega
  refine ⟨⟨g, n, none⟩, by rw [if_neg hne], ?_⟩
  rw [Addr.add_lit]
  refine blk_cell hg ?_
  rw [List.getElem?_take, if_pos hj, List.getElem?_drop] at hx
  have : (cur.take l.length)[n + j]? = some (byteV x) := by rw [hct, List.getElem?_map, hx]; rfl
  rw [List.getElem?_take] at this
  split at this
  · simpa using this
  · cases this

set_option maxHeartbeats 1000000 in
set_option maxRecDepth 100000 in
theorem read_D {w : World} {role : Role} {D : Nat} {s : DSt} (h : DiskOK w role D s) (t : ByteArray) (at_ n : Int) (ha : I64 at_) (hn : I64 n) :
    Calls Try.prog 17 #[.pointer (some ⟨D, 0, none⟩), .string t, .int .i64 at_, .int .i64 n] w fun r w' => ∃ v, r = .returned (.tuple #[v, .int .i64 (readA (abs s) t at_ n).2]) ∧ Out w (readA (abs s) t at_ n).1 v w' := by
  obtain ⟨ha1, ha2⟩ := ha
  obtain ⟨hn1, hn2⟩ := hn
  cases hd : s.dead with
  | true =>
    have hl := look_dead h hd t
    have e : readA (abs s) t at_ n = ([], 10) := by simp [readA, abs, hd]
    rw [e]
    clear h hd e
    go_enter Try.func17, Try.ntmps17
    go_wp2_with fail
    refine hl.mono ?_
    rintro r w1 ⟨rfl, rfl⟩
    go_wp2
    go_ret2
    exact ⟨_, rfl, Out.nil w⟩
  | false =>
    have hl := look_live h hd t
    cases hf : findF s.fs t with
    | none =>
      have e : readA (abs s) t at_ n = ([], 13) := by simp [readA, abs, hd, find_fn, hf]
      rw [hf] at hl
      simp only [fileV, Option.isSome_none, Bool.false_eq_true, if_false] at hl
      rw [e]
      clear h hd e hf
      go_enter Try.func17, Try.ntmps17
      go_wp2_with fail
      refine hl.mono ?_
      rintro r w1 ⟨rfl, rfl⟩
      go_wp2
      go_ret2
      exact ⟨_, rfl, Out.nil w⟩
    | some f =>
      have e : readA (abs s) t at_ n = if at_ < 0 ∨ n < 0 ∨ (f.a.data.length : Int) < at_ + n then ([], 1) else ((f.a.data.drop at_.toNat).take n.toNat, 0) := by simp [readA, abs, hd, find_fn, hf]
      rw [hf] at hl
      simp only [fileV, ptrV, Option.isSome_some, if_true] at hl
      have hF := h.each f (List.mem_of_find?_eq_some hf)
      have hld := hF.ldata
      have hcd : w.cell? ⟨f.p, 3, none⟩ = some f.dataV := blk_cell hF.blk rfl
      by_cases hbad : at_ < 0 ∨ n < 0 ∨ (f.a.data.length : Int) < at_ + n
      · rw [e, if_pos hbad]
        obtain ⟨av, cv, hv, _⟩ := own_slice hF.odata
        rw [hv] at hcd
        clear h hd e hf hF hv
        by_cases h1 : at_ < 0
        · clear hbad
          go_enter Try.func17, Try.ntmps17
          go_wp2_with fail
          refine hl.mono ?_
          rintro r w1 ⟨rfl, rfl⟩
          go_wp2
          go_ret2
          exact ⟨_, rfl, Out.nil w⟩
        · by_cases h2 : n < 0
          · clear hbad
            go_enter Try.func17, Try.ntmps17
            go_wp2_with fail
            refine hl.mono ?_
            rintro r w1 ⟨rfl, rfl⟩
            go_wp2
            go_ret2
            exact ⟨_, rfl, Out.nil w⟩
          · have h3 : (f.a.data.length : Int) < at_ + n := by omega
            clear hbad
            by_cases h4 : (f.a.data.length : Int) < at_
            · go_enter Try.func17, Try.ntmps17
              go_wp2_with fail
              refine hl.mono ?_
              rintro r w1 ⟨rfl, rfl⟩
              go_wp2
              go_ret2
              exact ⟨_, rfl, Out.nil w⟩
            · have h5 : (f.a.data.length : Int) - at_ < n := by omega
              go_enter Try.func17, Try.ntmps17
              go_wp2_with fail
              refine hl.mono ?_
              rintro r w1 ⟨rfl, rfl⟩
              go_wp2
              go_ret2
              exact ⟨_, rfl, Out.nil w⟩
      · rw [e, if_neg hbad]
        obtain ⟨a, rfl⟩ : ∃ a : Nat, at_ = a := ⟨at_.toNat, by omega⟩
        obtain ⟨k, rfl⟩ : ∃ k : Nat, n = k := ⟨n.toNat, by omega⟩
        simp only [Int.toNat_natCast]
        have hak : a + k ≤ f.a.data.length := by omega
        have hlk : ((f.a.data.drop a).take k).length = k := by simp; omega
        have q1 : ¬ ((f.a.data.length : Int) < (a : Int)) := by omega
        have q2 : ¬ ((f.a.data.length : Int) - (a : Int) < (k : Int)) := by omega
        have q3 : IntKind.i64.wrap ((a : Int) + (k : Int)) = (a : Int) + (k : Int) := by rw [IntKind.wrap_i64]; omega
        have q4 : IntKind.i64.wrap ((f.a.data.length : Int) - (a : Int)) = (f.a.data.length : Int) - (a : Int) := by rw [IntKind.wrap_i64]; omega
        have q5 : ((a : Int) + (k : Int)).toNat = a + k := by omega
        have q6 : (0 : Int) ≤ (a : Int) + (k : Int) := by omega
        have q7 : (a : Int) ≤ (a : Int) + (k : Int) := by omega
        rcases hF.odata.2 with ⟨hv, e0⟩ | ⟨g, cap, cur, hv, _, _, hnc, hcm, _⟩
        · have ha0 : a = 0 := by omega
          have hk0 : k = 0 := by omega
          subst ha0 hk0
          have hrd : Rd w (.slice none 0 0) ((f.a.data.drop 0).take 0) := ⟨none, 0, by simp, by simp, fun j x hx => by simp at hx⟩
          have hcp := copyBytes_any _ _ w hrd (by simp)
          rw [hv] at hcd
          rw [hlk] at hcp
          have HC := hideP hcp
          clear h hd hf hF hrd hcp hv hbad e
          have hz : ((f.a.data.length : Nat) : Int) = 0 := by omega
          go_enter Try.func17, Try.ntmps17
          go_wp2_with fail
          refine hl.mono ?_
          rintro r w1 ⟨rfl, rfl⟩
          go_wp2_with fail
          refine HC.out.mono ?_
          rintro r w2 ⟨rfl, ho, hb⟩
          have HQ := hideP (And.intro ho hb)
          clear ho hb
          go_wp2
          go_ret2
          exact ⟨_, rfl, by unfold Out; rw [hlk]; exact HQ.out⟩
        · have ho := hF.odata
          rw [hv] at ho hcd
          have hrd := Rd.part (n := a) (k := k) ho hak
          have hcp := copyBytes_any _ _ w hrd (by rw [hlk]; omega)
          rw [hlk] at hcp
          have HC := hideP hcp
          simp only [maxLen] at hcm
          have q8 : (a : Int) + (k : Int) ≤ (cap : Int) := by omega
          clear h hd hf hF hrd hcp hv hbad e ho
          by_cases hca : cap = a
          · simp only [hca, if_true, Nat.sub_self] at HC
            go_enter Try.func17, Try.ntmps17
            go_wp2_with fail
            refine hl.mono ?_
            rintro r w1 ⟨rfl, rfl⟩
            go_wp2_with fail
            refine HC.out.mono ?_
            rintro r w2 ⟨rfl, ho, hb⟩
            have HQ := hideP (And.intro ho hb)
            clear ho hb
            go_wp2
            go_ret2
            exact ⟨_, rfl, by unfold Out; rw [hlk]; exact HQ.out⟩
          · simp only [hca, if_false] at HC
            go_enter Try.func17, Try.ntmps17
            go_wp2_with fail
            refine hl.mono ?_
            rintro r w1 ⟨rfl, rfl⟩
            go_wp2_with fail
            refine HC.out.mono ?_
            rintro r w2 ⟨rfl, ho, hb⟩
            have HQ := hideP (And.intro ho hb)
            clear ho hb
            go_wp2
            go_ret2
            exact ⟨_, rfl, by unfold Out; rw [hlk]; exact HQ.out⟩

end Go.Proofs.Ytcceaokldphfgaa
