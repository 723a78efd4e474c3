/- YtcceaokldphfgaaDiskRoomC34 -/
import Derived.Test.YtcceaokldphfgaaDiskRoomC33
namespace Go.Proofs.Ytcceaokldphfgaa
open Go.RowKit Go.Shelf

set_option maxHeartbeats 1000000 in
set_option maxRecDepth 100000 in
theorem truncate_D {w : World} {role : Role} {D : Nat} {s : DSt} (h : DiskOK w role D s) (ho : s.ops < 1099511627776) (t : ByteArray) (long : Int) :
    Calls Try.prog 34 #[.pointer (some ⟨D, 0, none⟩), .string t, .int .i64 long] w (Done w role D (cutA (abs s) t long)) := by
  have hb := beginOn_D h ho t
  clear h ho
  go_enter Try.func34, Try.ntmps34
  go_wp2_with fail
  refine hb.mono ?_
  rintro r w1 ⟨v, e, role1, s1, rfl, hd1, hs1, hon⟩
  rcases hon with ⟨he, rfl, hon⟩ | ⟨rfl, f, i, rfl, hi, hfn, hnc, hon⟩
  · have hq : (e != 0) = true := by simp [he]
    have HF : Hid (Done w role D (cutA (abs s) t long) (.returned (.int .i64 e)) w1) := by
      unfold cutA
      rw [hon]
      exact ⟨rfl, role1, s1, hd1, hs1, rfl⟩
    clear hon hd1 hs1 hb he
    go_wp2
    go_ret
    exact HF.out
  · have HW : Hid (cutA (abs s) t long = if long < 0 then (abs s1, 1) else if 268435456 < long then (abs s1, 2) else chgA (.inr long.toNat) (abs s1) f.a) := hon _
    simp only [ptrV]
    by_cases h0 : long < 0
    · have HF : Hid (Done w role D (cutA (abs s) t long) (.returned (.int .i64 1)) w1) := by
        rw [HW.out, if_pos h0]
        exact ⟨rfl, role1, s1, hd1, hs1, rfl⟩
      clear hon hd1 hs1 hb hi
      go_wp2
      go_ret
      exact HF.out
    · by_cases h2 : 268435456 < long
      · have HF : Hid (Done w role D (cutA (abs s) t long) (.returned (.int .i64 2)) w1) := by
          rw [HW.out, if_neg h0, if_pos h2]
          exact ⟨rfl, role1, s1, hd1, hs1, rfl⟩
        clear hon hd1 hs1 hb hi
        go_wp2
        go_ret
        exact HF.out
      · obtain ⟨n, rfl⟩ : ∃ n : Nat, long = n := ⟨long.toNat, by omega⟩
        have hch : ChgAt w1 role1 (.inr n) (.iface 109 (.agg #[.int .i64 n])) := ⟨rfl, by omega⟩
        have hlen : n = (applyC (.inr n) f.a.data).length := by simp only [applyC]; rw [length_applyT]
        have hchg : Calls Try.prog 62 #[.pointer (some ⟨D, 0, none⟩), .pointer (some ⟨f.p, 0, none⟩), .iface 109 (.agg #[.int .i64 n]), .int .i64 n] w1 (Done w role D (cutA (abs s) t n)) := by
          rw [HW.out, if_neg h0, if_neg h2]
          exact (change_D hd1 hi hch n hlen hnc).mono fun r w' hr => Done.trans hs1 hr
        have HC := hideP hchg
        clear hon hd1 hs1 hi hb hfn hchg hch hlen
        go_wp2_with fail
        refine HC.out.mono ?_
        rintro r w3 ⟨rfl, HF⟩
        go_wp2
        go_ret
        exact ⟨rfl, HF⟩

theorem abs_drop (fs : List FRep) (t : ByteArray) : (fs.filter (fun g => cmpS g.a.name t != 0)).map (·.a) = dropA (fs.map (·.a)) t := by
  unfold dropA
  rw [List.filter_map]
  rfl

set_option maxHeartbeats 1000000 in
set_option maxRecDepth 100000 in
theorem remove_D {w : World} {role : Role} {D : Nat} {s : DSt} (h : DiskOK w role D s) (ho : s.ops < 1099511627776) (t : ByteArray) :
    Calls Try.prog 36 #[.pointer (some ⟨D, 0, none⟩), .string t] w (Done w role D (removeA (abs s) t)) := by
  have hb := beginOn_D h ho t
  clear h ho
  go_enter Try.func36, Try.ntmps36
  go_wp2_with fail
  refine hb.mono ?_
  rintro r w1 ⟨v, e, role1, s1, rfl, hd1, hs1, hon⟩
  rcases hon with ⟨he, rfl, hon⟩ | ⟨rfl, f, i, rfl, hi, hfn, hnc, hon⟩
  · have hq : (e != 0) = true := by simp [he]
    have HF : Hid (Done w role D (removeA (abs s) t) (.returned (.int .i64 e)) w1) := by
      unfold removeA
      rw [hon]
      exact ⟨rfl, role1, s1, hd1, hs1, rfl⟩
    clear hon hd1 hs1 hb he
    go_wp2
    go_ret
    exact HF.out
  · have HW : Hid (removeA (abs s) t = ({ abs s1 with fs := dropA (abs s1).fs t }, 0)) := hon _
    simp only [ptrV]
    have hdr : Calls Try.prog 64 #[.pointer (some ⟨D, 0, none⟩), .string t] w1 fun r w' => r = .returned (.tuple #[]) ∧ Hid (Done w role D (removeA (abs s) t) (.returned (.int .i64 0)) w') := by
      refine (drop_any hd1 t).mono ?_
      rintro r w' ⟨rfl, role', v', h1, h2⟩
      refine ⟨rfl, ?_⟩
      rw [HW.out]
      refine ⟨rfl, role', _, h1, hs1.trans (h2.stp hd1), ?_⟩
      simp only [abs, abs_drop]
    have HD := hideP hdr
    clear hon hd1 hs1 hi hb hfn hdr
    go_wp2_with fail
    refine HD.out.mono ?_
    rintro r w3 ⟨rfl, HF⟩
    go_wp2
    go_ret
    exact HF.out

end Go.Proofs.Ytcceaokldphfgaa
