/- YtcceaokldphfgaaDiskTwinsC02 -/
import Derived.Lib.Bytealg
import Derived.Test.YtcceaokldphfgaaDiskTwinsC01
namespace Go.Proofs.Ytcceaokldphfgaa
open Go.RowKit

theorem Try.extern89 : Extern.find Try.f89 = some Extern.BytealgCompare.compare := by kernel_rfl

theorem Try.next89 : Extern.findNext Try.f89 = none := by kernel_rfl

theorem run_cmp89 (a b : ByteArray) (w : World) : (callFunc 89 #[.string a, .string b]).run Try.prog w = .ok (.value (.int .i64 (Lib.compareBytes a.data.toList b.data.toList))) w := by
  rw [run_callFunc_extern Try.func89 (by kernel_rfl) (by kernel_rfl) Try.next89 Try.extern89, Lib.run_compareString]
  rfl

/-- How two strings compare, as a number that the walk does not look into. -/
def cmpS (a b : ByteArray) : Int := Lib.compareBytes a.data.toList b.data.toList

set_option maxRecDepth 100000 in
theorem compare_any (a b : ByteArray) (w : World) :
    Calls Try.prog 84 #[.string a, .string b] w fun e w' => e = .returned (.int .i64 (cmpS a b)) ∧ w' = w := by
  have h : ∀ w, (callFunc 89 #[.string a, .string b]).run Try.prog w = .ok (.value (.int .i64 (cmpS a b))) w := run_cmp89 a b
  go_enter Try.func84, Try.ntmps84
  go_wp2
  go_ret
  exact ⟨rfl, rfl⟩

set_option maxRecDepth 100000 in
theorem placeCmp_any (b : Nat) (nm t : ByteArray) (w : World) (h : w.cell? ⟨b, 0, none⟩ = some (.string nm)) :
    Calls Try.prog 83 #[.pointer (some ⟨b, 0, none⟩), .string t] w fun e w' => e = .returned (.int .i64 (cmpS nm t)) ∧ w' = w := by
  have hc := compare_any nm t w
  go_enter Try.func83, Try.ntmps83
  go_wp2_with (go_at_call 84; refine hc.mono ?_; rintro e w' ⟨rfl, rfl⟩)
  go_ret
  exact ⟨rfl, rfl⟩

/-- A byte that a name may have. -/
def okByte (c : UInt8) : Bool := decide (33 ≤ c.toNat ∧ c.toNat ≤ 126 ∧ c.toNat ≠ 47)

/-- What may be a file's name. -/
def okName (s : ByteArray) : Bool := decide (1 ≤ s.size ∧ s.size ≤ 32) && s.data.toList.all okByte

set_option maxHeartbeats 400000 in
set_option maxRecDepth 100000 in
theorem isName_long (s : ByteArray) (w : World) (h : s.size < 1 ∨ 32 < s.size) :
    Calls Try.prog 58 #[.string s] w fun e w' => e = .returned (.bool false) ∧ w' = w := by
  rcases h with h | h
  · go_enter Try.func58, Try.ntmps58
    go_wp2
    go_ret
    exact ⟨rfl, rfl⟩
  · have h' : ¬ s.size < 1 := by omega
    go_enter Try.func58, Try.ntmps58
    go_wp2
    go_ret
    exact ⟨rfl, rfl⟩

set_option maxHeartbeats 400000 in
set_option maxRecDepth 100000 in
theorem isName_core (s : ByteArray) (l : List UInt8) (hl : Hid (l = s.data.toList)) (w : World) (h1 : 1 ≤ s.size) (h2 : s.size ≤ 32) :
    Calls Try.prog 58 #[.string s] w fun e w' => e = .returned (.bool (l.all okByte)) ∧ Below w.heap.size w w' := by
  have hcv := fun w => run_bytes_of_string (P := Try.prog) w 9 33 5 s Try.underlying9 Try.underlying33 Try.underlying5
  have hs : s.data.size = s.size := rfl
  have hcell : ∀ (C : Array Value) (fr : Nat × Nat), (w.alloc (.cells C 5 fr)).drew.cell? = (w.alloc (.cells C 5 fr)).cell? := fun _ _ => rfl
  go_enter Try.func58, Try.ntmps58
  go_wp2
  clear hcv hcell
  obtain ⟨W, hW⟩ : ∃ W, W = (w.alloc (.cells (bytesRow s (grownCap w s.size 0 5)) 5 ((bytesRow s (grownCap w s.size 0 5)).size, (bytesRow s (grownCap w s.size 0 5)).size + 1))).drew := ⟨_, rfl⟩
  have hbel : Below w.heap.size w W := by rw [hW]; exact ((Below.refl _ w).alloc (Nat.le_refl _) _).drew
  have hbyte0 : ∀ k (hk : k < s.data.toList.length), W.cell? ⟨w.heap.size, k, none⟩ = some (.int .u8 (s.data.toList[k].toNat : Int)) := by
    intro k hk
    rw [hW, World.cell?_drew, World.cell?_alloc_mark, bytesRow_at s _ k (by simpa using hk)]
    simp
  rw [← hW]
  obtain ⟨cp, hcp⟩ : ∃ cp, cp = grownCap w s.size 0 5 := ⟨_, rfl⟩
  rw [← hcp]
  have hlen : s.data.toList.length = s.size := by simp [hs]
  clear hW hcp
  rw [← hl.out] at hlen
  have hbyte : ∀ k (hk : k < l.length), W.cell? ⟨w.heap.size, k, none⟩ = some (.int .u8 (l[k].toNat : Int)) := by
    intro k hk
    have e := hl.out
    subst e
    exact hbyte0 k hk
  have HL : Hid (l.length = s.size) := hlen
  clear hl hlen hs hbyte0
  go_loop [4, 16, 2] (fun _ i r => ∃ k : Nat, k ≤ s.size ∧ i = .int .i64 k ∧ (l.take k).all okByte = true ∧ r = .bool false) (fun _ i _ => s.size - (intOf i).toNat)
  case atStart => exact ⟨0, Nat.zero_le _, rfl, by simp, rfl⟩
  case round =>
    obtain ⟨k, hk, rfl, hall, rfl⟩ := hrel
    have HA : Hid ((l.take k).all okByte = true) := hall
    clear hall
    by_cases hlt : k < s.size
    · have hkl : k < l.length := by rw [HL.out]; exact hlt
      have hc := hbyte k hkl
      obtain ⟨c, hcc⟩ : ∃ c, c = l[k] := ⟨_, rfl⟩
      rw [← hcc] at hc
      have HC : Hid (c = l[k]) := hcc
      have hc255 : c.toNat < 256 := UInt8.toNat_lt c
      clear hcc hbyte
      by_cases ho : okByte c = true
      · have h3 : 33 ≤ c.toNat ∧ c.toNat ≤ 126 ∧ c.toNat ≠ 47 := by simpa [okByte] using ho
        obtain ⟨q1, q2, q3⟩ := h3
        have q4 : ((c.toNat : Int) == 47) = false := by simp; omega
        have q5 : ¬ (c.toNat : Int) < 33 := by omega
        have q6 : ¬ 126 < (c.toNat : Int) := by omega
        have HO : Hid (okByte c = true) := ho
        clear ho
        go_wp2
        go_round
        case rel =>
          refine ⟨k + 1, by omega, by go_num, ?_, rfl⟩
          rw [List.take_succ_eq_append_getElem hkl, List.all_append, HA.out, ← HC.out]
          simp [HO.out]
        case measure => simp [intOf]; omega
      · have HO : Hid (¬ okByte c = true) := ho
        have h3 : (c.toNat : Int) < 33 ∨ 126 < (c.toNat : Int) ∨ c.toNat = 47 := by
          simp [okByte] at ho
          omega
        clear ho
        have hfin : l.all okByte = false := by
          rw [Bool.eq_false_iff]
          intro hh
          exact HO.out (by rw [HC.out]; exact List.all_eq_true.1 hh _ (List.getElem_mem _))
        have HF : Hid (l.all okByte = false) := hfin
        clear hfin
        rcases h3 with h3 | h3 | h3
        · go_wp2
          go_ret
          exact ⟨by rw [HF.out]; rfl, hbel⟩
        · go_wp2
          go_ret
          exact ⟨by rw [HF.out]; rfl, hbel⟩
        · have q4 : ((c.toNat : Int) == 47) = true := by simp; omega
          have q5 : ¬ (c.toNat : Int) < 33 := by omega
          have q6 : ¬ 126 < (c.toNat : Int) := by omega
          clear h3
          go_wp2
          go_ret
          exact ⟨by rw [HF.out]; rfl, hbel⟩
    · have hkl : k = s.size := by omega
      subst hkl
      go_wp2
      go_ret
      have := HA.out
      rw [← HL.out, List.take_length] at this
      exact ⟨by rw [this]; rfl, hbel⟩

/-- isName, at every string. -/
theorem isName_any (s : ByteArray) (w : World) :
    Calls Try.prog 58 #[.string s] w fun e w' => e = .returned (.bool (okName s)) ∧ Below w.heap.size w w' := by
  by_cases h : 1 ≤ s.size ∧ s.size ≤ 32
  · refine (isName_core s s.data.toList rfl w h.1 h.2).mono ?_
    rintro e w' ⟨rfl, hb⟩
    exact ⟨by simp [okName, h.1, h.2], hb⟩
  · refine (isName_long s w (by omega)).mono ?_
    rintro e w' ⟨rfl, rfl⟩
    exact ⟨by simp only [okName, decide_eq_false h, Bool.false_and], Below.refl _ _⟩

end Go.Proofs.Ytcceaokldphfgaa
