/- YtcceaokldphfgaaDiskDoesC30 -/
import Derived.Test.YtcceaokldphfgaaDiskDoesC29
namespace Go.Proofs.Ytcceaokldphfgaa
open Go.RowKit Go.Shelf

/-- Changes that can be read. -/
def CRow (w : World) (v : Value) (cs : List Chg) : Prop :=
  ∃ a cap, v = .slice a cs.length cap ∧ ∀ j c, cs[j]? = some c → ChgMay c ∧ ∃ b off d, a = some ⟨b, off, none⟩ ∧ b < w.heap.size ∧ (∀ i u, (chgC c d)[i]? = some u → w.cell? ⟨b, off + j * 4 + i, none⟩ = some u) ∧ Rd w d (chgL c)

theorem CRow.later {w w' : World} {v : Value} {cs : List Chg} (h : CRow w v cs) (hb : Below w.heap.size w w') : CRow w' v cs := by
  obtain ⟨a, cap, rfl, hr⟩ := h
  refine ⟨a, cap, rfl, fun j c hc => ?_⟩
  obtain ⟨h1, b, off, d, h2, h3, h4, h5⟩ := hr j c hc
  exact ⟨h1, b, off, d, h2, Nat.lt_of_lt_of_le h3 hb.size, fun i u hu => (hb.cell (p := ⟨b, off + j * 4 + i, none⟩) h3).trans (h4 i u hu), h5.later hb⟩

theorem chgL_len {c : Chg} (h : ChgMay c) : (chgL c).length ≤ 268435456 := by
  match c, h with
  | .inl (at_, l), h => have h' : at_ + l.length ≤ 268435456 := h; show l.length ≤ _; omega
  | .inr _, _ => simp [chgL]

theorem applyC_len {c : Chg} {xs : List UInt8} (h : ChgMay c) (hx : xs.length ≤ 268435456) : (applyC c xs).length ≤ 268435456 := by
  match c, h with
  | .inl (at_, l), h => have h' : at_ + l.length ≤ 268435456 := h; show (applyW at_ l xs).length ≤ _; rw [length_applyW]; omega
  | .inr long, h => show (applyT long xs).length ≤ _; rw [length_applyT]; exact h

theorem applyAll_len {cs : List Chg} : ∀ {xs : List UInt8}, (∀ c ∈ cs, ChgMay c) → xs.length ≤ 268435456 → (applyAll cs xs).length ≤ 268435456 := by
  induction cs with
  | nil => intro xs _ h; exact h
  | cons c cs ih => intro xs h hx; exact ih (fun d hd => h d (List.mem_cons_of_mem _ hd)) (applyC_len (h c List.mem_cons_self) hx)

/-- The change's cells, four of them. -/
theorem chgC_four (c : Chg) (d : Value) : ∃ b at_ long, chgC c d = [.bool b, .int .i64 at_, .int .i64 long, d] := by
  match c with
  | .inl (at_, l) => exact ⟨_, _, _, rfl⟩
  | .inr long => exact ⟨_, _, _, rfl⟩

theorem AI.apply {w wr : World} {O : Obj} {L : List UInt8} {v d : Value} {c : Chg} {b : Bool} {at_ long : Int} (h : AI w O L v wr) (hL : L.length ≤ 268435456) (hd : Rd wr d (chgL c)) (hc : ChgMay c) (h4 : chgC c d = [.bool b, .int .i64 at_, .int .i64 long, d]) :
    Calls Try.prog 72 #[v, .agg #[.bool b, .int .i64 at_, .int .i64 long, d]] (wr.alloc (.cells #[.bool b, .int .i64 at_, .int .i64 long, d] 114)) fun e w' => ∃ q n k, e = .returned (.slice q n k) ∧ Hid (AI w O (applyC c L) (.slice q n k) w') := by
  have hal : Below wr.heap.size wr (wr.alloc (.cells #[.bool b, .int .i64 at_, .int .i64 long, d] 114)) := (Below.refl _ wr).alloc (Nat.le_refl _) _
  have h1 := rapply_any (c := c) ((own_rdN h.own).later hal) hL (hd.later hal) hc
  rw [h4] at h1
  have hz : w.heap.size + 1 ≤ wr.heap.size := (Array.getElem?_eq_some_iff.1 h.box).1
  refine h1.mono ?_
  rintro r w' ⟨q, n, k, rfl, HO⟩
  have hz2 := hal.size
  have h2 : Below wr.heap.size wr w' := hal.trans (HO.out.1.2.mono hz2)
  exact ⟨q, n, k, rfl, row_to HO.out.1.1 (by omega) (fun _ _ _ => rfl), (h2.block _ (by omega)).trans h.box, h.below.trans (h2.mono h.below.size)⟩

set_option maxHeartbeats 1000000 in
set_option maxRecDepth 100000 in
theorem rdata_any {w : World} {t : ByteArray} {sv cv : Value} {xs : List UInt8} {cs : List Chg} (hs : RdN w sv xs) (hx : xs.length ≤ 268435456) (hc : CRow w cv cs) (hn : cs.length ≤ 1000) :
    Calls Try.prog 48 #[.agg #[.string t, sv, cv]] w fun e w' => ∃ q n c, e = .returned (.slice q n c) ∧ Hid (Out w (applyAll cs xs) (.slice q n c) w' ∧ n = (applyAll cs xs).length) := by
  obtain ⟨ac, kc, hcv, hcr⟩ := id hc
  obtain ⟨⟨sa, ks, hsv, _⟩, _⟩ := id hs
  have hmay : ∀ c ∈ cs, ChgMay c := fun c hcm => by
    obtain ⟨j, hj⟩ := List.mem_iff_getElem?.1 hcm
    exact (hcr j c hj).1
  have HL : Hid (∀ k, (applyAll (cs.take k) xs).length ≤ 268435456) := fun k => applyAll_len (fun c h => hmay c (List.mem_of_mem_take h)) hx
  have HC := hideP hc
  generalize hnc : cs.length = nc at hn hcv
  subst hcv hsv
  obtain ⟨O, hO⟩ : ∃ O : Obj, O = .cells #[.string t, .slice sa xs.length ks, .slice ac nc kc] 90 := ⟨_, rfl⟩
  have hal : Below w.heap.size w (w.alloc O) := (Below.refl _ w).alloc (Nat.le_refl _) O
  have htw := rtwin_any (hs.later hal) (by omega)
  obtain ⟨W0, hW0⟩ : ∃ W0, W0 = w.alloc O := ⟨_, rfl⟩
  have hB0 : W0.heap[w.heap.size]? = some O := by rw [hW0, hO]; exact World.alloc_heap_new w _
  rw [← hW0] at htw hal
  rw [hO] at hW0
  generalize hnx : xs.length = nx at *
  have HI : Hid (Calls Try.prog 49 #[.slice sa nx ks] W0 fun e w' => ∃ q c, e = .returned (.slice q nx c) ∧ Hid (AI w O (applyAll (cs.take 0) xs) (.slice q nx c) w')) := by
    refine htw.mono ?_
    rintro r W1 ⟨q, c, rfl, HO⟩
    have hz : W0.heap.size = w.heap.size + 1 := by rw [hW0]; simp
    have h1 := HO.out.1
    rw [hz] at h1
    refine ⟨q, c, rfl, ?_, (HO.out.2.block _ (by omega)).trans hB0, hal.trans (HO.out.2.mono (by omega))⟩
    show W1.ownsRow (w.heap.size + 1) 5 1 (.slice q nx c) xs.length (xs.map byteV)
    exact h1
  have HW0 := hideP hW0
  have HO := hideP hO
  have HNC := hideP hnc
  have HNX := hideP hnx
  clear hc hs hcr hmay htw hal hB0 hO hW0 hnc hnx
  go_enter Try.func48, Try.ntmps48
  go_wp2_with fail
  rw [← HW0.out]
  refine HI.out.mono ?_
  rintro r W1 ⟨q0, c0', rfl, HA⟩
  clear HI HW0
  have b2 : W1.cell? ⟨w.heap.size, 2, none⟩ = some (.slice ac nc kc) := blk_cell (HA.out.box.trans (by rw [HO.out])) rfl
  go_wp2
  clear b2
  go_loopw [3, 12] (fun sv i wr => ∃ (j : Nat) (q : Option Addr) (n c : Nat), j ≤ nc ∧ i = .int .i64 j ∧ sv = .slice q n c ∧ Hid (AI w O (applyAll (cs.take j) xs) (.slice q n c) wr)) (fun _ i _ => nc - (intOf i).toNat)
  case atStart => exact ⟨0, q0, nx, c0', Nat.zero_le _, rfl, rfl, HA⟩
  case round =>
    clear HA
    obtain ⟨j, q, n, c, hj, rfl, rfl, HA⟩ := hrel
    by_cases hjn : j < nc
    · have hjn' : (j : Int) < (nc : Int) := by omega
      have hjc : j < cs.length := by rw [HNC.out]; exact hjn
      have hcw : CRow wr (.slice ac nc kc) cs := by
        obtain ⟨a1, k1, e1, hr⟩ := HC.out
        have e1' : Value.slice ac nc kc = .slice a1 cs.length k1 := e1
        refine ⟨a1, k1, e1', fun i c hc => ?_⟩
        have hb := HA.out.below
        obtain ⟨h1, b, off, d, h2, h3, h4, h5⟩ := hr i c hc
        exact ⟨h1, b, off, d, h2, Nat.lt_of_lt_of_le h3 hb.size, fun i u hu => (hb.cell (p := ⟨b, _, none⟩) h3).trans (h4 i u hu), h5.later hb⟩
      obtain ⟨a1, k1, e1, hr⟩ := hcw
      cases e1
      obtain ⟨hm, b, off, d, e2, hb, h4, hd⟩ := hr j cs[j] (List.getElem?_eq_getElem hjc)
      subst e2
      obtain ⟨cu, at_, long, hfour⟩ := chgC_four cs[j] d
      rw [hfour] at h4
      have m0 := h4 0 _ rfl
      have m1 := h4 1 _ rfl
      have m2 := h4 2 _ rfl
      have m3 := h4 3 _ rfl
      simp only [Nat.add_zero] at m0
      have HDO := hideP (HA.out.apply (HL.out j) hd hm hfour)
      rw [← applyAll_snoc, ← List.take_succ_eq_append_getElem hjc] at HDO
      have t2 : IntKind.i64.wrap ((j : Int) + 1) = (j : Int) + 1 := by rw [IntKind.wrap_i64]; omega
      obtain ⟨da, dk, hde, _⟩ := hd
      subst hde
      clear hr h4 hm hfour HA hjc
      generalize (chgL cs[j]).length = nd at *
      go_wp2_with fail
      refine HDO.out.mono ?_
      rintro r w5 ⟨q', n', c', rfl, HB⟩
      clear HDO
      go_wp2
      go_roundw
      case rel => exact ⟨j + 1, q', n', c', by omega, by go_num, rfl, HB⟩
      case measure => simp [intOf]; omega
    · have hjn' : ¬ (j : Int) < (nc : Int) := by omega
      have hjc : j = nc := by omega
      subst hjc
      have hfin : Hid (Out w (applyAll cs xs) (.slice q n c) wr ∧ n = (applyAll cs xs).length) := by
        have h1 := HA.out.own
        rw [show cs.take j = cs from by rw [← HNC.out, List.take_length]] at h1
        obtain ⟨a2, c2, e2, _⟩ := own_slice h1
        refine ⟨⟨row_to h1 (by omega) (fun _ _ _ => rfl), HA.out.below⟩, ?_⟩
        cases e2
        rfl
      clear HA
      go_wp2
      go_ret
      exact ⟨q, n, c, rfl, hfin⟩

end Go.Proofs.Ytcceaokldphfgaa

namespace Go.Proofs.Ytcceaokldphfgaa
open Go.RowKit Go.Shelf

theorem mem_take_succ {l : List Int} {k : Nat} {n : Int} (hk : k < l.length) (h : n ∉ l.take k) (hne : l[k] ≠ n) : n ∉ l.take (k + 1) := by
  rw [List.take_succ_eq_append_getElem hk]
  simp only [List.mem_append, List.mem_singleton, not_or]
  exact ⟨h, fun e => hne e.symm⟩

set_option maxHeartbeats 400000 in
set_option maxRecDepth 100000 in
/-- Whether a number is among numbers. -/
theorem rhas_any {w : World} {v : Value} {l : List Int} (h : RdI w v l) (n : Int) (hl : l.length ≤ 140737488355328) :
    Calls Try.prog 80 #[v, .int .i64 n] w fun e w' => e = .returned (.bool (decide (n ∈ l))) ∧ w = w' := by
  rcases h with ⟨rfl, rfl⟩ | ⟨b, o, c, rfl, _, hr⟩
  · have hd : decide (n ∈ ([] : List Int)) = false := by simp
    rw [hd]
    clear hd
    go_enter Try.func80, Try.ntmps80
    go_wp2
    go_loopw [9] (fun i wr => i = .int .i64 0 ∧ w = wr) (fun _ _ => 0)
    case atStart => exact ⟨rfl, rfl⟩
    case round =>
      obtain ⟨rfl, rfl⟩ := hrel
      go_wp2
      go_ret
      exact ⟨rfl, rfl⟩
  · have HR := hideP hr
    generalize hnl : l.length = nl at *
    have HN := hideP hnl
    clear hr hnl
    obtain ⟨B, hB⟩ : ∃ B, B = decide (n ∈ l) := ⟨_, rfl⟩
    rw [← hB]
    have HB := hideP hB
    clear hB
    go_enter Try.func80, Try.ntmps80
    go_wp2
    go_loopw [9] (fun i wr => ∃ k : Nat, k ≤ nl ∧ i = .int .i64 k ∧ Hid (n ∉ l.take k) ∧ w = wr) (fun i _ => nl - (intOf i).toNat)
    case atStart => exact ⟨0, Nat.zero_le _, rfl, by intro h; simp at h, rfl⟩
    case round =>
      obtain ⟨k, hk, rfl, HK, rfl⟩ := hrel
      by_cases hkl : k < nl
      · have hkl' : (k : Int) < (nl : Int) := by omega
        have hkL : k < l.length := by rw [HN.out]; exact hkl
        have hc := HR.out k l[k] (List.getElem?_eq_getElem hkL)
        have t2 : IntKind.i64.wrap ((k : Int) + 1) = (k : Int) + 1 := by rw [IntKind.wrap_i64]; omega
        by_cases hx : l[k] = n
        · have hT : B = true := by rw [HB.out, decide_eq_true_iff, ← hx]; exact List.getElem_mem hkL
          subst hT
          rw [hx] at hc
          have he : (n == n) = true := by simp
          clear hx HK HB
          go_wp2
          go_ret
          exact ⟨rfl, rfl⟩
        · have HK' := hideP (mem_take_succ hkL HK.out hx)
          have he : (l[k] == n) = false := by simpa using hx
          generalize l[k] = x at *
          clear hx HK
          go_wp2
          exact ⟨⟨k + 1, by omega, by go_num, HK', trivial⟩, by simp [intOf]; omega⟩
      · have hkl' : ¬ (k : Int) < (nl : Int) := by omega
        have hkn : k = nl := by omega
        have hT : B = false := by
          rw [HB.out, decide_eq_false_iff_not]
          have := HK.out
          rwa [hkn, ← HN.out, List.take_length] at this
        subst hT
        clear HK HB
        go_wp2
        go_ret
        exact ⟨rfl, rfl⟩

theorem index_byte (s : ByteArray) (k : Nat) (x : UInt8) (hk : k < s.size) (hx : s.data[k]? = some x) (W : World) : (Instr.index 9 (.string s) (.int .i64 (k : Int))).run Try.prog W = .ok (.int .u8 x.toNat) W := by
  have h := run_index_string (P := Try.prog) (w := W) 9 s .i64 (k : Int) Try.underlying9
  rw [h]
  have hd : s.data[k] = x := by rw [Array.getElem?_eq_getElem hk] at hx; exact Option.some.inj hx
  have e : ((k : Int)).toNat = k := by omega
  have g : ¬ ((k : Int) < 0 ∨ (s.size : Int) ≤ (k : Int)) := by omega
  subst hd
  simp [e, hk]
  rfl

theorem all_succ {l : List UInt8} {k : Nat} (hk : k < l.length) (h : (l.take k).all okByte = true) (ho : okByte l[k] = true) : (l.take (k + 1)).all okByte = true := by
  rw [List.take_succ_eq_append_getElem hk, List.all_append, h]
  simp [ho]

set_option maxHeartbeats 400000 in
set_option maxRecDepth 100000 in
/-- Whether a name may be. -/
theorem rmay_any (w : World) (s : ByteArray) : Calls Try.prog 66 #[.string s] w fun e w' => e = .returned (.bool (okName s)) ∧ w = w' := by
  by_cases h0 : s.size < 1
  · have hT : okName s = false := by unfold okName; simp; intro h; omega
    rw [hT]
    clear hT
    go_enter Try.func66, Try.ntmps66
    go_wp2
    go_ret
    exact ⟨rfl, rfl⟩
  by_cases h1 : 32 < s.size
  · have hT : okName s = false := by unfold okName; simp; intro h; omega
    rw [hT]
    clear hT
    go_enter Try.func66, Try.ntmps66
    go_wp2
    go_ret
    exact ⟨rfl, rfl⟩
  obtain ⟨B, hB⟩ : ∃ B, B = okName s := ⟨_, rfl⟩
  rw [← hB]
  have HB : Hid (B = s.data.toList.all okByte) := by
    rw [hB]; unfold okName; rw [decide_eq_true (by omega)]; rfl
  have hl : s.data.toList.length = s.size := Array.length_toList
  have HL := hideP hl
  clear hB hl
  go_enter Try.func66, Try.ntmps66
  go_wp2
  go_loopw [3] (fun i wr => ∃ k : Nat, k ≤ s.size ∧ i = .int .i64 k ∧ Hid ((s.data.toList.take k).all okByte = true) ∧ w = wr) (fun i _ => s.size - (intOf i).toNat)
  case atStart => exact ⟨0, Nat.zero_le _, rfl, (by rw [List.take_zero]; rfl : ((s.data.toList.take 0).all okByte = true)), rfl⟩
  case round =>
    obtain ⟨k, hk, rfl, HK, rfl⟩ := hrel
    by_cases hkl : k < s.size
    · have hkL : k < s.data.toList.length := by rw [HL.out]; exact hkl
      obtain ⟨x, hx⟩ : ∃ x, x = s.data.toList[k] := ⟨_, rfl⟩
      have hix := fun W => index_byte s k x hkl (by rw [hx, ← Array.getElem?_toList]; exact List.getElem?_eq_getElem hkL) W
      have t2 : IntKind.i64.wrap ((k : Int) + 1) = (k : Int) + 1 := by rw [IntKind.wrap_i64]; omega
      have hx255 : x.toNat < 256 := UInt8.toNat_lt x
      by_cases ho : okByte x = true
      · have HK' := hideP (all_succ hkL HK.out (by rw [← hx]; exact ho))
        have h3 : 33 ≤ x.toNat ∧ x.toNat ≤ 126 ∧ x.toNat ≠ 47 := by simpa [okByte] using ho
        obtain ⟨q1, q2, q3⟩ := h3
        have q4 : ((x.toNat : Int) == 47) = false := by simp; omega
        have q5 : ¬ (x.toNat : Int) < 33 := by omega
        have q6 : ¬ (126 : Int) < x.toNat := by omega
        clear hx HK ho q1 q2 q3
        go_wp2
        exact ⟨⟨k + 1, by omega, by go_num, HK', trivial⟩, by simp [intOf]; omega⟩
      · have hT : B = false := by
          rw [HB.out, List.all_eq_false]
          exact ⟨x, by rw [hx]; exact List.getElem_mem hkL, ho⟩
        subst hT
        have h3 : x.toNat < 33 ∨ 126 < x.toNat ∨ x.toNat = 47 := by
          have := ho
          simp only [okByte, decide_eq_true_eq] at this
          omega
        clear hx HK ho HB
        rcases h3 with h3 | h3 | h3
        · have q5 : (x.toNat : Int) < 33 := by omega
          go_wp2
          go_ret
          exact ⟨rfl, rfl⟩
        · have q5 : ¬ (x.toNat : Int) < 33 := by omega
          have q6 : (126 : Int) < x.toNat := by omega
          go_wp2
          go_ret
          exact ⟨rfl, rfl⟩
        · rw [h3] at hix
          go_wp2
          go_ret
          exact ⟨rfl, rfl⟩
    · have hkn : k = s.size := by omega
      have hT : B = true := by
        rw [HB.out]
        have := HK.out
        rwa [hkn, ← HL.out, List.take_length] at this
      subst hT
      clear HK HB
      go_wp2
      go_ret
      exact ⟨rfl, rfl⟩

end Go.Proofs.Ytcceaokldphfgaa
