/- YtcceaokldphfgaaDiskAllC49 -/
import Derived.Test.YtcceaokldphfgaaDiskAllC48
namespace Go.Proofs.Ytcceaokldphfgaa
open Go.RowKit Go.Shelf

theorem new_Q (w : World) (keepV : Value) (keep : List Int) (room : Int) (h : RdI w keepV keep) (hb : ∀ a n c, keepV = .slice (some a) n c → a.block < w.heap.size) (hl : keep.length * 8 ≤ 140737488351232) (he : ∀ x ∈ keep, I64 x) (hR : I64 room) :
    Calls Try.prog 12 #[.agg #[.int .i64 0, keepV, .slice none 0 0, .slice none 0 0, .int .i64 room]] w fun r w' => ∃ D, r = .returned (.pointer (some ⟨D, 0, none⟩)) ∧ Hid (LivesZ (fun a => Quiet keep room a ∧ a.fs = []) w w' D 0) := by
  refine (new_any 0 room keepV (.slice none 0 0) (.slice none 0 0) keep [] [] w h (.inl ⟨rfl, rfl⟩) (.inl ⟨rfl, rfl⟩) hl (by simp) (by simp) hb (by simp) (by simp) he (by simp) (by simp) ⟨by simp, by simp⟩ hR).mono ?_
  rintro r w' ⟨D, rfl, _, role, s, q1, q2, q3, q4, q5, q6, q7, q8, q9, q10⟩
  refine ⟨D, rfl, role, s, q1, q2, ?_, by omega, ⟨q3, q4, q6, q5, by show 0 ≤ s.ops; omega⟩, by simp [abs, q10]⟩
  refine ⟨fun f hf => ?_, fun e => ?_⟩
  · simp [abs, q10] at hf
  · have : s.dead = true := e
    rw [q3] at this; cases this

theorem LivesZ.mono {Z Z' : ASt → Prop} {w wr : World} {D n : Nat} (h : LivesZ Z w wr D n) (hz : ∀ a, Z a → Z' a) : LivesZ Z' w wr D n := by
  obtain ⟨role, s, h1, h2, h3, h4, h5⟩ := h
  exact ⟨role, s, h1, h2, h3, h4, hz _ h5⟩

/-- From Start on: what is found is what was wanted. -/
theorem all_tail {w6 : World} {role : Role} {D B : Nat} {s : DSt} {K : List Int} {v : Value} {l : List (ByteArray × List UInt8)} (hd : DiskOK w6 role D s) (hq : Quiet K 0 (abs s)) (hB : ∀ k, B ≤ k → role k = none) (hw : FilesAt w6 B v l) (e1 : dataL (dieAll K 0 (abs s).fs) = l) (e2 : safeL (dieAll K 0 (abs s).fs) = l) :
    Calls Try.prog 27 #[.pointer (some ⟨D, 0, none⟩), .agg #[.int .i64 0, .slice none 0 0, .slice none 0 0, .slice none 0 0, .int .i64 0]] w6 fun r w7 => r = .returned (.int .i64 0) ∧ Hid (Calls Try.prog 21 #[.pointer (some ⟨D, 0, none⟩)] w7 fun r w8 => ∃ a n c, r = .returned (.slice a n c) ∧
      Hid (Calls Try.prog 28 #[.slice a n c, v] w8 fun r w9 => r = .returned (.bool true) ∧ Hid (Calls Try.prog 22 #[.pointer (some ⟨D, 0, none⟩)] w9 fun r w10 => ∃ a' n' c', r = .returned (.slice a' n' c') ∧
        Hid (Calls Try.prog 28 #[.slice a' n' c', v] w10 fun r w11 => r = .returned (.bool true) ∧ Hid (Calls Try.prog 16 #[.pointer (some ⟨D, 0, none⟩)] w11 fun r w12 => r = .returned (.int .i64 0) ∧ w11 = w12) ∧ Hid (∃ role', Stp role role' w6 w11))))) := by
  have hst := start_D hd (fun e => by have := hq.live; rw [show (abs s).dead = true from e] at this; cases this) 0 0 (.slice none 0 0) (.slice none 0 0) (.slice none 0 0) [] [] [] (PlanArg.nil _ _) (PlanArg.nil _ _) (PlanArg.nil _ _) ⟨by simp, by simp⟩ ⟨by simp, by simp⟩
  refine hst.mono ?_
  rintro r w7 ⟨rfl, role7, s7, d7, p7, a7⟩
  have hfs : (abs s7).fs = dieAll K 0 (abs s).fs := by
    rw [a7]
    show (if (abs s).dead = true then _ else _) = _
    rw [if_neg (by rw [hq.live]; simp), hq.keep]
  have hlv : s7.dead = false := by
    have : (abs s7).dead = false := by rw [a7]; rfl
    exact this
  have hop : (abs s7).ops = 0 := by rw [a7]; rfl
  have hw7 : FilesAt w7 B v l := hw.to fun k hk hl => p7.keep k hl (.inl (hB k hk))
  refine ⟨rfl, (files_D d7 hlv).mono ?_⟩
  rintro r w8 ⟨a, n, c, rfl, hf8, b8⟩
  rw [hfs, e1] at hf8
  refine ⟨a, n, c, rfl, (same_true hf8.out (hw7.later b8)).mono ?_⟩
  rintro r w9 ⟨rfl, b9⟩
  have b79 := b8.trans (b9.mono b8.size)
  have d9 := d7.still b79
  refine ⟨rfl, (safe_D d9).mono ?_⟩
  rintro r w10 ⟨a', n', c', rfl, hf10, b10⟩
  rw [hfs, e2] at hf10
  refine ⟨a', n', c', rfl, (same_true hf10.out ((hw7.later b79).later b10)).mono ?_⟩
  rintro r w11 ⟨rfl, b11⟩
  have b911 := b10.trans (b11.mono b10.size)
  have ho := ops_D (d9.still b911)
  rw [hop] at ho
  exact ⟨rfl, ho, role7, (p7.trans (Stp.still b79)).trans (Stp.still b911)⟩

set_option maxHeartbeats 4000000 in
set_option maxRecDepth 100000 in
theorem all_any {w : World} {v : Value} {L : List AOp} (hL : OpsAt w v L) (all : Bool) :
    Calls Try.prog 6 #[v, .bool all] w fun r w' => r = .returned (.bool true) ∧ Below w.heap.size w w' := by
  obtain ⟨av, cv, hv⟩ := hL.shape
  have haw := awake_any w
  have HLL := hideP hL
  clear hL
  subst hv
  go_enter Try.func6, Try.ntmps6
  go_wp2_with fail
  refine haw.mono ?_
  rintro r W1 ⟨rfl, hb1⟩
  clear haw
  have HBW1 := hideP hb1
  have hfew := few_D W1 _ L (HLL.out.later hb1)
  clear hb1
  go_wp2_with fail
  refine hfew.mono ?_
  rintro r W2 ⟨⟨b, rfl, hb60⟩, hb2⟩
  clear hfew
  have HBW2 := hideP (HBW1.out.trans (hb2.mono HBW1.out.size))
  cases b with
  | false =>
    clear hb2
    go_wp2
    go_ret
    exact ⟨rfl, HBW2.out⟩
  | true =>
    have H60 := hideP (hb60 rfl)
    clear hb60 hb2
    cases all with
    | true =>
      go_wp2_with fail
      obtain ⟨WN, hWN⟩ : ∃ WN, WN = (W2.alloc (.cells #[.int .i64 0, .slice (some ⟨W2.heap.size + 1, 0, none⟩) 1 1, .slice none 0 0, .slice none 0 0, .int .i64 0] 24)).alloc (.cells #[.int .i64 (-1)] 3) := ⟨_, rfl⟩
      have HBN : Hid (Below w.heap.size w WN) := by
        rw [hWN]
        exact HBW2.out.trans ((((Below.refl _ W2).alloc (Nat.le_refl _) _).alloc (by simp) _).mono HBW2.out.size)
      have hce : WN.cell? ⟨W2.heap.size + 1, 0, none⟩ = some (.int .i64 (-1)) := by
        rw [hWN]
        have := (cell_new (W := W2.alloc (.cells #[.int .i64 0, .slice (some ⟨W2.heap.size + 1, 0, none⟩) 1 1, .slice none 0 0, .slice none 0 0, .int .i64 0] 24)) (.int .i64 (-1)) 3).1
        rwa [World.size_alloc] at this
      have hsz : W2.heap.size + 1 < WN.heap.size := by rw [hWN]; simp
      rw [← hWN]
      have hnew := new_Q WN (.slice (some ⟨W2.heap.size + 1, 0, none⟩) 1 1) [-1] 0 (.inr ⟨_, _, _, rfl, hsz, fun j x hx => by
        match j, hx with
        | 0, hx => simp at hx; subst hx; exact hce
        | j + 1, hx => simp at hx⟩) (fun a n c e => by cases e; exact hsz) (by simp) (by simp [I64]) ⟨by simp, by simp⟩
      clear hce hsz hWN
      refine hnew.mono ?_
      rintro r W4 ⟨D, rfl, hl00⟩
      have hl0 : Hid (LivesZ (Quiet [-1] 0) WN W4 D 0) := hl00.out.mono fun a h => h.1
      clear hnew hl00
      go_wp2
      go_loopw [25] (fun i wr => ∃ j : Nat, j ≤ L.length ∧ i = .int .i64 j ∧ Hid (LivesZ (Quiet [-1] 0) WN wr D j)) (fun i _ => L.length - (intOf i).toNat)
      case atStart => exact ⟨0, Nat.zero_le _, rfl, hl0⟩
      case round =>
        obtain ⟨j, hj, rfl, hlv⟩ := hrel
        have h60 := H60.out
        by_cases hjl : j < L.length
        · have hbr : Below w.heap.size w wr := by
            obtain ⟨role, s, g1, g2, _⟩ := hlv.out
            exact HBN.out.trans (g2.below.mono HBN.out.size)
          obtain ⟨blk, off, rfl, b0, b1, b2, b3, d0, d1, d2, d3, hop, hcell⟩ := (HLL.out.later hbr).at_ hjl
          have m0 := hcell 0 _ rfl
          have m1 := hcell 1 _ rfl
          have m2 := hcell 2 _ rfl
          have m3 := hcell 3 _ rfl
          have m4 := hcell 4 _ rfl
          have m5 := hcell 5 _ rfl
          have m6 := hcell 6 _ rfl
          have m7 := hcell 7 _ rfl
          have m8 := hcell 8 _ rfl
          have m9 := hcell 9 _ rfl
          have m10 := hcell 10 _ rfl
          simp only [Nat.add_zero] at m0
          have hba : ∀ o, Below wr.heap.size wr (wr.alloc o) := fun o => (Below.refl _ wr).alloc (Nat.le_refl _) o
          by_cases h7 : L[j].kind = 7
          · have hq7 : (L[j].kind != 7) = false := by simp [h7]
            have HST : Hid (∀ o, LivesZ (Quiet [-1] 0) WN (wr.alloc o) D (j + 1)) := fun o => (hlv.out.still (hba o)).more (by omega)
            clear hcell hop hba hbr hlv
            go_wp2
            go_roundw
            case rel => exact ⟨j + 1, by omega, by go_num, HST.out _⟩
            case measure => simp [intOf]; omega
          · have hq7 : (L[j].kind != 7) = true := by simp [h7]
            have hdo := LivesZ.does (Z := Quiet [-1] 0) (fun a o hz _ h7 => do_quiet hz o h7) (hlv.out.still (hba (.cells #[.int .i64 L[j].kind, .string L[j].name, .string L[j].to, .int .i64 L[j].at_, .int .i64 L[j].long, .slice b0 L[j].data.length d0, .int .i64 L[j].crash, .slice b1 L[j].keep.length d1, .slice b2 L[j].fail.length d2, .slice b3 L[j].full.length d3, .int .i64 L[j].room] 35))) (by omega) (hop.later (hba _)) h7
            unfold opV at hdo
            have HDO := hideP hdo
            clear hcell hop hba hbr hlv hdo h7
            go_wp2_with fail
            refine HDO.out.mono ?_
            rintro r w5 ⟨⟨e, rfl⟩, HLV⟩
            go_wp2
            go_roundw
            case rel => exact ⟨j + 1, by omega, by go_num, HLV⟩
            case measure => simp [intOf]; omega
        · have hjl' : j = L.length := by omega
          subst hjl'
          obtain ⟨role, s, hd, hs, hc, ho, hz⟩ := hlv.out
          have hsf := safe_D hd
          have HD := hideP hd
          have HS := hideP hs
          have HC := hideP hc
          have HZ := hideP hz
          clear hlv hd hs hc ho hz
          go_wp2_with fail
          refine hsf.mono ?_
          rintro r w5 ⟨a5, n5, k5, rfl, HF5, hb5⟩
          clear hsf
          have hd5 := HD.out.still hb5
          have hfl := files_D hd5 HZ.out.live
          have HB5 := hideP hb5
          have HD5 := hideP hd5
          clear hb5 hd5
          go_wp2_with fail
          refine hfl.mono ?_
          rintro r w6 ⟨a6, n6, k6, rfl, HF6, hb6⟩
          clear hfl
          obtain ⟨e1, e2⟩ := die_all (abs s).fs 0 HC.out.whole
          have htl := all_tail (HD5.out.still hb6) HZ.out (fun k hk => no_role HD.out (Nat.le_trans HB5.out.size hk)) HF6.out e1 e2
          have HBX : Hid (Below wr.heap.size wr w6) := HB5.out.trans (hb6.mono HB5.out.size)
          clear hb6 e1 e2
          have HTL := hideP htl
          clear htl
          go_wp2_with fail
          refine HTL.out.mono ?_
          rintro r w7 ⟨rfl, H21⟩
          go_wp2_with fail
          refine H21.out.mono ?_
          rintro r w8 ⟨a8, n8, k8, rfl, H28⟩
          go_wp2_with fail
          refine H28.out.mono ?_
          rintro r w9 ⟨rfl, H22⟩
          go_wp2_with fail
          refine H22.out.mono ?_
          rintro r w10 ⟨a10, n10, k10, rfl, H28b⟩
          go_wp2_with fail
          refine H28b.out.mono ?_
          rintro r w11 ⟨rfl, H16, HSP⟩
          go_wp2_with fail
          refine H16.out.mono ?_
          rintro r w12 ⟨rfl, rfl⟩
          go_wp2
          go_ret
          obtain ⟨role', hsp⟩ := HSP.out
          have hall := (HS.out.trans (Stp.still HBX.out)).trans hsp
          exact ⟨rfl, HBN.out.trans (hall.below.mono HBN.out.size)⟩
    | false =>
      go_wp2_with fail
      obtain ⟨WN, hWN⟩ : ∃ WN, WN = W2.alloc (.cells #[.int .i64 0, .slice none 0 0, .slice none 0 0, .slice none 0 0, .int .i64 0] 24) := ⟨_, rfl⟩
      have HBN : Hid (Below w.heap.size w WN) := by
        rw [hWN]
        exact HBW2.out.trans (((Below.refl _ W2).alloc (Nat.le_refl _) _).mono HBW2.out.size)
      rw [← hWN]
      have hnew := new_Q WN (.slice none 0 0) [] 0 (.inl ⟨rfl, rfl⟩) (fun a n c e => by cases e) (by simp) (by simp) ⟨by simp, by simp⟩
      clear hWN
      refine hnew.mono ?_
      rintro r W4 ⟨D, rfl, hl00⟩
      have hl0 : Hid (LivesZ (Quiet [] 0) WN W4 D 0) := hl00.out.mono fun a h => h.1
      clear hnew hl00
      go_wp2
      go_loopw [25] (fun i wr => ∃ j : Nat, j ≤ L.length ∧ i = .int .i64 j ∧ Hid (LivesZ (Quiet [] 0) WN wr D j)) (fun i _ => L.length - (intOf i).toNat)
      case atStart => exact ⟨0, Nat.zero_le _, rfl, hl0⟩
      case round =>
        obtain ⟨j, hj, rfl, hlv⟩ := hrel
        have h60 := H60.out
        by_cases hjl : j < L.length
        · have hbr : Below w.heap.size w wr := by
            obtain ⟨role, s, g1, g2, _⟩ := hlv.out
            exact HBN.out.trans (g2.below.mono HBN.out.size)
          obtain ⟨blk, off, rfl, b0, b1, b2, b3, d0, d1, d2, d3, hop, hcell⟩ := (HLL.out.later hbr).at_ hjl
          have m0 := hcell 0 _ rfl
          have m1 := hcell 1 _ rfl
          have m2 := hcell 2 _ rfl
          have m3 := hcell 3 _ rfl
          have m4 := hcell 4 _ rfl
          have m5 := hcell 5 _ rfl
          have m6 := hcell 6 _ rfl
          have m7 := hcell 7 _ rfl
          have m8 := hcell 8 _ rfl
          have m9 := hcell 9 _ rfl
          have m10 := hcell 10 _ rfl
          simp only [Nat.add_zero] at m0
          have hba : ∀ o, Below wr.heap.size wr (wr.alloc o) := fun o => (Below.refl _ wr).alloc (Nat.le_refl _) o
          by_cases h7 : L[j].kind = 7
          · have hq7 : (L[j].kind != 7) = false := by simp [h7]
            have HST : Hid (∀ o, LivesZ (Quiet [] 0) WN (wr.alloc o) D (j + 1)) := fun o => (hlv.out.still (hba o)).more (by omega)
            clear hcell hop hba hbr hlv
            go_wp2
            go_roundw
            case rel => exact ⟨j + 1, by omega, by go_num, HST.out _⟩
            case measure => simp [intOf]; omega
          · have hq7 : (L[j].kind != 7) = true := by simp [h7]
            have hdo := LivesZ.does (Z := Quiet [] 0) (fun a o hz _ h7 => do_quiet hz o h7) (hlv.out.still (hba (.cells #[.int .i64 L[j].kind, .string L[j].name, .string L[j].to, .int .i64 L[j].at_, .int .i64 L[j].long, .slice b0 L[j].data.length d0, .int .i64 L[j].crash, .slice b1 L[j].keep.length d1, .slice b2 L[j].fail.length d2, .slice b3 L[j].full.length d3, .int .i64 L[j].room] 35))) (by omega) (hop.later (hba _)) h7
            unfold opV at hdo
            have HDO := hideP hdo
            clear hcell hop hba hbr hlv hdo h7
            go_wp2_with fail
            refine HDO.out.mono ?_
            rintro r w5 ⟨⟨e, rfl⟩, HLV⟩
            go_wp2
            go_roundw
            case rel => exact ⟨j + 1, by omega, by go_num, HLV⟩
            case measure => simp [intOf]; omega
        · have hjl' : j = L.length := by omega
          subst hjl'
          obtain ⟨role, s, hd, hs, hc, ho, hz⟩ := hlv.out
          have hsf := safe_D hd
          have HD := hideP hd
          have HS := hideP hs
          have HC := hideP hc
          have HZ := hideP hz
          clear hlv hd hs hc ho hz
          go_wp2_with fail
          refine hsf.mono ?_
          rintro r w5 ⟨a5, n5, k5, rfl, HF5, hb5⟩
          clear hsf
          obtain ⟨e1, e2⟩ := die_none (abs s).fs 0
          have htl := all_tail (HD.out.still hb5) HZ.out (fun k hk => no_role HD.out hk) HF5.out e1 e2
          have HBX : Hid (Below wr.heap.size wr w5) := hb5
          clear hb5 e1 e2
          have HTL := hideP htl
          clear htl
          go_wp2_with fail
          refine HTL.out.mono ?_
          rintro r w7 ⟨rfl, H21⟩
          go_wp2_with fail
          refine H21.out.mono ?_
          rintro r w8 ⟨a8, n8, k8, rfl, H28⟩
          go_wp2_with fail
          refine H28.out.mono ?_
          rintro r w9 ⟨rfl, H22⟩
          go_wp2_with fail
          refine H22.out.mono ?_
          rintro r w10 ⟨a10, n10, k10, rfl, H28b⟩
          go_wp2_with fail
          refine H28b.out.mono ?_
          rintro r w11 ⟨rfl, H16, HSP⟩
          go_wp2_with fail
          refine H16.out.mono ?_
          rintro r w12 ⟨rfl, rfl⟩
          go_wp2
          go_ret
          obtain ⟨role', hsp⟩ := HSP.out
          have hall := (HS.out.trans (Stp.still HBX.out)).trans hsp
          exact ⟨rfl, HBN.out.trans (hall.below.mono HBN.out.size)⟩

end Go.Proofs.Ytcceaokldphfgaa
