/-
  For every limit and all operations that hold together at most 1048576 values and letters DiskRoom returns true: a disk with a limit never has more bytes than that.
-/
import Derived.Test.YtcceaokldphfgaaDiskRoomUptoC49
import Derived.Deep.CondSized
import Derived.OpenShut
import Derived.Test.YtcceaokldphfgaaDiskRoomUptoC46
namespace Go.Proofs.Ytcceaokldphfgaa
open Go.RowKit Go.Shelf

/-- How many bytes the first files have. -/
def lenL (l : List (ByteArray × List UInt8)) (i : Nat) : Nat := ((l.take i).map fun x => x.2.length).sum

theorem lenL_next {l : List (ByteArray × List UInt8)} {i : Nat} (h : i < l.length) : lenL l (i + 1) = lenL l i + l[i].2.length := by
  unfold lenL
  rw [List.take_succ_eq_append_getElem h, List.map_append, List.sum_append]
  simp only [List.map_cons, List.map_nil, List.sum_cons, List.sum_nil]
  omega

theorem lenL_all (fs : List AFile) : lenL (dataL fs) (dataL fs).length = totA fs := by
  unfold lenL dataL totA
  rw [List.take_length, List.map_map]
  rfl

theorem lenL_le {l : List (ByteArray × List UInt8)} (i : Nat) : lenL l i ≤ lenL l l.length := by
  unfold lenL
  rw [List.take_length]
  conv => rhs; rw [← List.take_append_drop i l]
  rw [List.map_append, List.sum_append]
  omega

set_option maxHeartbeats 4000000 in
set_option maxRecDepth 100000 in
theorem room_any {w : World} {v : Value} {L : List AOp} {R : Int} (hR : I64 R) (hL : OpsAt w v L) :
    Calls Try.prog 8 #[.int .i64 R, v] w fun r w' => r = .returned (.bool true) ∧ Below w.heap.size w w' := by
  obtain ⟨av, cv, hv⟩ := hL.shape
  have haw := awake_any w
  have HLL := hideP hL
  clear hL
  subst hv
  go_enter Try.func8, Try.ntmps8
  go_wp2_with fail
  refine haw.mono ?_
  rintro r W1 ⟨rfl, hb1⟩
  clear haw
  have HBW1 := hideP hb1
  have hfew := few_D W1 _ L (HLL.out.later hb1)
  clear hb1
  go_wp2_with fail
  refine hfew.mono ?_
  rintro r W2 ⟨⟨b, rfl, hb60⟩, hb2⟩
  clear hfew
  have HBW2 := hideP (HBW1.out.trans (hb2.mono HBW1.out.size))
  cases b with
  | false =>
    clear hb2
    go_wp2
    go_ret
    exact ⟨rfl, HBW2.out⟩
  | true =>
    have H60 := hideP (hb60 rfl)
    clear hb60 hb2
    by_cases hR0 : R ≤ 0
    · go_wp2
      go_ret
      exact ⟨rfl, HBW2.out⟩
    · go_wp2_with fail
      obtain ⟨WN, hWN⟩ : ∃ WN, WN = W2.alloc (.cells #[.int .i64 (-1)] 3) := ⟨_, rfl⟩
      have HBN : Hid (Below w.heap.size w WN) := by
        rw [hWN]
        exact HBW2.out.trans (((Below.refl _ W2).alloc (Nat.le_refl _) _).mono HBW2.out.size)
      have hce : WN.cell? ⟨W2.heap.size, 0, none⟩ = some (.int .i64 (-1)) := by
        rw [hWN]
        exact (cell_new (W := W2) (.int .i64 (-1)) 3).1
      have hsz : W2.heap.size < WN.heap.size := by rw [hWN]; simp
      rw [← hWN]
      have hnew := new_Q WN (.slice (some ⟨W2.heap.size, 0, none⟩) 1 1) [-1] R (.inr ⟨_, _, _, rfl, hsz, fun j x hx => by
        match j, hx with
        | 0, hx => simp at hx; subst hx; exact hce
        | j + 1, hx => simp at hx⟩) (fun a n c e => by cases e; exact hsz) (by simp) (by simp [I64]) hR
      clear hce hsz hWN
      refine hnew.mono ?_
      rintro r W4 ⟨D, rfl, hl00⟩
      have hl0 : Hid (LivesZ (InRoom [-1] R) WN W4 D 0) := hl00.out.mono fun a h => ⟨h.1, by rw [h.2]; simp [totA]; omega⟩
      clear hnew hl00
      have hRu := hR.2
      have HRL := hideP hR
      clear hR
      go_wp2
      go_loopw [28] (fun i wr => ∃ j : Nat, j ≤ L.length ∧ i = .int .i64 j ∧ Hid (LivesZ (InRoom [-1] R) WN wr D j)) (fun i _ => L.length - (intOf i).toNat)
      case atStart => exact ⟨0, Nat.zero_le _, rfl, hl0⟩
      case round =>
        obtain ⟨j, hj, rfl, hlv⟩ := hrel
        have h60 := H60.out
        by_cases hjl : j < L.length
        · have hbr : Below w.heap.size w wr := by
            obtain ⟨role, s, g1, g2, _⟩ := hlv.out
            exact HBN.out.trans (g2.below.mono HBN.out.size)
          obtain ⟨blk, off, rfl, b0, b1, b2, b3, d0, d1, d2, d3, hop, hcell⟩ := (HLL.out.later hbr).at_ hjl
          have m0 := hcell 0 _ rfl
          have m1 := hcell 1 _ rfl
          have m2 := hcell 2 _ rfl
          have m3 := hcell 3 _ rfl
          have m4 := hcell 4 _ rfl
          have m5 := hcell 5 _ rfl
          have m6 := hcell 6 _ rfl
          have m7 := hcell 7 _ rfl
          have m8 := hcell 8 _ rfl
          have m9 := hcell 9 _ rfl
          have m10 := hcell 10 _ rfl
          simp only [Nat.add_zero] at m0
          have hba : ∀ o, Below wr.heap.size wr (wr.alloc o) := fun o => (Below.refl _ wr).alloc (Nat.le_refl _) o
          by_cases h7 : L[j].kind = 7
          · have hq7 : (L[j].kind == 7) = true := by simp [h7]
            have HST : Hid (∀ o, LivesZ (InRoom [-1] R) WN (wr.alloc o) D (j + 1)) := fun o => (hlv.out.still (hba o)).more (by omega)
            clear hcell hop hba hbr hlv
            go_wp2
            go_roundw
            case rel => exact ⟨j + 1, by omega, by go_num, HST.out _⟩
            case measure => simp [intOf]; omega
          · have hq7 : (L[j].kind == 7) = false := by simp [h7]
            have hdo := LivesZ.doesS (Z := InRoom [-1] R) (fun a o hz hs h7 => do_room hz (by omega) hs o h7) (hlv.out.still (hba (.cells #[.int .i64 L[j].kind, .string L[j].name, .string L[j].to, .int .i64 L[j].at_, .int .i64 L[j].long, .slice b0 L[j].data.length d0, .int .i64 L[j].crash, .slice b1 L[j].keep.length d1, .slice b2 L[j].fail.length d2, .slice b3 L[j].full.length d3, .int .i64 L[j].room] 35))) (by omega) (hop.later (hba _)) h7
            unfold opV at hdo
            have HDO := hideP hdo
            clear hcell hop hba hbr hlv hdo h7
            go_wp2_with fail
            refine HDO.out.mono ?_
            rintro r w5 ⟨⟨e, rfl⟩, HLV⟩
            clear m0 m1 m2 m3 m4 m5 m6 m7 m8 m9 m10
            obtain ⟨role, s, hd, hs, hc, ho, hz⟩ := HLV.out
            have hfl := files_D hd hz.quiet.live
            have hlen := lenL_all (abs s).fs
            have htot := hz.tot
            obtain ⟨l, hl⟩ : ∃ l, l = dataL (abs s).fs := ⟨_, rfl⟩
            rw [← hl] at hfl hlen
            rw [← hlen] at htot
            have HT : Hid ((lenL l l.length : Int) ≤ R) := htot
            clear hd hs hc ho hz hlen htot hl
            go_wp2_with fail
            refine hfl.mono ?_
            rintro r w6 ⟨a6, n6, k6, rfl, HF6, hb6⟩
            clear hfl
            have HL6 := hideP (HLV.out.still hb6)
            obtain ⟨a6', c6', e6, hm6⟩ := HF6.out.shape
            simp only [Value.slice.injEq] at e6
            obtain ⟨rfl, rfl, rfl⟩ := e6
            clear hb6
            go_wp2
            go_loopw [8, 41] (fun n i wq => ∃ q : Nat, q ≤ l.length ∧ n = .int .i64 (lenL l q) ∧ i = .int .i64 q ∧ Hid (Below w6.heap.size w6 wq)) (fun _ i _ => l.length - (intOf i).toNat)
            case atStart => exact ⟨0, Nat.zero_le _, rfl, rfl, Below.refl _ _⟩
            case round =>
              obtain ⟨q, hq, rfl, rfl, hbq⟩ := hrel
              have hle := HT.out
              by_cases hql : q < l.length
              · obtain ⟨g, q1, m, k, rfl, m1, m2, hm1, _⟩ := (HF6.out.later hbq.out).at_ hql
                have hnx := lenL_next hql
                have hle2 := lenL_le (l := l) (q + 1)
                have hwr : IntKind.i64.wrap ((lenL l q : Int) + (m : Int)) = (lenL l q : Int) + (m : Int) := by rw [IntKind.wrap_i64]; omega
                have HBA : Hid (∀ o, Below w6.heap.size w6 (wr.alloc o)) := fun o => hbq.out.alloc hbq.out.size o
                have HEQ : Hid ((lenL l q : Int) + (m : Int) = (lenL l (q + 1) : Int)) := by show (_ : Int) = _; omega
                clear hbq hnx hle2 hm1 hle
                go_wp2
                go_roundw
                case rel => exact ⟨q + 1, by omega, by rw [← HEQ.out], by go_num, HBA.out _⟩
                case measure => simp [intOf]; omega
              · have hql' : q = l.length := by omega
                subst hql'
                have hgt : ¬ R < (lenL l l.length : Int) := by omega
                have HFI : Hid (LivesZ (InRoom [-1] R) WN wr D (j + 1)) := HL6.out.still hbq.out
                clear hbq hle
                go_wp2
                go_roundw
                case rel => exact ⟨j + 1, by omega, by go_num, HFI⟩
                case measure => simp [intOf]; omega
        · have hjl' : j = L.length := by omega
          subst hjl'
          obtain ⟨role, s, g1, g2, _⟩ := hlv.out
          have HBF : Hid (Below w.heap.size w wr) := HBN.out.trans (g2.below.mono HBN.out.size)
          clear hlv g1 g2
          go_wp2
          go_ret
          exact ⟨rfl, HBF.out⟩

end Go.Proofs.Ytcceaokldphfgaa

namespace Go.Proofs.Ytcceaokldphfgaa
open Go.ChangeShapes Go.WideShapes Go.ChangeAt Go.RowKit Go.Shelf

set_option maxHeartbeats 1000000 in
set_option maxRecDepth 100000 in
theorem diskRoomUpto_lifted (os : Os) (started : os.Started) (H : Type) (enc : TypeId × Value → H) (F : Stop.Interp) :
    ReturnsInHanded {} Try.checked os 8 .any ((Rows.OpenSpec.upto Rows.diskRoomSpec).pre6 enc Try.prog Try.f8 Rows.diskRoomUptoRow.domain false) (((Rows.OpenSpec.upto Rows.diskRoomSpec).at F).post enc Try.prog Try.f8 false true false false) := by
  refine returnsInHanded_of_cond_sized (C := Try.checked) (s := Rows.OpenSpec.upto Rows.diskRoomSpec) (k := Rows.uptoSmall) rfl Try.own started (by kernel_rfl) Try.func8
    (OpenSpec.witness (enc := enc) (C := Try.checked) (s := Rows.OpenSpec.upto Rows.diskRoomSpec) (k := Rows.uptoSmall) rfl false ⟨#[], #[.int .i64 0, .slice none 0 0], []⟩ 8 (by kernel_rfl) (by kernel_rfl) (by kernel_rfl)
      (x := ([.lit (.int .i64 0), .nil], [], [])) (by kernel_rfl) rfl (by kernel_rfl)) ?_
  intro W base args ds gs before hval0 hW hcnd hk hsz0 _
  have hval : ∀ (j : Nat) t v, Try.f8.params[j]? = some t → args[j]? = some v → Value.okWide Try.prog W .any base t v := hval0
  have hW' := hW
  obtain ⟨p, q, hA0, hV, rfl, hfz, hnd⟩ := hW
  have hA : DataW.TrodAll enc Try.prog W 0 (fun _ => true) true Try.f8.params.toList args.toList ds p := hA0
  rw [Try.params8] at hA hval
  obtain ⟨v0, vs0, d0, ds0, p0, q0, hargs0, rfl, rfl, h0, r0⟩ := trodAll_cons hA
  obtain ⟨v1, vs1, d1, ds1, p1, q1, hargs1, rfl, rfl, h1, r1⟩ := trodAll_cons r0
  obtain ⟨rfl, rfl, rfl⟩ := trodAll_nil r1
  obtain ⟨rfl, rfl⟩ := trodVars_none hV
  subst hargs1
  obtain rfl : args = #[v0, v1] := by cases args; simp_all
  obtain ⟨n0, rfl, hi0⟩ := int_arg (hval 0 3 v0 rfl rfl) h0
  obtain ⟨L1, hL1⟩ := ops_in (hval 1 25 v1 rfl rfl) h1 (fun y hy => of_decide_eq_true (List.all_eq_true.1 hsz0 y (DataW.weights_mem_each (j := 1) (t := 25) (by rw [Try.params8]; rfl) rfl y hy)))
  have hlt : ∀ x ∈ p0 ++ (p1 ++ ([])), x.block < W.heap.size := fun x hx => by simpa using hW'.lt x (by simpa using hx)
  have hcall := room_any hi0 hL1
  simp only [List.append_nil] at hW'
  refine hcall.mono fun e W' ⟨he, hb⟩ => ?_
  subst he
  refine ⟨_, rfl, [d0, d1], [], _, [], p0 ++ (p1 ++ ([])), [], hW', trodAll_mk1 (shut_bool Try.underlying4 true), (trodAll_cons_mk (Below.trod Try.laidOut (by kernel_rfl) (of_decide_eq_true (by kernel_rfl)) h0 hb (fun x hx => hlt x (by simp [hx]))) (trodAll_cons_mk (Below.trod Try.laidOut (by kernel_rfl) (of_decide_eq_true (by kernel_rfl)) h1 hb (fun x hx => hlt x (by simp [hx]))) trodAll_mk0)), rfl, hb.frame _, fun h => by cases h⟩

theorem diskRoomUpto_holds : Rows.DiskRoomUptoSaid :=
  OpenClaim.holds_of_cond 8 Try.f8 rfl rfl rfl rfl rfl rfl rfl ⟨rfl, rfl, rfl, rfl, rfl⟩ rfl rfl rfl rfl rfl (by kernel_rfl) Try.func8 (by kernel_rfl)
    (of_decide_eq_true (by kernel_rfl)) (by unfold Func.isWrapper; first | (rw [if_pos (by decide +kernel)]; kernel_rfl) | (rw [if_neg (by decide +kernel)]; exact ⟨rfl, rfl⟩))
    (fun os started H enc _ F => diskRoomUpto_lifted os started H enc F)

end Go.Proofs.Ytcceaokldphfgaa
