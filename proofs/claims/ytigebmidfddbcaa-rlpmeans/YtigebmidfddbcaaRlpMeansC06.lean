/-
  How many bytes the form of an item has, as the program reckons it.
-/
import Derived.Test.YtigebmidfddbcaaRlpMeansC05
namespace Go.Proofs.Ytigebmidfddbcaa
open Go.RowKit

mutual
/-- The size of an item's form, or why there is none. -/
def Tree.meas : Tree → Nat → Nat × Nat
  | .node l b k, w => if chk l b.length k.length w ≠ 0 then (0, chk l b.length k.length w) else if b.length = 1 ∧ lb b 0 < 128 then (1, 0)
    else if (Tree.measK k (w + 1) b.length).2 ≠ 0 then (0, (Tree.measK k (w + 1) b.length).2) else (hsz (Tree.measK k (w + 1) b.length).1 + (Tree.measK k (w + 1) b.length).1, 0)

/-- The size of a payload. -/
def Tree.measK : List Tree → Nat → Nat → Nat × Nat
  | [], _, acc => (acc, 0)
  | t :: ts, w, acc => if (Tree.meas t w).2 ≠ 0 then (0, (Tree.meas t w).2) else Tree.measK ts w (acc + (Tree.meas t w).1)

end

mutual
/-- A bound of it. -/
def Tree.wt : Tree → Nat
  | .node _ b k => 9 + b.length + Tree.wts k

def Tree.wts : List Tree → Nat
  | [] => 0
  | t :: ts => Tree.wt t + Tree.wts ts

end

theorem Tree.wts_mem {t : Tree} : ∀ {k : List Tree}, t ∈ k → t.wt ≤ Tree.wts k
  | [], h => by cases h
  | s :: ts, h => by
    unfold Tree.wts
    rcases List.mem_cons.1 h with rfl | h
    · omega
    · have := Tree.wts_mem h
      omega

mutual
theorem Tree.meas_le : ∀ (t : Tree) (w : Nat), t.wt < 9223372036854775807 → (t.meas w).1 ≤ t.wt
  | .node l b k, w, h => by
    unfold Tree.meas
    unfold Tree.wt at h ⊢
    by_cases h1 : chk l b.length k.length w ≠ 0
    · rw [if_pos h1]; exact Nat.zero_le _
    · rw [if_neg h1]
      by_cases h2 : b.length = 1 ∧ lb b 0 < 128
      · rw [if_pos h2]; show 1 ≤ _; omega
      · rw [if_neg h2]
        by_cases h3 : (Tree.measK k (w + 1) b.length).2 ≠ 0
        · rw [if_pos h3]; exact Nat.zero_le _
        · rw [if_neg h3]
          have h4 := Tree.measK_le k (w + 1) b.length (by omega)
          have h5 := (hsz_le (n := (Tree.measK k (w + 1) b.length).1) (by omega)).2
          show hsz _ + _ ≤ _
          omega

theorem Tree.measK_le : ∀ (k : List Tree) (w acc : Nat), acc + Tree.wts k < 9223372036854775807 → (Tree.measK k w acc).1 ≤ acc + Tree.wts k
  | [], _, acc, _ => by unfold Tree.measK Tree.wts; exact Nat.le_refl _
  | t :: ts, w, acc, h => by
    unfold Tree.measK
    unfold Tree.wts at h ⊢
    by_cases h1 : (Tree.meas t w).2 ≠ 0
    · rw [if_pos h1]; exact Nat.zero_le _
    · rw [if_neg h1]
      have h2 := Tree.meas_le t w (by omega)
      have h3 := Tree.measK_le ts w (acc + (Tree.meas t w).1) (by omega)
      omega

end

theorem Tree.measK_nil (w acc : Nat) : Tree.measK [] w acc = (acc, 0) := by rw [Tree.measK]

theorem Tree.measK_cons (t : Tree) (ts : List Tree) (w acc : Nat) : Tree.measK (t :: ts) w acc = if (Tree.meas t w).2 ≠ 0 then (0, (Tree.meas t w).2) else Tree.measK ts w (acc + (Tree.meas t w).1) := by rw [Tree.measK]

theorem Tree.wts_cons (t : Tree) (ts : List Tree) : Tree.wts (t :: ts) = t.wt + Tree.wts ts := by rw [Tree.wts]

theorem cells3 {w1 : World} {b t : Nat} {u0 u1 u2 : Value} (h1 : w1.heap[b]? = some (.cells #[u0, u1, u2] t (0, 0))) :
    w1.cell? ⟨b, 0, none⟩ = some u0 ∧ w1.cell? ⟨b, 1, none⟩ = some u1 ∧ w1.cell? ⟨b, 2, none⟩ = some u2 :=
  ⟨blk_cell h1 rfl, blk_cell h1 rfl, blk_cell h1 rfl⟩

theorem at_world {P : Program} {f : FuncId} {args : Array Value} {w : World} {Q : Ending → World → Prop} (h : ∀ W0, W0 = w → Calls P f args W0 Q) : Calls P f args w Q := h w rfl

/-- The place that a loop over kids has come to. -/
structure MI (w wr : World) (k : List Tree) (within nb j p : Nat) : Prop where
  le : j ≤ k.length
  go : Tree.measK (k.drop j) (within + 1) p = Tree.measK k (within + 1) nb
  wt : p + Tree.wts (k.drop j) < 9223372036854775807
  x : ∃ C, wr.heap[w.heap.size]? = some (.cells C 26 (0, 0))
  b : Below w.heap.size w wr

set_option maxHeartbeats 8000000 in
set_option maxRecDepth 100000 in
theorem measure_all : ∀ (N : Nat) (t : Tree) (within : Nat) (v : Value) (w : World), t.num ≤ N → IsItem w t v → t.wt < 9223372036854775807 → within + t.num < 4611686018427387904 →
    Calls Try.prog 50 #[v, .int .i64 within] w fun e w' => e = .returned (.tuple #[.int .i64 (t.meas within).1, .int .i64 (t.meas within).2]) ∧ Below w.heap.size w w'
  | 0, t, _, _, _, h, _, _, _ => absurd t.num_pos (by omega)
  | N + 1, .node l b k, within, v, w, hN, hI, hW, hD => by
    obtain ⟨ao, c, ao', c', rfl, hB, hK, hKids⟩ := hI.form
    have cck := fun W => check_any l ao ao' b.length c k.length c' within W
    have csa := fun W (hW : Below w.heap.size w W) => standsAlone_any W (hB.moved hW)
    have CCK := hideP cck
    have CSA := hideP csa
    by_cases h1 : chk l b.length k.length within = 0
    · rw [h1] at cck
      replace CCK := hideP cck
      by_cases h2 : b.length = 1 ∧ lb b 0 < 128
      · have HR : Hid (Tree.meas (.node l b k) within = (1, 0)) := by
          unfold Tree.meas
          rw [if_neg (by omega), if_pos h2]
          exact rfl
        rw [decide_eq_true h2] at csa
        replace CSA := hideP csa
        clear cck csa h1 h2 hB hK hKids hW hD hN hI
        generalize hnb : b.length = nb at *
        generalize hnk : k.length = nk at *
        have HNB := hideP hnb
        have HNK := hideP hnk
        clear hnb hnk
        go_enter Try.func50, Try.ntmps50
        go_wp2_with fail
        refine at_world (fun W0 hW0 => ?_)
        have HBx : W0.heap[w.heap.size]? = some (.cells #[.int .i64 l, .slice ao nb c, .slice ao' nk c'] 26 (0, 0)) := by
          rw [hW0]; exact heap_new _ _
        have HBW : Hid (Below w.heap.size w W0) := by
          show Below _ _ _
          rw [hW0]; exact (Below.refl _ _).alloc (Nat.le_refl _) _
        clear hW0
        refine (CCK.out _).mono ?_
        rintro e W1 ⟨rfl, hb⟩
        replace HBx := (hb.block _ (lt_of_block HBx)).trans HBx
        replace HBW := hideP (HBW.out.trans (hb.mono HBW.out.size))
        clear hb CCK
        obtain ⟨cx0, cx1, cx2⟩ := cells3 HBx
        clear HBx
        go_wp2_with fail
        refine (CSA.out _ HBW.out).mono ?_
        rintro e W2 ⟨rfl, rfl⟩
        go_wp2_with fail
        go_ret2
        exact ⟨by rw [HR.out] <;> rfl, HBW.out⟩
      · rw [decide_eq_false h2] at csa
        replace CSA := hideP csa
        have HME : Hid (Tree.meas (.node l b k) within = if (Tree.measK k (within + 1) b.length).2 ≠ 0 then (0, (Tree.measK k (within + 1) b.length).2) else (hsz (Tree.measK k (within + 1) b.length).1 + (Tree.measK k (within + 1) b.length).1, 0)) := by
          show Tree.meas (.node l b k) within = _
          unfold Tree.meas
          rw [if_neg (by omega), if_neg h2]
        have hWK : b.length + Tree.wts k < 9223372036854775807 - 9 := by unfold Tree.wt at hW; omega
        have HKK := hideP hK
        have HKS := hideP hKids
        have IH : Hid (∀ t' ∈ k, ∀ (w' : World) (v' : Value), IsItem w' t' v' → Calls Try.prog 50 #[v', .int .i64 ((within + 1 : Nat) : Int)] w' fun e w'' => e = .returned (.tuple #[.int .i64 (t'.meas (within + 1)).1, .int .i64 (t'.meas (within + 1)).2]) ∧ Below w'.heap.size w' w'') := by
          intro t' ht w' v' hi
          have h3 := Tree.nums_mem ht
          have h4 := Tree.wts_mem ht
          unfold Tree.num at hN hD
          exact measure_all N t' (within + 1) v' w' (by omega) hi (by omega) (by omega)
        have HWK := hideP hWK
        have hD' : within < 4611686018427387903 := by have := Tree.num_pos (.node l b k); omega
        have HDD := hideP hD'
        clear cck csa h1 h2 hB hK hKids hW hD hN hI hWK hD'
        generalize hnb : b.length = nb at *
        generalize hnk : k.length = nk at *
        have HNB := hideP hnb
        have HNK := hideP hnk
        clear hnb hnk
        go_enter Try.func50, Try.ntmps50
        go_wp2_with fail
        refine at_world (fun W0 hW0 => ?_)
        have HBx : W0.heap[w.heap.size]? = some (.cells #[.int .i64 l, .slice ao nb c, .slice ao' nk c'] 26 (0, 0)) := by
          rw [hW0]; exact heap_new _ _
        have HBW : Hid (Below w.heap.size w W0) := by
          show Below _ _ _
          rw [hW0]; exact (Below.refl _ _).alloc (Nat.le_refl _) _
        clear hW0
        refine (CCK.out _).mono ?_
        rintro e W1 ⟨rfl, hb⟩
        replace HBx := (hb.block _ (lt_of_block HBx)).trans HBx
        replace HBW := hideP (HBW.out.trans (hb.mono HBW.out.size))
        clear hb CCK
        obtain ⟨cx0, cx1, cx2⟩ := cells3 HBx
        go_wp2_with fail
        refine (CSA.out _ HBW.out).mono ?_
        rintro e W2 ⟨rfl, rfl⟩
        go_wp2_with fail
        rename_i Q' K hK
        have HKC := hideP hK
        clear hK
        have HE : Hid (MI w W1 k within b.length 0 b.length) := ⟨Nat.zero_le _, by rw [List.drop_zero], by rw [List.drop_zero]; have := HWK.out; have := HNB.out; omega, ⟨_, HBx⟩, HBW.out⟩
        rw [HNB.out] at HE
        clear HBx cx0 cx1 cx2
        go_loopw [7, 27] (fun q i wr => ∃ (j p : Nat), i = .int .i64 j ∧ q = .int .i64 p ∧ MI w wr k within nb j p) (fun _ i _ => nk - (intOf i).toNat)
        case atStart => exact ⟨0, nb, rfl, rfl, HE.out⟩
        case round =>
          obtain ⟨j, p, rfl, rfl, I⟩ := hrel
          have HI := hideP I
          clear I HE
          have hjn := HI.out.le
          rw [HNK.out] at hjn
          by_cases hlt : j < nk
          · have HN : Hid (j < nk) := hlt
            have hjk : j < k.length := by rw [HNK.out]; exact hlt
            obtain ⟨g, v0, v1, v2, hg, c0, c1, c2, hit⟩ := (HKS.out.moved HI.out.b).get (j := j) (t := k[j]) (List.getElem?_eq_getElem hjk)
            subst hg
            rw [Nat.zero_add] at c0 c1 c2
            have hdrop : k.drop j = k[j] :: k.drop (j + 1) := List.drop_eq_getElem_cons hjk
            have hgo := HI.out.go
            have hwt := HI.out.wt
            rw [hdrop, Tree.measK_cons] at hgo
            rw [hdrop, Tree.wts_cons] at hwt
            have hml := Tree.meas_le k[j] (within + 1) (by omega)
            have hIH := fun (W : World) (h : IsItem W k[j] (.agg #[v0, v1, v2])) => IH.out k[j] (List.getElem_mem hjk) W (.agg #[v0, v1, v2]) h
            have hit' := fun (W : World) (hb : Below wr.heap.size wr W) => hit.moved hb
            generalize hkj : k[j] = tj at *
            clear hkj hdrop
            cases tj with
            | node l' b' k' =>
              obtain ⟨a1, d1, a2, d2, hv, _, _, _⟩ := hit.form
              simp only [Value.agg.injEq, Array.mk.injEq, List.cons.injEq, and_true] at hv
              obtain ⟨rfl, rfl, rfl⟩ := hv
              have HIH := hideP hIH
              have HIT := hideP hit'
              have hnkm : nk ≤ 9223372036854775807 := by have h1 := HKK.out.le; have h2 := HKK.out.room; have h3 : maxLen = 9223372036854775807 := by decide
                                                         omega
              have e9 : IntKind.i64.wrap ((j : Int) + 1) = (j : Int) + 1 := by rw [IntKind.wrap_i64]; omega
              have e8 : IntKind.i64.wrap ((within : Int) + 1) = ((within + 1 : Nat) : Int) := by have := HDD.out; rw [IntKind.wrap_i64]; omega
              have g4 : (j : Int) < (nk : Int) := by omega
              have hgl : g < wr.heap.size := World.block_lt_of_cell? wr _ c0
              have HGO := hideP hgo
              have HWT := hideP hwt
              have HML := hideP hml
              have HLN := hideP hjk
              clear hgo hwt hml hIH hit' hit hlt hjn hjk
              go_wp2_with fail
              refine at_world (fun W3 hW3 => ?_)
              have hb3 : Below wr.heap.size wr W3 := by
                rw [hW3]; exact (Below.refl _ _).alloc (Nat.le_refl _) _
              clear hW3
              refine (HIH.out _ (HIT.out _ hb3)).mono ?_
              rintro e W4 ⟨rfl, hb4⟩
              have hb5 := hb3.trans (hb4.mono hb3.size)
              have HB5 := hideP (HI.out.b.trans (hb5.mono HI.out.b.size))
              have HX5 : Hid (∃ C, W4.heap[w.heap.size]? = some (.cells C 26 (0, 0))) := by
                obtain ⟨C, hC⟩ := HI.out.x
                exact ⟨C, (hb5.block _ (lt_of_block hC)).trans hC⟩
              clear hb3 hb4 c0 c1 c2 hb5 hgl hnkm
              generalize (Tree.node l' b' k').meas (within + 1) = mr at *
              obtain ⟨mn, me⟩ := mr
              simp only at HGO HML ⊢
              by_cases hme : me = 0
              · subst hme
                have e7 : IntKind.i64.wrap ((p : Int) + (mn : Int)) = ((p + mn : Nat) : Int) := by have := HWT.out; have := HML.out; rw [IntKind.wrap_i64]; omega
                have HNEW : Hid (MI w W4 k within nb (j + 1) (p + mn)) := by
                  refine ⟨by have := HLN.out; omega, ?_, by have := HWT.out; have := HML.out; omega, HX5.out, HB5.out⟩
                  have h := HGO.out
                  rw [if_neg (by decide)] at h
                  exact h
                generalize p + mn = pn at *
                go_wp2_with fail
                exact ⟨⟨j + 1, pn, by go_num, rfl, HNEW.out⟩, by have := HN.out; simp [intOf]; omega⟩
              · have HR : Hid (Tree.meas (.node l b k) within = (0, me)) := by
                  have h := HGO.out
                  rw [if_pos hme] at h
                  have h2 := HME.out
                  rw [← h, if_pos hme] at h2
                  exact h2
                have g5 : ¬ ((me : Nat) : Int) = 0 := by omega
                have g5' : (((me : Nat) : Int) == 0) = false := beq_eq_false_iff_ne.2 g5
                clear hme
                go_wp2_with fail
                go_ret2
                exact ⟨by rw [HR.out]; rfl, HB5.out⟩
          · have hk6 : j = nk := by omega
            subst hk6
            have g4 : ¬ ((j : Nat) : Int) < (j : Int) := by omega
            have hgo := HI.out.go
            have hwt := HI.out.wt
            rw [List.drop_eq_nil_of_le (by rw [HNK.out]; exact Nat.le_refl _)] at hgo
            rw [Tree.measK_nil] at hgo
            have HR : Hid (Tree.meas (.node l b k) within = (hsz p + p, 0)) := by
              have h2 := HME.out
              rw [← hgo, if_neg (fun h => h rfl)] at h2
              exact h2
            have hw8 : p + 9 < 9223372036854775807 := by
              have h3 := Tree.measK_le k (within + 1) nb (by have := HWK.out; omega)
              rw [← hgo] at h3
              have h4 := HWK.out
              have h5 : p ≤ nb + Tree.wts k := h3
              omega
            have hs9 := (hsz_le (n := p) (by omega)).2
            have ch := fun W => headSize_any p (by omega) W
            have CH := hideP ch
            have e7 : IntKind.i64.wrap ((hsz p : Int) + (p : Int)) = ((hsz p + p : Nat) : Int) := by rw [IntKind.wrap_i64]; omega
            have HL := hideP HI.out.b
            clear hgo hwt hw8 hs9 ch hlt hjn HI
            go_wp2_with fail
            refine HKC.out _ _ ?_
            go_wp2_with fail
            refine (CH.out _).mono ?_
            rintro e W5 ⟨rfl, rfl⟩
            generalize hsz p + p = hp at *
            generalize hsz p = hz at *
            go_wp2_with fail
            go_ret2
            exact ⟨by rw [HR.out]; rfl, HL.out⟩
    · have HR : Hid (Tree.meas (.node l b k) within = (0, chk l b.length k.length within)) := by
        unfold Tree.meas
        rw [if_pos h1]
        exact rfl
      have g : ¬ ((chk l b.length k.length within : Nat) : Int) = 0 := by omega
      have g' : (((chk l b.length k.length within : Nat) : Int) == 0) = false := beq_eq_false_iff_ne.2 g
      clear cck csa hB hK hKids hW hD hN hI CSA h1
      generalize chk l b.length k.length within = ce at *
      generalize hnb : b.length = nb at *
      generalize hnk : k.length = nk at *
      have HNB := hideP hnb
      have HNK := hideP hnk
      clear hnb hnk
      go_enter Try.func50, Try.ntmps50
      go_wp2_with fail
      refine at_world (fun W0 hW0 => ?_)
      have HBx : W0.heap[w.heap.size]? = some (.cells #[.int .i64 l, .slice ao nb c, .slice ao' nk c'] 26 (0, 0)) := by
        rw [hW0]; exact heap_new _ _
      have HBW : Hid (Below w.heap.size w W0) := by
        show Below _ _ _
        rw [hW0]; exact (Below.refl _ _).alloc (Nat.le_refl _) _
      clear hW0
      refine (CCK.out _).mono ?_
      rintro e W1 ⟨rfl, hb⟩
      replace HBx := (hb.block _ (lt_of_block HBx)).trans HBx
      replace HBW := hideP (HBW.out.trans (hb.mono HBW.out.size))
      clear hb CCK
      obtain ⟨cx0, cx1, cx2⟩ := cells3 HBx
      clear HBx
      go_wp2_with fail
      go_ret2
      exact ⟨by rw [HR.out]; rfl, HBW.out⟩

end Go.Proofs.Ytigebmidfddbcaa
