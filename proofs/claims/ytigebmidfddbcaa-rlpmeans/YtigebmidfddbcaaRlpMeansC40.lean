/-
  The document's least bytes of a word.
-/
import Derived.Test.YtigebmidfddbcaaRlpMeansC36
import Derived.Test.YtigebmidfddbcaaRlpMeansC15
namespace Go.Proofs.Ytigebmidfddbcaa
open Go.RowKit Go.Shelf

set_option maxHeartbeats 4000000 in
set_option maxRecDepth 100000 in
theorem refLeast_any (X : Nat) (w : World) : Calls Try.prog 64 #[wv X] w fun e w' => (∃ v n, e = .returned v ∧ LB X n ∧ Own w.heap.size w' v n (lowB X n)) ∧ Below w.heap.size w w' := by
    have c1 := True.intro
    have c2 := fun W => refBytes_any X W
    obtain ⟨x0, x1, x2, x3, hx⟩ := wv_form X
    simp only [hx] at c2 ⊢
    unfold b32 at c2
    have C2 := hideP c2
    clear c1 c2 hx
    go_enter Try.func64, Try.ntmps64
    go_wp2_with fail
    refine at_world_q (fun W0 hW0 => ?_)
    have HBx : W0.heap[w.heap.size]? = some (.cells #[.int .u64 x0, .int .u64 x1, .int .u64 x2, .int .u64 x3] 58 (0, 0)) := by
      rw [hW0]; simp only [World.alloc, Array.getElem?_push]; simp
    have HBW : Hid (Below w.heap.size w W0) := by
      show Below _ _ _
      rw [hW0]
      repeat first | exact Below.refl _ _ | (refine Below.alloc ?_ (by simp <;> omega) _)
    clear hW0
    refine (C2.out _).mono ?_
    rintro e W2 ⟨rfl, hb⟩
    replace HBx := (hb.block _ (lt_of_block HBx)).trans HBx
    replace HBW := hideP (HBW.out.trans (hb.mono HBW.out.size))
    have HBW0 := hideP HBW.out.size
    clear hb C2
    have HN := hideP (heap_new W2 (.cells (c32 (fun _ => 0)) 128 (0, 0)))
    rw [← zero32] at HN
    go_wp2_with (refine wpList_store_mid rfl 128 _ _ rfl W2.heap.size 0 (c32 (fun j => byt X (31 - j))) rfl rfl (there32 (g := fun _ => 0) HN.out) size52 (oneCell32 _) ?_; refine Hid.out ?_)
    refine hideP ?_
    have h1 := But.sets (c32 (fun j => byt X (31 - j))).toList 0 (But.refl W2.heap.size (W2.alloc (.cells #[.int .u8 0, .int .u8 0, .int .u8 0, .int .u8 0, .int .u8 0, .int .u8 0, .int .u8 0, .int .u8 0, .int .u8 0, .int .u8 0, .int .u8 0, .int .u8 0, .int .u8 0, .int .u8 0, .int .u8 0, .int .u8 0, .int .u8 0, .int .u8 0, .int .u8 0, .int .u8 0, .int .u8 0, .int .u8 0, .int .u8 0, .int .u8 0, .int .u8 0, .int .u8 0, .int .u8 0, .int .u8 0, .int .u8 0, .int .u8 0, .int .u8 0, .int .u8 0] 128 (0, 0))))
    have h2 := blk_sets (c32 (fun j => byt X (31 - j))).toList 0 (show (W2.alloc (.cells #[.int .u8 0, .int .u8 0, .int .u8 0, .int .u8 0, .int .u8 0, .int .u8 0, .int .u8 0, .int .u8 0, .int .u8 0, .int .u8 0, .int .u8 0, .int .u8 0, .int .u8 0, .int .u8 0, .int .u8 0, .int .u8 0, .int .u8 0, .int .u8 0, .int .u8 0, .int .u8 0, .int .u8 0, .int .u8 0, .int .u8 0, .int .u8 0, .int .u8 0, .int .u8 0, .int .u8 0, .int .u8 0, .int .u8 0, .int .u8 0, .int .u8 0, .int .u8 0] 128 (0, 0))).heap[W2.heap.size]? = some (.cells (c32 (fun _ => 0)) 128 (0, 0)) from HN.out)
    rw [putAll32] at h2
    have hlr := lt_of_block HBx
    have hlt4 : W2.heap.size < (((W2.alloc (.cells #[.int .u8 0, .int .u8 0, .int .u8 0, .int .u8 0, .int .u8 0, .int .u8 0, .int .u8 0, .int .u8 0, .int .u8 0, .int .u8 0, .int .u8 0, .int .u8 0, .int .u8 0, .int .u8 0, .int .u8 0, .int .u8 0, .int .u8 0, .int .u8 0, .int .u8 0, .int .u8 0, .int .u8 0, .int .u8 0, .int .u8 0, .int .u8 0, .int .u8 0, .int .u8 0, .int .u8 0, .int .u8 0, .int .u8 0, .int .u8 0, .int .u8 0, .int .u8 0] 128 (0, 0))).setCells W2.heap.size 0 (c32 (fun j => byt X (31 - j))).toList)).heap.size := lt_of_block h2
    replace HBx := (h1.same _ (by omega)).trans ((heap_old W2 (.cells #[.int .u8 0, .int .u8 0, .int .u8 0, .int .u8 0, .int .u8 0, .int .u8 0, .int .u8 0, .int .u8 0, .int .u8 0, .int .u8 0, .int .u8 0, .int .u8 0, .int .u8 0, .int .u8 0, .int .u8 0, .int .u8 0, .int .u8 0, .int .u8 0, .int .u8 0, .int .u8 0, .int .u8 0, .int .u8 0, .int .u8 0, .int .u8 0, .int .u8 0, .int .u8 0, .int .u8 0, .int .u8 0, .int .u8 0, .int .u8 0, .int .u8 0, .int .u8 0] 128 (0, 0)) hlr).trans HBx)
    replace HBW := hideP ((HBW.out.alloc HBW.out.size (.cells #[.int .u8 0, .int .u8 0, .int .u8 0, .int .u8 0, .int .u8 0, .int .u8 0, .int .u8 0, .int .u8 0, .int .u8 0, .int .u8 0, .int .u8 0, .int .u8 0, .int .u8 0, .int .u8 0, .int .u8 0, .int .u8 0, .int .u8 0, .int .u8 0, .int .u8 0, .int .u8 0, .int .u8 0, .int .u8 0, .int .u8 0, .int .u8 0, .int .u8 0, .int .u8 0, .int .u8 0, .int .u8 0, .int .u8 0, .int .u8 0, .int .u8 0, .int .u8 0] 128 (0, 0))).trans (h1.below.mono HBW.out.size))
    have HB := hideP h2
    have HS2 := hideP (HBW0.out)
    clear h1 h2 hlr HN HBW0
    (try simp only [put_none])
    generalize (W2.alloc (.cells #[.int .u8 0, .int .u8 0, .int .u8 0, .int .u8 0, .int .u8 0, .int .u8 0, .int .u8 0, .int .u8 0, .int .u8 0, .int .u8 0, .int .u8 0, .int .u8 0, .int .u8 0, .int .u8 0, .int .u8 0, .int .u8 0, .int .u8 0, .int .u8 0, .int .u8 0, .int .u8 0, .int .u8 0, .int .u8 0, .int .u8 0, .int .u8 0, .int .u8 0, .int .u8 0, .int .u8 0, .int .u8 0, .int .u8 0, .int .u8 0, .int .u8 0, .int .u8 0] 128 (0, 0))).setCells W2.heap.size 0 (c32 (fun j => byt X (31 - j))).toList = W4 at HBx HBW HB hlt4 ⊢
    generalize W2.heap.size = B at HB HS2 hlt4 ⊢
    clear HBx
    go_wp2_with fail
    rename_i Q' K hK
    have HK := hideP hK
    clear hK
    go_loopw [4] (fun i wr => ∃ (k : Nat), k ≤ 32 ∧ i = .int .i64 k ∧ wr = W4 ∧ ∀ j, j < k → byt X (31 - j) = 0) (fun i _ => 32 - (intOf i).toNat)
    case atStart => exact ⟨0, Nat.zero_le _, rfl, rfl, fun j hj => absurd hj (by omega)⟩
    case round =>
      obtain ⟨k, hk, rfl, rfl, hall⟩ := hrel
      have HALL := hideP hall
      have HKK := hideP hk
      clear hall
      have e4 : IntKind.i64.wrap ((k : Int) + 1) = (k : Int) + 1 := by rw [IntKind.wrap_i64]; omega
      by_cases hlt : k < 32
      · have hcb := blk_cell HB.out (get32 (fun j => byt X (31 - j)) hlt)
        have g1 : (k : Int) < 32 := by omega
        have HLT := hideP hlt
        clear hlt hk
        by_cases hz : byt X (31 - k) = 0
        · rw [hz] at hcb
          have HZ := hideP hz
          clear hz
          go_wp2_with fail
          refine ⟨⟨k + 1, HLT.out, by go_num, trivial, fun j hj => ?_⟩, by have := HLT.out; simp [intOf]; omega⟩
          by_cases h : j = k
          · rw [h]; exact HZ.out
          · exact HALL.out j (by omega)
        · have HZ := hideP hz
          have g2 : ((byt X (31 - k) : Nat) : Int) ≠ 0 := by omega
          clear hz
          generalize hbk : byt X (31 - k) = bk at hcb g2
          clear hbk
          go_wp2_with fail
          refine HK.out _ _ ?_
          have HLB := hideP (LB.ofNoughts HKK.out HALL.out (fun _ => HZ.out))
          obtain ⟨sp, hsp, hsl⟩ := slice32 B k HKK.out
          have HSP := hideP hsp
          clear hsp hcb g2 g1
          have hl256 : ∀ j, lowB X (32 - k) j < 256 := fun j => byt_lt _ _
          have HK3 := hideP HLT.out
          go_wp2_with (at_builtin; refine wpList_append_fresh rfl _ _ rfl (some ⟨wr.heap.size, 0, none⟩) (some ⟨B, sp, none⟩) (32 - k) (32 - k) rfl rfl (by omega) (lowB X (32 - k)) ?c1 ?_)
          case c1 =>
            refine ⟨hl256, Nat.le_refl _, by unfold maxLen; omega, fun j hj => ⟨_, rfl, ?_⟩, fun h => by cases h⟩
            rw [HSP.out (by omega), Addr.add_mid]
            refine (((Below.refl wr.heap.size wr).alloc (Nat.le_refl _) _).cell (p := ⟨B, k + j, none⟩) hlt4).trans ?_
            rw [blk_cell HB.out (get32 _ (show k + j < 32 by omega))]
            unfold lowB
            rw [show 31 - (k + j) = 32 - k - 1 - j by omega]
          intro a9 cap W9 h1 hc9 hb9
          have hsz : (wr.alloc (.cells #[] 5 (0, 0))).heap.size = wr.heap.size + 1 := by simp
          have hws := HBW.out.size
          have HR : Hid (Own w.heap.size W9 (.slice a9 (32 - k) cap) (32 - k) (lowB X (32 - k))) := by
            rcases h1 with ⟨h0, _⟩ | ⟨h0, rfl⟩
            · have := HK3.out; omega
            · have hB := hc9 h0
              obtain ⟨ad, e, hc⟩ := hB.cell 0 h0
              cases e
              exact ⟨_, cap, rfl, hB, Or.inr ⟨_, rfl, by omega, by have := World.block_lt_of_cell? W9 _ hc; simpa [Addr.add] using this⟩⟩
          have HL : Hid (Below w.heap.size w W9) := (HBW.out.alloc HBW.out.size _).trans (hb9.mono (by omega))
          clear h1 hc9 hb9 hsz hws hl256
          go_wp2_with fail
          go_ret
          exact ⟨⟨_, _, rfl, HLB.out, HR.out⟩, HL.out⟩
      · have hk6 : k = 32 := by omega
        subst hk6
        have g1 : ¬ ((32 : Nat) : Int) < 32 := by omega
        clear hlt hk
        go_wp2_with fail
        refine HK.out _ _ ?_
        have HLB := hideP (LB.ofNoughts HKK.out HALL.out (fun h => absurd h (by omega)))
        clear g1
        replace HLB := hideP (show LB X 0 from HLB.out)
        have HR : Hid (∀ o, Own w.heap.size (wr.alloc o) (.slice (some ⟨wr.heap.size, 0, none⟩) 0 0) 0 (lowB X 0)) := fun o => ⟨_, 0, rfl, BS.empty _ _ _ (fun j => byt_lt _ _), Or.inr ⟨_, rfl, HBW.out.size, by simp⟩⟩
        have HL : Hid (∀ o, Below w.heap.size w (wr.alloc o)) := fun o => HBW.out.alloc HBW.out.size o
        go_wp2_with fail
        go_ret
        exact ⟨⟨_, _, rfl, HLB.out, HR.out _⟩, HL.out _⟩

end Go.Proofs.Ytigebmidfddbcaa
