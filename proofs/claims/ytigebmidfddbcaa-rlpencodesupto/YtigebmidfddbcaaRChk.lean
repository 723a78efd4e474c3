/-
  The document's Check.
-/
import Derived.Test.YtigebmidfddbcaaRSame
namespace Go.Proofs.Ytigebmidfddbcaa
open Go.RowKit Go.Shelf

/-- The kids' errors do not hang on the sum. -/
theorem measK_err : ∀ (k : List Tree) (w a b : Nat), (Tree.measK k w a).2 = (Tree.measK k w b).2
  | [], _, _, _ => by unfold Tree.measK; rfl
  | t :: ts, w, a, b => by
    unfold Tree.measK
    by_cases h : (Tree.meas t w).2 ≠ 0
    · rw [if_pos h, if_pos h]
    · rw [if_neg h, if_neg h]
      exact measK_err ts w _ _

theorem meas_err_of {l : Int} {b : List Nat} {k : List Tree} {w : Nat} (h : chk l b.length k.length w ≠ 0) : ((Tree.node l b k).meas w).2 = chk l b.length k.length w := by
  unfold Tree.meas
  rw [if_pos h]

theorem meas_err_kids {l : Int} {b : List Nat} {k : List Tree} {w : Nat} (h : chk l b.length k.length w = 0) : ((Tree.node l b k).meas w).2 = (Tree.measK k (w + 1) 0).2 := by
  unfold Tree.meas
  rw [if_neg (by rw [h]; simp)]
  by_cases h1 : b.length = 1 ∧ lb b 0 < 128
  · rw [if_pos h1]
    have hk : k.length = 0 := by
      unfold chk at h
      by_cases e1 : l = 1 ∧ 64 ≤ w
      · rw [if_pos e1] at h; cases h
      · rw [if_neg e1] at h
        by_cases e2 : (l = 0 ∧ k.length = 0) ∨ (l = 1 ∧ b.length = 0)
        · rcases e2 with e | e
          · exact e.2
          · have := e.2; omega
        · rw [if_neg e2] at h; cases h
    rw [List.eq_nil_of_length_eq_zero hk]
    unfold Tree.measK
    rfl
  · rw [if_neg h1]
    by_cases h2 : (Tree.measK k (w + 1) b.length).2 = 0
    · rw [if_neg (by rw [h2]; simp), measK_err k (w + 1) 0 b.length, h2]
    · rw [if_pos h2, measK_err k (w + 1) 0 b.length]

set_option maxHeartbeats 8000000 in
set_option maxRecDepth 100000 in
theorem refCheck_all : ∀ (N : Nat) (t : Tree) (v : Value) (d : Nat) (w : World), t.num ≤ N → d ≤ 64 → IsItem w t v →
    Calls Try.prog 51 #[v, .int .i64 d] w fun e w' => e = .returned (.int .i64 (t.meas d).2) ∧ Below w.heap.size w w'
  | 0, t, _, _, _, h, _, _ => absurd t.num_pos (by omega)
  | N + 1, .node l b k, v, d, w, hN, hd, hI => by
    obtain ⟨xa, xc, ka, kc, rfl, hB, hK, hKids⟩ := hI.form
    unfold Tree.num at hN
    have hIH := fun t v w (h : t ∈ k) (hd1 : d + 1 ≤ 64) => refCheck_all N t v (d + 1) w (by have := Tree.nums_mem h; omega) hd1
    have hb0 : Below w.heap.size w (w.alloc (.cells #[.int .i64 l, .slice xa b.length xc, .slice ka k.length kc] 26)) := (Below.refl _ w).alloc (Nat.le_refl _) _
    have hx0 := heap_new w (.cells #[.int .i64 l, .slice xa b.length xc, .slice ka k.length kc] 26)
    have hbad := meas_err_of (l := l) (b := b) (k := k) (w := d)
    have hgood := meas_err_kids (l := l) (b := b) (k := k) (w := d)
    have hnk : k.length ≤ 9223372036854775807 := by
      have e1 := hK.le
      have e2 := hK.room
      have e3 : maxLen = 9223372036854775807 := by decide
      omega
    generalize ((Tree.node l b k).meas d).2 = res at *
    have HB0 := hideP hb0
    by_cases h0 : chk l b.length k.length d = 0
    · have hres := hgood h0
      have hlk : (l = 1 ∧ b.length = 0 ∧ d < 64) ∨ (l = 0 ∧ k.length = 0) := by
        unfold chk at h0
        by_cases e1 : l = 1 ∧ 64 ≤ d
        · rw [if_pos e1] at h0; cases h0
        · rw [if_neg e1] at h0
          by_cases e2 : (l = 0 ∧ k.length = 0) ∨ (l = 1 ∧ b.length = 0)
          · rcases e2 with e | e
            · exact Or.inr e
            · exact Or.inl ⟨e.1, e.2, by omega⟩
          · rw [if_neg e2] at h0; cases h0
      have HALL := hideP (And.intro hKids (And.intro hIH (And.intro hres hnk)))
      have HX0 := hideP hx0
      clear hB hK hKids hI hN hIH hbad hgood hnk hres h0 hx0 hb0
      rcases hlk with ⟨rfl, hb, hd64⟩ | ⟨rfl, hk⟩
      · have g64 : ¬ (d : Int) ≥ 64 := by omega
        have g64' : ¬ (64 : Int) ≤ (d : Int) := by omega
        have ed : IntKind.i64.wrap ((d : Int) + 1) = ((d + 1 : Nat) : Int) := by rw [IntKind.wrap_i64]; omega
        generalize hbn : b.length = nb at *
        subst hb
        generalize hkn : k.length = nk at *
        have HKN := hideP (And.intro hkn hd64)
        clear hbn hkn hd hd64
        go_enter Try.func51, Try.ntmps51
        go_wp2_with fail
        generalize w.alloc (.cells #[.int .i64 1, .slice xa 0 xc, .slice ka nk kc] 26) = W0 at *
        go_loopw [5] (fun i wr => ∃ q : Nat, i = .int .i64 (q : Int) ∧ q ≤ nk ∧ Hid (Below W0.heap.size W0 wr ∧ (Tree.measK k (d + 1) 0).2 = (Tree.measK (k.drop q) (d + 1) 0).2)) (fun i _ => nk - (intOf i).toNat)
        case atStart => exact ⟨0, rfl, Nat.zero_le _, hideP ⟨Below.refl _ _, by rw [List.drop_zero]⟩⟩
        case round =>
          obtain ⟨q, rfl, hqn, hbr⟩ := hrel
          obtain ⟨hbq, hmk⟩ := hbr.out
          have hx1 := (hbq.block _ (lt_of_block HX0.out)).trans HX0.out
          obtain ⟨cx0, cx1, cx2⟩ := cells3 hx1
          have hbw := HB0.out.trans (hbq.mono HB0.out.size)
          have HBW := hideP hbw
          obtain ⟨hKids, hIH, hres, hnk⟩ := HALL.out
          by_cases hlt : q < nk
          · have hl1 : q < k.length := by rw [HKN.out.1]; exact hlt
            obtain ⟨g, v0, v1, v2, rfl, d0, d1, d2, hit⟩ := hKids.get (List.getElem?_eq_getElem hl1)
            rw [Nat.zero_add] at d0 d1 d2
            have hcall := hIH k[q] (.agg #[v0, v1, v2]) wr (List.getElem_mem hl1) HKN.out.2 (hit.moved hbw)
            have hdr : k.drop q = k[q] :: k.drop (q + 1) := List.drop_eq_getElem_cons hl1
            rw [hdr, Tree.measK] at hmk
            have hgw := World.block_lt_of_cell? _ _ d0
            have d0 := (hbw.cell (p := ⟨g, q * 3, none⟩) hgw).trans d0
            have d1 := (hbw.cell (p := ⟨g, q * 3 + 1, none⟩) hgw).trans d1
            have d2 := (hbw.cell (p := ⟨g, q * 3 + 2, none⟩) hgw).trans d2
            generalize k[q] = tq at *
            cases tq with
            | node tl tb tk =>
            obtain ⟨_, _, _, _, hv, _, _, _⟩ := hit.form
            simp only [Value.agg.injEq, Array.mk.injEq, List.cons.injEq, and_true] at hv
            obtain ⟨rfl, rfl, rfl⟩ := hv
            generalize (Tree.meas (.node tl tb tk) (d + 1)) = m at *
            obtain ⟨m1, m2⟩ := m
            dsimp only at hmk hcall
            have g1 : (q : Int) < (nk : Int) := by omega
            have g1' : (0 : Int) ≤ (q : Int) := by omega
            have e9 : IntKind.i64.wrap ((q : Int) + 1) = ((q + 1 : Nat) : Int) := by rw [IntKind.wrap_i64]; omega
            have HC := hideP hcall
            have HM := hideP (And.intro hmk (And.intro hres hbq))
            clear hcall hmk hres hbq hit hKids hIH hl1 hgw hbw hx1 hdr hnk
            generalize tb.length = tn at *
            generalize tk.length = tn' at *
            go_wp2_with fail
            refine HC.out.mono ?_
            rintro e W4 ⟨rfl, hb4⟩
            obtain ⟨hmk, hres, hbq⟩ := HM.out
            by_cases hm : m2 = 0
            · subst hm
              rw [if_neg (by simp)] at hmk
              have hmk := hmk.trans (measK_err _ _ _ 0)
              have HN : Hid (Below W0.heap.size W0 W4 ∧ (Tree.measK k (d + 1) 0).2 = (Tree.measK (k.drop (q + 1)) (d + 1) 0).2) := hideP ⟨hbq.trans (hb4.mono hbq.size), hmk⟩
              clear hmk hres hbq hb4 HC HM cx0 cx1 cx2 d0 d1 d2
              go_wp2_with fail
              exact ⟨⟨q + 1, rfl, by omega, HN⟩, by simp [intOf]; omega⟩
            · rw [if_pos hm] at hmk
              have hm' : ¬ (m2 : Int) = 0 := by omega
              have HR : Hid (res = m2 ∧ Below w.heap.size w W4) := hideP ⟨hres.trans hmk, HBW.out.trans (hb4.mono HBW.out.size)⟩
              clear hmk hres hbq hb4 HC HM cx0 cx1 cx2 d0 d1 d2
              go_wp2_with fail
              go_ret
              exact ⟨by rw [HR.out.1] <;> rfl, HR.out.2⟩
          · have g1 : ¬ (q : Int) < (nk : Int) := by omega
            have hz : res = 0 := by
              rw [hres, hmk, List.drop_eq_nil_of_le (by have := HKN.out.1; omega)]
              unfold Tree.measK
              rfl
            have HR := hideP hz
            clear hz hres hmk hKids hIH hbq hbw hx1 hnk
            go_wp2_with fail
            go_ret
            exact ⟨by rw [HR.out]; rfl, HBW.out⟩
      · have hz : res = 0 := by
          rw [HALL.out.2.2.1, List.eq_nil_of_length_eq_zero hk]
          unfold Tree.measK
          rfl
        have HR := hideP hz
        rw [hk] at HX0 HB0 ⊢
        clear hz hd
        generalize b.length = nb at *
        go_enter Try.func51, Try.ntmps51
        go_wp2_with fail
        generalize w.alloc (.cells #[.int .i64 0, .slice xa nb xc, .slice ka 0 kc] 26) = W0 at *
        obtain ⟨cx0, cx1, cx2⟩ := cells3 HX0.out
        go_loopw [5] (fun i wr => i = .int .i64 0 ∧ wr = W0) (fun _ _ => 0)
        case atStart => exact ⟨rfl, rfl⟩
        case round =>
          obtain ⟨rfl, rfl⟩ := hrel
          go_wp2_with fail
          go_ret
          exact ⟨by rw [HR.out]; rfl, HB0.out⟩
    · have hres := hbad h0
      unfold chk at hres
      generalize b.length = nb at *
      generalize k.length = nk at *
      clear hbad hgood hIH hKids hK hB hI hN hnk hx0 hb0
      by_cases h1 : l = 1
      · subst h1
        by_cases h64 : 64 ≤ d
        · rw [if_pos ⟨rfl, h64⟩] at hres
          have g : (d : Int) ≥ 64 := by omega
          have g' : (64 : Int) ≤ (d : Int) := by omega
          have HR := hideP hres
          clear hres h64 hd h0
          go_enter Try.func51, Try.ntmps51
          go_wp2_with fail
          go_ret
          exact ⟨by rw [HR.out] <;> rfl, HB0.out⟩
        · have g : ¬ (d : Int) ≥ 64 := by omega
          have g' : ¬ (64 : Int) ≤ (d : Int) := by omega
          have hnb : ¬ nb = 0 := fun e => h0 (by subst e; exact (if_neg (fun h => h64 h.2)).trans (if_pos (Or.inr ⟨rfl, rfl⟩)))
          rw [if_neg (fun h => h64 h.2), if_neg (by omega)] at hres
          have g2 : (nb : Int) > 0 := by omega
          have g2' : (0 : Int) < (nb : Int) := by omega
          have HR := hideP hres
          clear hres h64 hd h0 hnb
          go_enter Try.func51, Try.ntmps51
          go_wp2_with fail
          go_ret
          exact ⟨by rw [HR.out] <;> rfl, HB0.out⟩
      · have g1 : (l == 1) = false := beq_eq_false_iff_ne.2 h1
        rw [if_neg (fun h => h1 h.1)] at hres
        by_cases hl0 : l = 0
        · subst hl0
          have hnk : ¬ nk = 0 := fun e => h0 (by subst e; exact (if_neg (fun h => h1 h.1)).trans (if_pos (Or.inl ⟨rfl, rfl⟩)))
          rw [if_neg (by omega)] at hres
          have g2 : (nk : Int) > 0 := by omega
          have g2' : (0 : Int) < (nk : Int) := by omega
          have HR := hideP hres
          clear hres hd h0 hnk
          go_enter Try.func51, Try.ntmps51
          go_wp2_with fail
          go_ret
          exact ⟨by rw [HR.out] <;> rfl, HB0.out⟩
        · rw [if_neg (by omega)] at hres
          have HR := hideP hres
          by_cases hneg : l < 0
          · clear hres hd h0
            go_enter Try.func51, Try.ntmps51
            go_wp2_with fail
            go_ret
            exact ⟨by rw [HR.out] <;> rfl, HB0.out⟩
          · have gg : l > 1 := by omega
            have gg' : 1 < l := gg
            clear hres hd h0
            go_enter Try.func51, Try.ntmps51
            go_wp2_with fail
            go_ret
            exact ⟨by rw [HR.out] <;> rfl, HB0.out⟩

end Go.Proofs.Ytigebmidfddbcaa
