/-
  The pieces of bytes, one behind the other.
-/
import Derived.Test.YtigebmidfddbcaaRlpMeansC13
namespace Go.Proofs.Ytigebmidfddbcaa
open Go.RowKit Go.Shelf

attribute [local go_sem] Oper.semAt_some

set_option maxRecDepth 100000 in
theorem hd_ok {bs : Nat → Nat} {n : Nat} (h : (hd bs n).2.2.2 = 0) : 0 < n ∧ (hd bs n).1 ≤ 1 ∧ (hd bs n).2.1 ≤ (hd bs n).2.2.1 ∧ 1 ≤ (hd bs n).2.2.1 ∧ (hd bs n).2.2.1 ≤ n := by
  unfold hd at h ⊢
  by_cases h0 : n = 0
  · rw [if_pos h0] at h; cases h
  · rw [if_neg h0] at h ⊢
    by_cases h1 : bs 0 < 128
    · rw [if_pos h1]; exact ⟨by omega, by simp, by simp, by simp, by simp; omega⟩
    · rw [if_neg h1] at h ⊢
      by_cases h2 : bs 0 < 192
      · rw [if_pos h2] at h ⊢
        by_cases h3 : (rl bs n 128).2.2 = 0
        · obtain ⟨r1, r2, r3⟩ := rl_ok (by omega) h3
          rw [if_neg (by simp [h3])] at h ⊢
          by_cases h4 : n - (rl bs n 128).1 < (rl bs n 128).2.1
          · rw [if_pos h4] at h; cases h
          · rw [if_neg h4] at h ⊢
            by_cases h5 : (rl bs n 128).2.1 = 1 ∧ bs (rl bs n 128).1 < 128
            · rw [if_pos h5] at h; cases h
            · rw [if_neg h5]; dsimp only; exact ⟨by omega, Nat.zero_le _, Nat.le_add_right _ _, by omega, by omega⟩
        · rw [if_pos h3] at h; exact absurd h h3
      · rw [if_neg h2] at h ⊢
        by_cases h3 : (rl bs n 192).2.2 = 0
        · obtain ⟨r1, r2, r3⟩ := rl_ok (by omega) h3
          rw [if_neg (by simp [h3])] at h ⊢
          by_cases h4 : n - (rl bs n 192).1 < (rl bs n 192).2.1
          · rw [if_pos h4] at h; cases h
          · rw [if_neg h4]; dsimp only; exact ⟨by omega, Nat.le_refl _, Nat.le_add_right _ _, by omega, by omega⟩
        · rw [if_pos h3] at h; exact absurd h h3

/-- The pieces from a place on, up to the first that is none: then why. -/
def pcs (bs : Nat → Nat) (n : Nat) : Nat → Nat → List (Nat × Nat × Nat × Nat)
  | 0, _ => []
  | f + 1, p => if p < n then (if (hd (fun j => bs (p + j)) (n - p)).2.2.2 ≠ 0 then [(0, 0, 0, (hd (fun j => bs (p + j)) (n - p)).2.2.2)]
      else ((hd (fun j => bs (p + j)) (n - p)).1, p + (hd (fun j => bs (p + j)) (n - p)).2.1, p + (hd (fun j => bs (p + j)) (n - p)).2.2.1, 0) :: pcs bs n f (p + (hd (fun j => bs (p + j)) (n - p)).2.2.1)) else []

/-- What the program's pieces tells, one behind the other. -/
def pcv (L : List (Nat × Nat × Nat × Nat)) (k : Nat) : Array Value := #[pc (L.getD k (0, 0, 0, 0)).1 (L.getD k (0, 0, 0, 0)).2.1 (L.getD k (0, 0, 0, 0)).2.2.1, .int .i64 (L.getD k (0, 0, 0, 0)).2.2.2]

theorem drop_cons_getD {α : Type} {L : List α} {k : Nat} {x d : α} {r : List α} (h : L.drop k = x :: r) : k < L.length ∧ L.getD k d = x ∧ L.drop (k + 1) = r := by
  have hlt : k < L.length := by
    rcases Nat.lt_or_ge k L.length with h' | h'
    · exact h'
    · rw [List.drop_eq_nil_of_le h'] at h; cases h
  rw [List.drop_eq_getElem_cons hlt] at h
  obtain ⟨h1, h2⟩ := List.cons.inj h
  exact ⟨hlt, by rw [List.getD_eq_getElem?_getD, List.getElem?_eq_getElem hlt, h1]; rfl, h2⟩

/-- The row behind a box of a slice was made since, and is there. -/
def RowNew (KB N0 : Nat) (V : World) : Prop := ∀ b o f n c, V.cell? ⟨KB, 0, none⟩ = some (.slice (some ⟨b, o, f⟩) n c) → N0 ≤ b ∧ b < V.heap.size

/-- What whoever ranges may write to: boxes, and the row behind one of them. -/
def MutB (F : Nat → Prop) (KB : Nat) (V : World) (b : Nat) : Prop := F b ∨ ∃ o f n c, V.cell? ⟨KB, 0, none⟩ = some (.slice (some ⟨b, o, f⟩) n c)

/-- What a round keeps. -/
def KpP (F : Nat → Prop) (KB N0 : Nat) (V V' : World) : Prop := V.heap.size ≤ V'.heap.size ∧ (∀ b o, V.heap[b]? = some o → o.isCells = true → ¬ MutB F KB V b → V'.heap[b]? = some o) ∧ RowNew KB N0 V'

/-- What is kept since the beginning. -/
def PI (F : Nat → Prop) (KB : Nat) (w V : World) : Prop := w.heap.size ≤ V.heap.size ∧ (∀ b o, w.heap[b]? = some o → o.isCells = true → ¬ F b → V.heap[b]? = some o) ∧ RowNew KB w.heap.size V

theorem RowNew.below {KB N0 : Nat} {V V' : World} (h : RowNew KB N0 V) (hk : KB < V.heap.size) (hb : Below V.heap.size V V') : RowNew KB N0 V' := by
  intro b o f n c hc
  rw [hb.cell (p := ⟨KB, 0, none⟩) hk] at hc
  have := h b o f n c hc
  have := hb.size
  exact ⟨by omega, by omega⟩

theorem isCells_of_cell {w : World} {a : Addr} {v : Value} (h : w.cell? a = some v) : ∃ o, w.heap[a.block]? = some o ∧ o.isCells = true := by
  unfold World.cell? at h
  split at h
  · rename_i e; exact ⟨_, e, rfl⟩
  · cases h

theorem cell_congr {w W : World} {a : Addr} (h : W.heap[a.block]? = w.heap[a.block]?) : W.cell? a = w.cell? a := by
  unfold World.cell?
  rw [h]

theorem PI.cell {F : Nat → Prop} {KB : Nat} {w V : World} (h : PI F KB w V) {a : Addr} {v : Value} (ha : w.cell? a = some v) (hF : ¬ F a.block) : V.cell? a = some v := by
  obtain ⟨o, ho, hc⟩ := isCells_of_cell ha
  rw [cell_congr ((h.2.1 _ _ ho hc hF).trans ho.symm), ha]

theorem PI.below {F : Nat → Prop} {KB : Nat} {w V V' : World} (h : PI F KB w V) (hk : KB < w.heap.size) (hb : Below V.heap.size V V') : PI F KB w V' :=
  ⟨Nat.le_trans h.1 hb.size, fun b o h1 h2 h3 => by
    have := h.2.1 b o h1 h2 h3
    exact (hb.block b (lt_of_block this)).trans this, h.2.2.below (Nat.lt_of_lt_of_le hk h.1) hb⟩

theorem PI.round {F : Nat → Prop} {KB : Nat} {w V V' : World} (h : PI F KB w V) (hb : KpP F KB w.heap.size V V') : PI F KB w V' :=
  ⟨Nat.le_trans h.1 hb.1, fun b o h1 h2 h3 => hb.2.1 b o (h.2.1 b o h1 h2 h3) h2 (by
    rintro (hm | ⟨o', f, n, c, hm⟩)
    · exact h3 hm
    · have := h.2.2 _ _ _ _ _ hm
      have := lt_of_block h1
      omega), hb.2.2⟩

theorem add_block (a : Addr) (j : Nat) : (a.add j).block = a.block := by
  unfold Addr.add
  split <;> rfl

theorem PI.bs {F : Nat → Prop} {KB : Nat} {w V : World} (h : PI F KB w V) {ao : Option Addr} {n c : Nat} {bs : Nat → Nat} (hB : BS w ao n c bs) (hF : ∀ ad, ao = some ad → ¬ F ad.block) : BS V ao n c bs :=
  ⟨hB.lt, hB.le, hB.room, fun j hj => by
    obtain ⟨ad, e, hc⟩ := hB.cell j hj
    exact ⟨ad, e, h.cell hc (by rw [add_block]; exact hF ad e)⟩, hB.nil⟩

set_option maxHeartbeats 4000000 in
set_option maxRecDepth 100000 in
theorem pieces1_seq (m : Nat) (hm : 1 ≤ m) (l Bn : Nat) {ao : Option Addr} {n c : Nat} {bs : Nat → Nat} (F : Nat → Prop) (KB : Nat) (w : World) (hB : BS w ao n c bs) (hBn : w.cell? ⟨Bn, 0, none⟩ = some (.slice ao n c)) (hFB : ¬ F Bn) (hFa : ∀ ad, ao = some ad → ¬ F ad.block) (hF : ∀ b, F b → b < w.heap.size) (hKB : KB < w.heap.size)
    (J : Nat → World → Prop) (Jx : World → Prop) (hJs : ∀ k V V', J k V → Below V.heap.size V V' → J k V') (hJxs : ∀ V V', Jx V → Below V.heap.size V V' → Jx V')
    (hY : ∀ (k : Nat) (W : World), k < (pcs bs n (n + 1) 0).length → J k W → YieldAt Fence.wide (m - 1) Try.prog l (pcv (pcs bs n (n + 1) 0) k) W fun e W' =>
      (e = .returned (.bool true) ∧ J (k + 1) W' ∧ KpP F KB w.heap.size W W') ∨ (e = .returned (.bool false) ∧ Jx W'))
    (W : World) (hP : PI F KB w W) (h0 : J 0 W) :
    CallsIn Fence.wide m Try.prog 75 #[.func (.yield l) #[] #[], .pointer (some ⟨Bn, 0, none⟩)] W fun e W' => (∃ v, e = .returned v) ∧ (J (pcs bs n (n + 1) 0).length W' ∨ Jx W') := by
  have hroom := hB.room
  have hle := hB.le
  have hmax : n ≤ 9223372036854775807 := by
    have e3 : maxLen = 9223372036854775807 := by decide
    omega
  generalize hL : pcs bs n (n + 1) 0 = L at *
  have HL := hideP hL
  have HALL := hideP (And.intro hB (And.intro hBn (And.intro hFB (And.intro hFa (And.intro hF (And.intro hKB (And.intro hJs (And.intro hJxs (And.intro hY (And.intro hP hmax))))))))))
  clear hB hBn hFB hFa hF hKB hJs hJxs hY hroom hle hL hP hmax
  refine callsIn_of_wp Try.func75 rfl trivial ?_ rfl
  simp only [Try.ntmps75, List.size_toArray, List.length_cons, List.length_nil, Nat.reduceAdd, Nat.reduceSub, Array.replicate_succ, Array.replicate_zero, List.push_toArray, List.append_toArray, List.nil_append, List.cons_append]
  gi_wp2
  gi_loopw [3] (fun i wr => ∃ k p f : Nat, k ≤ L.length ∧ i = .int .i64 (p : Int) ∧ p ≤ n ∧ n + 1 ≤ f + p ∧ L.drop k = pcs bs n f p ∧ J k wr ∧ Hid (PI F KB w wr)) (fun i _ => (n - (intOf i).toNat))
  case atStart => exact ⟨0, 0, n + 1, Nat.zero_le _, by simp, Nat.zero_le _, Nat.le_refl _, by rw [List.drop_zero, HL.out], h0, HALL.out.2.2.2.2.2.2.2.2.2.1⟩
  case round =>
    obtain ⟨k, p, f, hkL, rfl, hp, hf, hdrop, hJ, hPI⟩ := hrel
    obtain ⟨hB, hBn, hFB, hFa, hF, hKB, hJs, hJxs, hY, _, hmax⟩ := HALL.out
    have hbx := hPI.out.cell hBn hFB
    by_cases hlt : p < n
    · obtain ⟨ao', hB', hsl⟩ := (hPI.out.bs hB hFa).rest (l := p) hp
      have hhead := head_any wr hB'
      cases f with
      | zero => omega
      | succ f =>
      rw [pcs, if_pos hlt] at hdrop
      have hok := hd_ok (bs := fun j => bs (p + j)) (n := n - p)
      generalize hd (fun j => bs (p + j)) (n - p) = h at *
      obtain ⟨pl, pf, pt, pe⟩ := h
      have g1 : ((p : Nat) : Int) < ((n : Nat) : Int) := by omega
      have HH := hideP hhead
      simp only [pc] at HH
      by_cases he : pe = 0
      · subst he
        obtain ⟨_, hl1, hft, ht1, htn⟩ := hok rfl
        rw [if_neg (by simp)] at hdrop
        dsimp only at hdrop hft ht1 htn
        obtain ⟨hk, hv, hr⟩ := drop_cons_getD (d := (0, 0, 0, 0)) hdrop
        have e1 : IntKind.i64.wrap (((pf : Nat) : Int) + ((p : Nat) : Int)) = ((p + pf : Nat) : Int) := by rw [IntKind.wrap_i64]; omega
        have e2 : IntKind.i64.wrap (((pt : Nat) : Int) + ((p : Nat) : Int)) = ((p + pt : Nat) : Int) := by rw [IntKind.wrap_i64]; omega
        have HJ := hideP hJ
        have HPI := hPI
        have HJS := hideP hJs
        have HY := hideP (hY k)
        have HARI := hideP (And.intro ht1 (And.intro htn (And.intro hf (And.intro hr hlt))))
        have HFK := hideP (And.intro hF hKB)
        clear hB hBn hFB hFa hF hKB hJs hJxs hY hJ hPI hok hhead hdrop hr hp hf hB' hmax hl1 hft ht1 htn hkL hlt
        generalize hqf : p + pf = qf at *
        generalize hqt : p + pt = qt at *
        have HQT := hideP hqt
        clear hqf hqt
        gi_wp2
        refine ⟨trivial, (callsIn_wide.2 HH.out).mono ?_⟩
        rintro e w1 ⟨rfl, hb⟩
        have hbV : Below wr.heap.size wr (w1.alloc (.cells #[.int .i64 pl, .int .i64 qf, .int .i64 qt] 40)) := hb.alloc hb.size _
        have hPV := HPI.out.below HFK.out.2 hbV
        obtain ⟨fn, tmps, assign, body, hy, hRd⟩ := HY.out _ hk (HJS.out k _ _ HJ.out hbV)
        simp only [pcv, hv, pc, Int.natCast_zero] at hy
        have HRd := hideP hRd
        have hszw := hb.size
        have hnM : ¬ MutB F KB (w1.alloc (.cells #[.int .i64 pl, .int .i64 qf, .int .i64 qt] 40)) w1.heap.size := by
          have hwr := HPI.out.1
          rintro (hm | ⟨o, ff, nn, cc, hm⟩)
          · have := HFK.out.1 _ hm
            omega
          · rw [hbV.cell (p := ⟨KB, 0, none⟩) (Nat.lt_of_lt_of_le HFK.out.2 hwr)] at hm
            have := (HPI.out.2.2 _ _ _ _ _ hm).2
            omega
        have HPV := hideP hPV
        have HNM := hideP hnM
        clear hb hbV hRd hPV hnM hszw
        gi_wp2
        refine HRd.out.mono ?_
        rintro e W3 (⟨rfl, hJ3, hk3⟩ | ⟨rfl, hJx3⟩)
        · have hbox := hk3.2.1 _ _ (heap_new w1 (.cells #[.int .i64 pl, .int .i64 qf, .int .i64 qt] 40)) rfl HNM.out
          obtain ⟨z0, z1, z2⟩ := cells3 hbox
          have HP3 := hideP (HPV.out.round hk3)
          have HJ3 := hideP hJ3
          clear hbox hk3 hJ3
          gi_wp2
          obtain ⟨ht1, htn, hf, hr, hlt⟩ := HARI.out
          have hqt := HQT.out
          refine ⟨⟨k + 1, qt, f, hk, rfl, by omega, by omega, hr, HJ3.out, HP3⟩, ?_⟩
          simp [intOf]
          omega
        · gi_wp2
          refine bodyPost_ret (results_none rfl _ _ _) rfl ?_
          exact ⟨⟨_, rfl⟩, .inr hJx3⟩
      · have he' : ¬ ((pe : Nat) : Int) = 0 := by omega
        rw [if_pos he] at hdrop
        obtain ⟨hk, hv, hr⟩ := drop_cons_getD (d := (0, 0, 0, 0)) hdrop
        have hN : L.length = k + 1 := by
          have := congrArg List.length hr
          rw [List.length_drop, List.length_nil] at this
          omega
        have HJ := hideP hJ
        have HPI := hPI
        have HJS := hideP hJs
        have HY := hideP (hY k)
        clear hB hBn hFB hFa hF hKB hJs hJxs hY hJ hPI hok hhead hdrop hr hp hf hB' hmax
        gi_wp2
        refine ⟨trivial, (callsIn_wide.2 HH.out).mono ?_⟩
        rintro e w1 ⟨rfl, hb⟩
        have hbV : Below wr.heap.size wr (w1.alloc (.cells #[.int .i64 pl, .int .i64 pf, .int .i64 pt] 40)) := hb.alloc hb.size _
        obtain ⟨fn, tmps, assign, body, hy, hRd⟩ := HY.out _ hk (HJS.out k _ _ HJ.out hbV)
        simp only [pcv, hv, pc, Int.natCast_zero] at hy
        have HRd := hideP hRd
        clear hb hbV hRd
        gi_wp2
        refine HRd.out.mono ?_
        rintro e W3 (⟨rfl, hJ3, hk3⟩ | ⟨rfl, hJx3⟩)
        · gi_wp2
          refine bodyPost_ret (results_none rfl _ _ _) rfl ?_
          exact ⟨⟨_, rfl⟩, .inl (by rw [hN]; exact hJ3)⟩
        · gi_wp2
          refine bodyPost_ret (results_none rfl _ _ _) rfl ?_
          exact ⟨⟨_, rfl⟩, .inr hJx3⟩
    · have hnil : pcs bs n f p = [] := by
        cases f with
        | zero => rfl
        | succ f => rw [pcs, if_neg hlt]
      rw [hnil] at hdrop
      have hkN : L.length ≤ k := by
        have := congrArg List.length hdrop
        rw [List.length_drop, List.length_nil] at this
        omega
      have HJ := hideP hJ
      have HKL := hideP hkL
      clear hkL
      have g1 : ¬ ((p : Nat) : Int) < ((n : Nat) : Int) := by omega
      clear hB hBn hFB hFa hF hKB hJs hJxs hY hJ hPI hdrop hp hf hmax
      gi_wp2
      go_end0
      have hkk : L.length = k := Nat.le_antisymm hkN HKL.out
      exact ⟨⟨_, rfl⟩, .inl (by rw [hkk]; exact HJ.out)⟩

theorem pieces_gives (m : Nat) (hm : 1 ≤ m) (Bn : Nat) {ao : Option Addr} {n c : Nat} {bs : Nat → Nat} (F : Nat → Prop) (KB : Nat) (w : World) (hB : BS w ao n c bs) (hBn : w.cell? ⟨Bn, 0, none⟩ = some (.slice ao n c)) (hFB : ¬ F Bn) (hFa : ∀ ad, ao = some ad → ¬ F ad.block) (hF : ∀ b, F b → b < w.heap.size) (hKB : KB < w.heap.size)
    (hR : RowNew KB w.heap.size w) : Gives m Try.prog 75 #[.pointer (some ⟨Bn, 0, none⟩)] (pcv (pcs bs n (n + 1) 0)) (pcs bs n (n + 1) 0).length (KpP F KB w.heap.size) w := by
  intro l J Jx W hW hJs hJxs hY h0
  refine pieces1_seq m hm l Bn F KB w hB hBn hFB hFa hF hKB J Jx hJs hJxs hY W ⟨hW.size, fun b o h1 _ _ => (hW.block b (lt_of_block h1)).trans h1, hR.below hKB hW⟩ h0

set_option maxHeartbeats 1000000 in
set_option maxRecDepth 100000 in
theorem pieces_any {ao : Option Addr} {n c : Nat} (w : World) :
    Calls Try.prog 60 #[.slice ao n c] w fun e w' => e = .returned (.func (.func 75) #[] #[.pointer (some ⟨w.heap.size, 0, none⟩)]) ∧ w' = w.alloc (.cells #[.slice ao n c] 23) := by
  go_enter Try.func60, Try.ntmps60
  go_wp2_with fail
  go_ret
  exact ⟨rfl, rfl⟩

end Go.Proofs.Ytigebmidfddbcaa
