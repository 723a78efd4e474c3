/-
  Forms are read as what they are forms of.
-/
import Derived.Test.YtigebmidfddbcaaTwinI
namespace Go.Proofs.Ytigebmidfddbcaa
open Go.RowKit Go.Shelf

/-- Bytes are a row of them, from a place on. -/
def At (bs : Nat → Nat) (o : Nat) (L : List Nat) : Prop := ∀ j, j < L.length → bs (o + j) = lb L j

theorem lb_left {x y : List Nat} {j : Nat} (h : j < x.length) : lb (x ++ y) j = lb x j := by
  unfold lb
  rw [List.getD_eq_getElem?_getD, List.getD_eq_getElem?_getD, List.getElem?_append_left h]

theorem lb_right {x y : List Nat} {j : Nat} : lb (x ++ y) (x.length + j) = lb y j := by
  unfold lb
  rw [List.getD_eq_getElem?_getD, List.getD_eq_getElem?_getD, List.getElem?_append_right (Nat.le_add_right _ _), Nat.add_sub_cancel_left]

theorem At.left {bs : Nat → Nat} {o : Nat} {x y : List Nat} (h : At bs o (x ++ y)) : At bs o x := fun j hj => by
  rw [h j (by rw [List.length_append]; omega), lb_left hj]

theorem At.right {bs : Nat → Nat} {o : Nat} {x y : List Nat} (h : At bs o (x ++ y)) : At bs (o + x.length) y := fun j hj => by
  rw [Nat.add_assoc, h (x.length + j) (by rw [List.length_append]; omega), lb_right]

theorem At.append {bs : Nat → Nat} {o : Nat} {x y : List Nat} (h : At bs o x) (h' : At bs (o + x.length) y) : At bs o (x ++ y) := fun j hj => by
  rw [List.length_append] at hj
  by_cases hx : j < x.length
  · rw [h j hx, lb_left hx]
  · have e : j = x.length + (j - x.length) := by omega
    rw [e, lb_right, ← Nat.add_assoc]
    exact h' _ (by omega)

theorem At.shift {bs : Nat → Nat} {o p : Nat} {x : List Nat} (h : At bs (o + p) x) : At (fun j => bs (o + j)) p x := fun j hj => by
  show bs (o + (p + j)) = _
  rw [← Nat.add_assoc]
  exact h j hj

theorem At.unshift {bs : Nat → Nat} {o p : Nat} {x : List Nat} (h : At (fun j => bs (o + j)) p x) : At bs (o + p) x := fun j hj => by
  rw [Nat.add_assoc]
  exact h j hj

theorem At.pay {bs : Nat → Nat} {o : Nat} {x : List Nat} (h : At bs o x) : pay (fun j => bs (o + j)) x.length = x := by
  conv => rhs; rw [← pay_lb x]
  unfold Go.Proofs.Ytigebmidfddbcaa.pay
  exact List.map_congr_left fun j hj => h j (List.mem_range.1 hj)

theorem At.lb (L : List Nat) : At (lb L) 0 L := fun j _ => by rw [Nat.zero_add]

theorem lowd_get (k : Nat) : ∀ (n j : Nat), j < n → lb (lowd k n) j = k / 256 ^ (n - 1 - j) % 256
  | 0, _, h => by omega
  | n + 1, 0, _ => by simp [lowd, lb]
  | n + 1, j + 1, h => by
    have := lowd_get k n j (by omega)
    rw [show n + 1 - 1 - (j + 1) = n - 1 - j by omega, ← this]
    simp [lowd, lb]

theorem dv_top {bs : Nat → Nat} {k N : Nat} (hk : k < 256 ^ N) (h : ∀ j, j < N → bs (1 + j) = k / 256 ^ (N - 1 - j) % 256) : ∀ i, i ≤ N → dv bs i = k / 256 ^ (N - i)
  | 0, _ => by rw [dv, Nat.sub_zero, Nat.div_eq_of_lt hk]
  | i + 1, hi => by
    have ih := dv_top hk h i (by omega)
    rw [dv, ih, show i + 1 = 1 + i by omega, h i (by omega), show N - 1 - i = N - (1 + i) by omega]
    have e : 256 ^ (N - i) = 256 ^ (N - (1 + i)) * 256 := by rw [← Nat.pow_succ]; congr 1; omega
    rw [e, ← Nat.div_div_eq_div_mul]
    omega

theorem hsz_pos (k : Nat) : 1 ≤ hsz k := by
  unfold hsz
  split <;> omega

theorem hsz_long {k : Nat} (h : ¬ k ≤ 55) : hsz k = 1 + NB k := by
  unfold hsz NB
  rw [if_neg h]

/-- The first byte of a head. -/
theorem hdB_first {bs : Nat → Nat} {o m k : Nat} (h : At bs o (hdB m k)) : bs o = if k ≤ 55 then m + k else m + 55 + NB k := by
  have := h 0 (by rw [hdB_length]; exact hsz_pos k)
  rw [Nat.add_zero] at this
  rw [this]
  unfold hdB lb
  split <;> rfl

theorem hdB_digits {bs : Nat → Nat} {o m k : Nat} (h : At bs o (hdB m k)) (hk : ¬ k ≤ 55) : ∀ j, j < NB k → bs (o + (1 + j)) = k / 256 ^ (NB k - 1 - j) % 256 := fun j hj => by
  have := h (1 + j) (by rw [hdB_length, hsz_long hk]; omega)
  rw [this, ← lowd_get k (NB k) j hj]
  unfold hdB lb
  rw [if_neg hk, show 1 + j = j + 1 by omega]
  rfl

/-- A head that is there is read. -/
theorem rl_head {bs : Nat → Nat} {n m k : Nat} (h : At bs 0 (hdB m k)) (hn : hsz k ≤ n) (hk : k ≤ 1099511627776) : rl bs n m = (hsz k, k, 0) := by
  have h0 := hdB_first h
  unfold rl
  by_cases h55 : k ≤ 55
  · rw [if_pos h55] at h0
    rw [h0, Nat.add_sub_cancel_left, if_pos h55]
    unfold hsz
    rw [if_pos h55]
  · rw [if_neg h55] at h0
    have hp := NB_pos (k := k) (by omega) (by omega)
    have hd := hdB_digits h h55
    have hdv := dv_top (bs := bs) (NB_lt (k := k) (by omega)) (fun j hj => by have := hd j hj; rwa [Nat.zero_add] at this) (NB k) (Nat.le_refl _)
    rw [Nat.sub_self, Nat.pow_zero, Nat.div_one] at hdv
    have e1 : bs 0 - m - 55 = NB k := by omega
    have e2 : bs 0 - m - 54 = hsz k := by rw [hsz_long h55]; omega
    have hb1 : bs 1 ≠ 0 := by
      have := hd 0 hp
      rw [Nat.zero_add, Nat.add_zero, Nat.sub_zero] at this
      rw [this]
      have hge := NB_ge (k := k) (by omega) hp
      have hlt := NB_lt (k := k) (by omega)
      have e : 256 ^ NB k = 256 ^ (NB k - 1) * 256 := by rw [← Nat.pow_succ]; congr 1; omega
      have hpos : 0 < 256 ^ (NB k - 1) := Nat.pow_pos (by decide)
      have h1 : 1 ≤ k / 256 ^ (NB k - 1) := (Nat.one_le_div_iff hpos).2 hge
      have h2 : k / 256 ^ (NB k - 1) < 256 := (Nat.div_lt_iff_lt_mul hpos).2 (by rw [Nat.mul_comm, ← e]; exact hlt)
      rw [Nat.mod_eq_of_lt h2]
      omega
    rw [if_neg (by omega), e2, if_neg (by omega), e1, hdv, if_neg]
    rintro (h | h | h)
    · exact hb1 h
    · omega
    · omega

/-- A head that is cut off is short. -/
theorem rl_cut {bs : Nat → Nat} {n m k : Nat} (h0 : bs 0 = if k ≤ 55 then m + k else m + 55 + NB k) (hn : n < hsz k) (hn0 : 0 < n) (hk : k ≤ 1099511627776) : rl bs n m = (0, 0, 41) := by
  unfold rl
  by_cases h55 : k ≤ 55
  · unfold hsz at hn
    rw [if_pos h55] at hn
    omega
  · rw [if_neg h55] at h0
    have hp := NB_pos (k := k) (by omega) (by omega)
    rw [hsz_long h55] at hn
    rw [if_neg (by omega), if_pos (by omega)]

mutual
/-- All that an item holds are bytes. -/
def Tree.by : Tree → Prop
  | .node _ b k => (∀ x ∈ b, x < 256) ∧ Tree.byK k
def Tree.byK : List Tree → Prop
  | [] => True
  | t :: ts => t.by ∧ Tree.byK ts
end

mutual
theorem IsItem.by {w : World} : ∀ {t : Tree} {v : Value}, IsItem w t v → t.by
  | .node l b k, v, h => by
    unfold IsItem at h
    unfold Tree.by
    obtain ⟨ao, c, ao', c', rfl, h1, h2, h3⟩ := h
    refine ⟨fun x hx => ?_, IsKids.by h3⟩
    obtain ⟨j, hj, rfl⟩ := List.mem_iff_getElem.1 hx
    have := h1.lt j
    unfold lb at this
    rwa [List.getD_eq_getElem?_getD, List.getElem?_eq_getElem hj] at this
theorem IsKids.by {w : World} : ∀ {ts : List Tree} {ao : Option Addr} {i : Nat}, IsKids w ts ao i → Tree.byK ts
  | [], _, _, _ => by unfold Tree.byK; trivial
  | t :: ts, ao, i, h => by
    unfold IsKids at h
    unfold Tree.byK
    obtain ⟨⟨g, v0, v1, v2, e, c0, c1, c2, hi⟩, hr⟩ := h
    exact ⟨IsItem.by hi, IsKids.by hr⟩
end

/-- What the head of an item's form tells: list or not, where the payload begins. -/
def Tree.hdF : Tree → Nat × Nat
  | .node l b k => (if l = 0 then 0 else 1, if b.length = 1 ∧ lb b 0 < 128 then 0 else hsz (b ++ Tree.encs k).length)

theorem Tree.ok_chk {l : Int} {b : List Nat} {k : List Tree} {w : Nat} (h : ((Tree.node l b k).meas w).2 = 0) : (l = 0 ∧ k = []) ∨ (l = 1 ∧ b = [] ∧ w < 64) := by
  unfold Tree.meas at h
  by_cases hc : chk l b.length k.length w = 0
  · unfold chk at hc
    by_cases h1 : l = 1 ∧ 64 ≤ w
    · rw [if_pos h1] at hc; cases hc
    · rw [if_neg h1] at hc
      by_cases h2 : (l = 0 ∧ k.length = 0) ∨ (l = 1 ∧ b.length = 0)
      · rcases h2 with ⟨a, c⟩ | ⟨a, c⟩
        · exact Or.inl ⟨a, List.eq_nil_of_length_eq_zero c⟩
        · exact Or.inr ⟨a, List.eq_nil_of_length_eq_zero c, by omega⟩
      · rw [if_neg h2] at hc; cases hc
  · rw [if_pos hc] at h; exact absurd h hc

theorem Tree.ok_kids {l : Int} {b : List Nat} {k : List Tree} {w : Nat} (h : ((Tree.node l b k).meas w).2 = 0) (hl : l = 1) : (Tree.measK k (w + 1) 0).2 = 0 := by
  have hc := Tree.ok_chk h
  have hb : b = [] := by
    rcases hc with ⟨a, _⟩ | ⟨_, c, _⟩
    · omega
    · exact c
  subst hb
  unfold Tree.meas at h
  by_cases hc : chk l 0 k.length w = 0
  · rw [if_neg (by simp [hc]), if_neg (by simp)] at h
    by_cases h2 : (Tree.measK k (w + 1) 0).2 = 0
    · exact h2
    · rw [List.length_nil, if_pos h2] at h
      exact h
  · rw [List.length_nil, if_pos hc] at h; exact absurd h hc

theorem measK_split {t : Tree} {ts : List Tree} {w acc : Nat} (h : (Tree.measK (t :: ts) w acc).2 = 0) : (t.meas w).2 = 0 ∧ ∃ acc', (Tree.measK ts w acc').2 = 0 := by
  rw [Tree.measK_cons] at h
  by_cases h1 : (t.meas w).2 = 0
  · rw [if_neg (by simp [h1])] at h
    exact ⟨h1, _, h⟩
  · rw [if_pos h1] at h; exact absurd h h1

theorem enc_eq (l : Int) (b : List Nat) (k : List Tree) : (Tree.node l b k).enc = if b.length = 1 ∧ lb b 0 < 128 then b ++ Tree.encs k else hdB (if l = 0 then 128 else 192) (b ++ Tree.encs k).length ++ (b ++ Tree.encs k) := by rw [Tree.enc]

theorem NB_small {k : Nat} (hk : k ≤ 1099511627776) : NB k ≤ 6 := by
  have hlt : Lib.bitLen k ≤ 41 := by
    rcases Nat.lt_or_ge 41 (Lib.bitLen k) with h | h
    · have := bitLen_lower (k := 41) (by omega) h
      omega
    · exact h
  unfold NB
  omega

/-- The head of a form that is there. -/
theorem hd_form {t : Tree} {w : Nat} (h : (t.meas w).2 = 0) (hs : t.enc.length ≤ 1099511627776) {bs : Nat → Nat} {n : Nat} (ha : At bs 0 t.enc) (hn : t.enc.length ≤ n) :
    hd bs n = (t.hdF.1, t.hdF.2, t.enc.length, 0) := by
  cases t with
  | node l b k =>
  have hc := Tree.ok_chk h
  rw [enc_eq] at hs ha hn ⊢
  unfold Tree.hdF
  by_cases hsa : b.length = 1 ∧ lb b 0 < 128
  · have hk : k = [] := by
      rcases hc with ⟨_, c⟩ | ⟨_, c, _⟩
      · exact c
      · rw [c] at hsa; exact absurd hsa.1 (by simp)
    have hl : l = 0 := by
      rcases hc with ⟨a, _⟩ | ⟨_, c, _⟩
      · exact a
      · rw [c] at hsa; exact absurd hsa.1 (by simp)
    subst hk
    subst hl
    rw [if_pos hsa] at hs ha hn
    simp only [Tree.encs, List.append_nil] at hs ha hn ⊢
    have h0 := ha 0 (by omega)
    rw [Nat.zero_add] at h0
    unfold hd
    rw [if_neg (by omega), if_pos (by rw [h0]; exact hsa.2), if_pos hsa, if_pos hsa, hsa.1]
    rfl
  · rw [if_neg hsa] at hs ha hn ⊢
    rw [List.length_append, hdB_length] at hs hn ⊢
    have hhd := ha.left
    have hpl := ha.right
    rw [Nat.zero_add, hdB_length] at hpl
    generalize hP : b ++ Tree.encs k = P at *
    have hp1 := hsz_pos P.length
    have hrl := fun m (e : hdB (if l = 0 then 128 else 192) P.length = hdB m P.length) => rl_head (n := n) (m := m) (by rw [← e]; exact hhd) (by omega) (by omega)
    have h0 := hdB_first hhd
    have hNB := NB_small (k := P.length) (by omega)
    unfold hd
    rw [if_neg (by omega)]
    rcases hc with ⟨rfl, rfl⟩ | ⟨rfl, rfl, hw⟩
    · simp only [if_true] at h0 hrl ⊢
      have hr := hrl 128 rfl
      have hb1 : ¬ bs 0 < 128 := by rw [h0]; split <;> omega
      have hb2 : bs 0 < 192 := by rw [h0]; split <;> omega
      rw [if_neg hb1, if_pos hb2, hr]
      simp only [Tree.encs, List.append_nil] at hP
      subst hP
      have hx : ¬ (b.length = 1 ∧ bs (hsz b.length) < 128) := by
        rintro ⟨h1, h2⟩
        refine hsa ⟨h1, ?_⟩
        have := hpl 0 (by omega)
        rw [Nat.add_zero] at this
        rw [← this]
        exact h2
      dsimp only
      rw [if_neg (by simp), if_neg (by omega), if_neg hx, if_neg hsa]
      simp [Tree.encs]
    · have hne : ¬ (1 : Int) = 0 := by decide
      rw [if_neg hne] at h0
      have hr := hrl 192 (by rw [if_neg hne])
      have hb1 : ¬ bs 0 < 128 := by rw [h0]; split <;> omega
      have hb2 : ¬ bs 0 < 192 := by rw [h0]; split <;> omega
      rw [if_neg hb1, if_neg hb2, hr]
      dsimp only
      rw [if_neg (by simp), if_neg (by omega), if_neg hsa, if_neg hne, hP]

/-- A form that is cut off. -/
theorem hd_cut {t : Tree} {w : Nat} (h : (t.meas w).2 = 0) (hs : t.enc.length ≤ 1099511627776) {bs : Nat → Nat} {n : Nat} (ha : ∀ j, j < n → bs j = lb t.enc j) (hn : n < t.enc.length) :
    hd bs n = (0, 0, 0, 41) := by
  cases t with
  | node l b k =>
  have hc := Tree.ok_chk h
  unfold hd
  by_cases hn0 : n = 0
  · rw [if_pos hn0]
  rw [if_neg hn0]
  rw [enc_eq] at hs ha hn
  by_cases hsa : b.length = 1 ∧ lb b 0 < 128
  · have hk : k = [] := by
      rcases hc with ⟨_, c⟩ | ⟨_, c, _⟩
      · exact c
      · rw [c] at hsa; exact absurd hsa.1 (by simp)
    subst hk
    rw [if_pos hsa] at hn
    simp only [Tree.encs, List.append_nil] at hn
    omega
  · rw [if_neg hsa] at hs ha hn
    rw [List.length_append, hdB_length] at hs hn
    generalize hP : b ++ Tree.encs k = P at *
    have hp1 := hsz_pos P.length
    have hNB := NB_small (k := P.length) (by omega)
    have hgen : ∀ m, (∀ j, j < n → bs j = lb (hdB m P.length ++ P) j) → bs 0 = (if P.length ≤ 55 then m + P.length else m + 55 + NB P.length) ∧ (rl bs n m = (0, 0, 41) ∨ (rl bs n m = (hsz P.length, P.length, 0) ∧ n - hsz P.length < P.length)) := by
      intro m hm
      have h0 : bs 0 = if P.length ≤ 55 then m + P.length else m + 55 + NB P.length := by
        rw [hm 0 (by omega), lb_left (by rw [hdB_length]; omega)]
        unfold hdB lb
        split <;> rfl
      refine ⟨h0, ?_⟩
      by_cases hlt : n < hsz P.length
      · exact Or.inl (rl_cut h0 hlt (by omega) (by omega))
      · refine Or.inr ⟨rl_head (fun j hj => ?_) (by omega) (by omega), by omega⟩
        rw [hdB_length] at hj
        rw [Nat.zero_add, hm j (by omega), lb_left (by rw [hdB_length]; exact hj)]
    rcases hc with ⟨rfl, rfl⟩ | ⟨rfl, rfl, hw⟩
    · obtain ⟨h0, hr⟩ := hgen 128 (by simpa using ha)
      have hb1 : ¬ bs 0 < 128 := by rw [h0]; split <;> omega
      have hb2 : bs 0 < 192 := by rw [h0]; split <;> omega
      rw [if_neg hb1, if_pos hb2]
      rcases hr with hr | ⟨hr, hlt⟩
      · rw [hr]; rfl
      · rw [hr]; dsimp only; rw [if_neg (by simp), if_pos hlt]
    · obtain ⟨h0, hr⟩ := hgen 192 (by simpa using ha)
      have hb1 : ¬ bs 0 < 128 := by rw [h0]; split <;> omega
      have hb2 : ¬ bs 0 < 192 := by rw [h0]; split <;> omega
      rw [if_neg hb1, if_neg hb2]
      rcases hr with hr | ⟨hr, hlt⟩
      · rw [hr]; rfl
      · rw [hr]; dsimp only; rw [if_neg (by simp), if_pos hlt]

theorem enc_pos (t : Tree) {w : Nat} (h : (t.meas w).2 = 0) : 1 ≤ t.enc.length := by
  cases t with
  | node l b k =>
  rw [enc_eq]
  by_cases hsa : b.length = 1 ∧ lb b 0 < 128
  · rw [if_pos hsa, List.length_append]; omega
  · rw [if_neg hsa, List.length_append, hdB_length]
    have := hsz_pos (b ++ Tree.encs k).length
    omega

mutual
/-- A form is read as its item. -/
theorem rd_enc : ∀ (t : Tree) (w : Nat), (t.meas w).2 = 0 → t.enc.length ≤ 1099511627776 → w ≤ 64 → ∀ (bs : Nat → Nat) (o : Nat), At bs o t.enc → rd (64 - w) bs t.hdF.1 (o + t.hdF.2) (o + t.enc.length) = (t, 0)
  | .node l b k, w, h, hs, hw, bs, o, ha => by
    have hc := Tree.ok_chk h
    rcases hc with ⟨rfl, rfl⟩ | ⟨rfl, rfl, hw64⟩
    · have hF : (Tree.node 0 b []).hdF.1 = 0 := by simp [Tree.hdF]
      rw [hF, rd_text]
      have hpl : At bs (o + (Tree.node 0 b []).hdF.2) b ∧ o + (Tree.node 0 b []).enc.length - (o + (Tree.node 0 b []).hdF.2) = b.length := by
        rw [enc_eq] at ha ⊢
        simp only [Tree.hdF, Tree.encs, List.append_nil] at ha ⊢
        by_cases hsa : b.length = 1 ∧ lb b 0 < 128
        · rw [if_pos hsa] at ha ⊢
          rw [if_pos hsa]
          exact ⟨ha, by omega⟩
        · rw [if_neg hsa] at ha ⊢
          rw [if_neg hsa]
          have := ha.right
          rw [hdB_length] at this
          exact ⟨this, by rw [List.length_append, hdB_length]; omega⟩
      rw [hpl.2, hpl.1.pay]
    · have hsa : ¬ (([] : List Nat).length = 1 ∧ lb [] 0 < 128) := by simp
      have hF : (Tree.node 1 [] k).hdF = (1, hsz (Tree.encs k).length) := by simp [Tree.hdF]
      rw [enc_eq, if_neg hsa] at ha hs
      rw [enc_eq, if_neg hsa, hF]
      simp only [List.nil_append, show ¬ (1 : Int) = 0 by decide, if_false] at ha hs ⊢
      have hpl := ha.right
      rw [hdB_length] at hpl
      rw [List.length_append, hdB_length] at hs ⊢
      have hk := Tree.ok_kids h rfl
      have hd : 64 - w = (64 - (w + 1)) + 1 := by omega
      rw [hd, rd_list, show o + (hsz (Tree.encs k).length + (Tree.encs k).length) - (o + hsz (Tree.encs k).length) = (Tree.encs k).length by omega]
      have := rdK_encs k (w + 1) 0 hk (by omega) (by omega) (fun j => bs (o + hsz (Tree.encs k).length + j)) (Tree.encs k).length 0 ((Tree.encs k).length + 1) (At.shift (by rw [Nat.add_zero]; exact hpl)) (by omega) (by omega)
      rw [this]
      rfl
theorem rdK_encs : ∀ (k : List Tree) (w acc : Nat), (Tree.measK k w acc).2 = 0 → (Tree.encs k).length ≤ 1099511627776 → w ≤ 64 → ∀ (bs : Nat → Nat) (m p fuel : Nat), At bs p (Tree.encs k) → m = p + (Tree.encs k).length → m + 1 ≤ fuel + p → rdK (rd (64 - w) bs) (pcs bs m fuel p) = (k, 0)
  | [], w, acc, _, _, _, bs, m, p, fuel, _, hm, hf => by
    simp only [Tree.encs, List.length_nil, Nat.add_zero] at hm
    subst hm
    cases fuel with
    | zero => omega
    | succ f => rw [pcs, if_neg (by omega), rdK]
  | t :: ts, w, acc, h, hs, hw, bs, m, p, fuel, ha, hm, hf => by
    obtain ⟨h1, acc', h2⟩ := measK_split h
    rw [Tree.encs_cons] at ha hs hm
    rw [List.length_append] at hs hm
    have hp := enc_pos t h1
    cases fuel with
    | zero => omega
    | succ f =>
      have hhd := hd_form h1 (by omega) (bs := fun j => bs (p + j)) (n := m - p) (At.shift (by rw [Nat.add_zero]; exact ha.left)) (by omega)
      rw [pcs, if_pos (by omega), hhd, if_neg (by simp)]
      have hr := rd_enc t w h1 (by omega) hw bs p ha.left
      have hrest := rdK_encs ts w acc' h2 (by omega) hw bs m (p + t.enc.length) f ha.right (by omega) (by omega)
      rw [rdK_next rfl (by rw [hr]), hrest, hr]
      rfl
end

/-- The form of an item, and what may stand behind it, as Decode reads it. -/
theorem dec_form {t : Tree} (h : (t.meas 0).2 = 0) (hs : t.enc.length ≤ 1099511627776) {bs : Nat → Nat} {n : Nat} (ha : At bs 0 t.enc) (hn : t.enc.length ≤ n) :
    dec bs n = if t.enc.length < n then (.node 0 [] [], 43) else (t, 0) := by
  have hhd := hd_form h hs ha hn
  have hr := rd_enc t 0 h hs (by omega) bs 0 ha
  rw [Nat.zero_add, Nat.zero_add, Nat.sub_zero] at hr
  unfold dec
  rw [hhd]
  dsimp only
  rw [if_neg (by simp), hr, if_neg (by simp)]

theorem dec_cut {t : Tree} (h : (t.meas 0).2 = 0) (hs : t.enc.length ≤ 1099511627776) {bs : Nat → Nat} {n : Nat} (ha : ∀ j, j < n → bs j = lb t.enc j) (hn : n < t.enc.length) : dec bs n = (.node 0 [] [], 41) := by
  unfold dec
  rw [hd_cut h hs ha hn]
  rfl

end Go.Proofs.Ytigebmidfddbcaa
