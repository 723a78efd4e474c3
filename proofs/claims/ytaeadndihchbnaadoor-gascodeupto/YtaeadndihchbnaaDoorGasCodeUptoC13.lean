/-
  Dests: the places that one may jump to, gone over.
-/
import Derived.Laws.EntriesVeiled
import Derived.Test.YtaeadndihchbnaaDoorGasCodeUptoC12
namespace Go.Proofs.YtaeadndihchbnaaDoor
open Go.RowKit Go.Shelf

attribute [local go_sem] Oper.semAt_some

/-- The places to jump to; how many there are among the first instructions. -/
def dstL (bs : Nat → Nat) (n : Nat) : List Nat := destsL bs n n 0

def dstN (bs : Nat → Nat) (n q : Nat) : Nat := ((insL bs n).take q).countP fun x => x.2 == 91

def dstV (L : List Nat) (k : Nat) : Array Value := #[.int .i64 ((L.getD k 0 : Nat) : Int)]

theorem filter_at {α : Type} {f : α → Bool} {xs : List α} {q : Nat} {x : α} (h : xs[q]? = some x) (hf : f x = true) : (xs.filter f)[(xs.take q).countP f]? = some x := by
  have hq : q < xs.length := (List.getElem?_eq_some_iff.1 h).1
  have e : xs.take q ++ x :: xs.drop (q + 1) = xs := by
    have h1 := List.take_append_drop q xs
    rw [List.drop_eq_getElem_cons hq, (List.getElem?_eq_some_iff.1 h).2] at h1
    exact h1
  conv => lhs; arg 1; rw [← e]
  rw [List.filter_append, List.filter_cons_of_pos hf, List.countP_eq_length_filter, List.getElem?_append_right (Nat.le_refl _)]
  simp

theorem dstN_zero (bs : Nat → Nat) (n : Nat) : dstN bs n 0 = 0 := by simp [dstN]

theorem dstN_next {bs : Nat → Nat} {n q : Nat} (hq : q < (insL bs n).length) : dstN bs n (q + 1) = dstN bs n q + (if bs (posN bs n q) == 91 then 1 else 0) := by
  unfold dstN
  rw [List.take_add_one, List.countP_append, (ins_at hq).1]
  simp [List.countP_cons]

theorem dst_at {bs : Nat → Nat} {n q : Nat} (hq : q < (insL bs n).length) (h : bs (posN bs n q) = 91) : (dstL bs n)[dstN bs n q]? = some (posN bs n q) := by
  unfold dstL destsL
  rw [List.getElem?_map]
  have := filter_at (f := fun x : Nat × Nat => x.2 == 91) (ins_at hq).1 (by simp [h])
  unfold dstN
  unfold insL at this ⊢
  rw [this]
  rfl

theorem dst_lt {bs : Nat → Nat} {n q : Nat} (hq : q < (insL bs n).length) (h : bs (posN bs n q) = 91) : dstN bs n q < (dstL bs n).length := (List.getElem?_eq_some_iff.1 (dst_at hq h)).1

theorem dst_end (bs : Nat → Nat) (n : Nat) : dstN bs n (insL bs n).length = (dstL bs n).length := by
  unfold dstN dstL destsL
  rw [List.take_length, List.countP_eq_length_filter, List.length_map]
  rfl

theorem dstV_at {bs : Nat → Nat} {n q : Nat} (hq : q < (insL bs n).length) (h : bs (posN bs n q) = 91) : dstV (dstL bs n) (dstN bs n q) = #[.int .i64 (posN bs n q : Nat)] := by
  unfold dstV
  rw [List.getD_eq_getElem?_getD, dst_at hq h]
  rfl

/-- What whoever ranges keeps: the code, and all that is laid behind their loop. -/
def KpD (Bn : Nat) (ao : Option Addr) (n c : Nat) (bs : Nat → Nat) (w : World) (V V' : World) : Prop := KpI Bn ao n c bs V V' ∧ V.heap.size ≤ V'.heap.size ∧ ∀ k, w.heap.size + 2 ≤ k → k < V.heap.size → V'.heap[k]? = V.heap[k]?

/-- How Dests stands, so many instructions seen. -/
structure DtI (J : Nat → World → Prop) (l : Nat) (W : World) (bs : Nat → Nat) (n : Nat) (Bn : Nat) (ao : Option Addr) (c : Nat) (q : Nat) (V : World) : Prop where
  j : J (dstN bs n q) V
  y : V.heap[W.heap.size]? = some (.cells #[.func (.yield l) #[] #[]] 103 (0, 0))
  ins : InsM Bn ao n c bs V

set_option maxHeartbeats 2000000 in
set_option maxRecDepth 100000 in
theorem dests_gives (m : Nat) (hm : 3 ≤ m) {Bd Bn n c : Nat} {ao : Option Addr} {bs : Nat → Nat} (w : World) (hn : n ≤ 140737488355328) (hI : InsM Bn ao n c bs w) (hd : w.cell? ⟨Bd, 0, none⟩ = some (.func (.func 91) #[] #[.pointer (some ⟨Bn, 0, none⟩)])) :
    Gives2 m Tryd.prog 78 #[.pointer (some ⟨Bd, 0, none⟩)] (dstV (dstL bs n)) (dstL bs n).length (KpD Bn ao n c bs w) w := by
  intro l J W hW2 hW hJs hJp hY h0
  have HI := hideP (hI.moved hW)
  have hdW := (hW.cell (p := ⟨Bd, 0, none⟩) (World.block_lt_of_cell? w _ hd)).trans hd
  have hdl : Bd < W.heap.size := Nat.lt_of_lt_of_le (World.block_lt_of_cell? w _ hd) hW.size
  have HY := hideP hY
  have HJ := hideP h0
  have HN := hideP hn
  have HJS := hideP hJs
  have HJP := hideP hJp
  have HW2 := hideP hW2
  clear hI hJs hJp hY h0 hW hn hd hW2
  refine callsIn_of_wp_marks Tryd.func78 rfl trivial ?_ rfl
  simp only [Tryd.ntmps78, List.size_toArray, List.length_cons, List.length_nil, Nat.reduceAdd, Nat.reduceSub, Array.replicate_succ, Array.replicate_zero, List.push_toArray, List.append_toArray, List.nil_append, List.cons_append]
  gi_wp2
  generalize hW0 : W.alloc (.cells #[.func (.yield l) #[] #[]] 103) = W0
  obtain ⟨b0, hb0⟩ := box1 hW0.symm
  have hsz : W0.heap.size = W.heap.size + 1 := by rw [← hW0]; simp
  clear hW0
  have hI0 : DtI J l W bs n Bn ao c 0 W0 := ⟨by rw [dstN_zero]; exact HJS.out _ _ _ HJ.out hb0, b0, HI.out.moved hb0⟩
  have hw2 := HW2.out
  have hgive := ins_gives (m - 1) (by omega) W0 HN.out hI0.ins
  refine range_seq (n := m) (by omega) rfl (enters_of Tryd.func91 (by kernel_rfl) rfl) (insV (insL bs n)) (insL bs n).length (fun _ => rfl) _ hgive
    (DtI J l W bs n Bn ao c) (fun _ _ => False)
    (fun q V V' h hb => ⟨HJS.out _ _ _ h.j hb, (hb.block _ (lt_of_block h.y)).trans h.y, h.ins.moved hb⟩) (fun cd V V' h hb => h)
    (fun q V l' o o' h hl h1 h2 => ⟨HJP.out _ _ _ _ _ h.j (by omega) h1 h2, putObj_cells h1 h2 h.y rfl, h.ins.putObj h1 h2⟩) (fun cd V l' o o' h hl h1 h2 => h)
    (fun V V' l' o o' h hl h1 h2 hi => (h hi).putObj h1 h2) hI0 ?round ?done ?stop
  case stop =>
    rintro D cd W hD hx
    exact hx.elim
  case done =>
    rintro D V hD hI hdef
    have hj : J (dstL bs n).length (V.putObj D (.deferred none)) := by
      have := HJP.out _ _ D _ (.deferred none) hI.j (by omega) hdef rfl
      rwa [dst_end] at this
    have HX := hideP hj
    have HDF := hideP hdef
    clear hj hdef hI0 hgive b0 hb0 hI
    gi_wp2
    refine ⟨by simp, .inl ⟨_, _, rfl, run_takeDeferred HDF.out, ?_⟩⟩
    exact ⟨_, results_none rfl _ _ _, ⟨_, rfl⟩, HX.out⟩
  case round =>
    rintro l' q V hq hI hl' ⟨rr, hlr⟩
    rw [insV_at hq]
    have HALL := hideP (And.intro hI (And.intro hlr (And.intro hl' (And.intro hq (And.intro hsz hw2)))))
    clear hI0 hgive b0 hb0 hI hlr hl' hq hsz hw2
    gi_wp2
    refine ⟨KeepsFrom.refl _ _, fun r => ?_⟩
    obtain ⟨hI, hlr, hl', hq, hsz, hw2⟩ := HALL.out
    have hI1 : DtI J l W bs n Bn ao c q (V.putObj l' (.loop r)) := ⟨HJP.out _ _ _ _ _ hI.j (by omega) hlr rfl, putObj_cells hlr rfl hI.y rfl, hI.ins.putObj hlr rfl⟩
    have hKp : KpI Bn ao n c bs V (V.putObj l' (.loop r)) := fun h => h.putObj hlr rfl
    generalize V.putObj l' (.loop r) = V1 at *
    have y0 := blk_cell hI1.y (o := 0) rfl
    have hnx := dstN_next hq
    have h256 := HI.out.2.lt (posN bs n q)
    by_cases ho : bs (posN bs n q) = 91
    · obtain ⟨fn, tmps, assign, body, hy, hRd⟩ := HY.out _ V1 (dst_lt hq ho) hI1.j
      rw [dstV_at hq ho] at hy
      rw [ho] at hnx
      have HRd := hideP hRd
      have HF := hideP (And.intro hKp (And.intro hnx (And.intro hI1.ins (And.intro hI1.y (And.intro hsz hw2)))))
      have e5 : ((bs (posN bs n q) : Nat) : Int) = 91 := by rw [ho]; rfl
      clear hI hlr hl' hq hsz hw2 hI1 HALL hKp hnx hRd h256 ho
      rw [e5]
      gi_wp2
      refine ⟨fun _ => by omega, (round_any HRd.out).mono ?_⟩
      rintro e V3 ⟨rfl, hJ3, hk3⟩
      obtain ⟨hKp, hnx, hins, hyb, hsz, hw2⟩ := HF.out
      have hlt := lt_of_block hyb
      have hI3 : DtI J l W bs n Bn ao c (q + 1) V3 := ⟨by rw [hnx]; exact hJ3, (hk3.2.2 _ (by omega) hlt).trans hyb, hk3.1 hins⟩
      have hkf : KeepsFrom W0.heap.size V1 V3 := ⟨hk3.2.1, fun k o hk ho _ => (hk3.2.2 k (by omega) (lt_of_block ho)).trans ho⟩
      have HX := hideP (And.intro hkf (And.intro (fun hi => hk3.1 (hKp hi) : KpI Bn ao n c bs V V3) hI3))
      clear hKp hnx hins hyb hsz hw2 hlt hI3 hkf hk3 hJ3 HF HRd hy y0
      gi_wp2
      exact HX.out
    · have e5 : ((bs (posN bs n q) : Nat) : Int) ≠ 91 := by omega
      have hI3 : DtI J l W bs n Bn ao c (q + 1) V1 := ⟨by rw [hnx, if_neg (by simpa using ho)]; exact hI1.j, hI1.y, hI1.ins⟩
      have HX := hideP (And.intro hKp hI3)
      clear hI hlr hl' hq hsz hw2 hI1 HALL hKp hnx hI3 h256 ho
      generalize bs (posN bs n q) = o at *
      have e6 : ((o : Int) == 91) = false := by simpa using e5
      gi_wp2
      refine ⟨fun f hf => (by cases hf), ?_⟩
      gi_wp2
      exact ⟨KeepsFrom.refl _ _, HX.out.1, HX.out.2⟩

set_option maxHeartbeats 1000000 in
set_option maxRecDepth 100000 in
theorem dests_any {ao : Option Addr} {n c : Nat} {bs : Nat → Nat} (hn : n ≤ 140737488355328) (w : World) (h : BS w ao n c bs) :
    Calls Tryd.prog 53 #[.slice ao n c] w fun e w' => (∃ bd b ao' c', e = .returned (.func (.func 78) #[] #[.pointer (some ⟨bd, 0, none⟩)]) ∧ w'.cell? ⟨bd, 0, none⟩ = some (.func (.func 91) #[] #[.pointer (some ⟨b, 0, none⟩)]) ∧ InsM b ao' n c' bs w' ∧ w.heap.size ≤ b ∧ (0 < n → ∃ g, w.heap.size ≤ g ∧ ao' = some ⟨g, 0, none⟩)) ∧ Below w.heap.size w w' := by
  have HC := hideP (codes_any hn w h)
  clear h hn
  go_enter Tryd.func53, Tryd.ntmps53
  go_wp2_with fail
  refine HC.out.mono ?_
  rintro e w1 ⟨⟨b, ao', c', rfl, hB, hbb, hG⟩, hb⟩
  generalize hw2 : w1.alloc (.cells #[.func (.func 91) #[] #[.pointer (some ⟨b, 0, none⟩)]] 59) = w2
  obtain ⟨b1, hb1⟩ := box1 hw2.symm
  have HX := hideP (And.intro (blk_cell (o := 0) b1 rfl) (And.intro (hB.moved hb1) (And.intro hbb (And.intro hG (hb.trans (hb1.mono hb.size))))))
  have HE := hideP hw2
  clear hB hbb hG hb b1 hb1 HC hw2
  go_wp2_with fail
  go_ret
  rw [HE.out]
  obtain ⟨h1, h2, h3, h4, h5⟩ := HX.out
  exact ⟨⟨_, _, _, _, rfl, h1, h2, h3, h4⟩, h5⟩

end Go.Proofs.YtaeadndihchbnaaDoor
