/- YtcceaokldphfgaaDiskDoesC29 -/
import Derived.Test.YtcceaokldphfgaaDiskDoesC28
namespace Go.Proofs.Ytcceaokldphfgaa
open Go.RowKit Go.Shelf

/-- A change as the document's: its cells. -/
def chgC : Chg → Value → List Value
  | .inl (at_, _), d => [.bool false, .int .i64 at_, .int .i64 0, d]
  | .inr long, d => [.bool true, .int .i64 0, .int .i64 long, d]

/-- Its bytes. -/
def chgL : Chg → List UInt8
  | .inl (_, l) => l
  | .inr _ => []

/-- A change that may be. -/
def ChgMay : Chg → Prop
  | .inl (at_, l) => at_ + l.length ≤ 268435456
  | .inr long => long ≤ 268435456

theorem set_splice (L : List UInt8) (at_ : Nat) (l : List UInt8) (i : Nat) (hi : i < l.length) (h : at_ + l.length ≤ L.length) : (splice L at_ (l.take i)).set (at_ + i) l[i] = splice L at_ (l.take (i + 1)) := by
  apply List.ext_getElem?
  intro k
  unfold splice
  simp only [List.getElem?_set, List.getElem?_append, List.getElem?_take, List.getElem?_drop, List.length_append, List.length_take, List.length_drop]
  repeat' split
  all_goals first
    | rfl
    | omega
    | (congr 1; omega)
    | (rw [List.getElem?_eq_getElem (by omega)]; congr 2; omega)
    | (symm; rw [List.getElem?_eq_getElem (by omega)]; congr 2; omega)
    | skip

def lenV : Value → Nat
  | .slice _ n _ => n
  | _ => 0

/-- Where Apply is: its row, its change. -/
structure AI (w : World) (o : Obj) (L : List UInt8) (v : Value) (wr : World) : Prop where
  own : wr.ownsRow (w.heap.size + 1) 5 1 v L.length (L.map byteV)
  box : wr.heap[w.heap.size]? = some o
  below : Below w.heap.size w wr

theorem AI.put {w wr : World} {o : Obj} {L : List UInt8} {q : Option Addr} {c n : Nat} (h : AI w o L (.slice q n c) wr) (hn : L.length = n) (hl : n ≤ 268435456) :
    ∃ q' c' w7, Hid ((Builtin.append_ #[33, 33] 33 #[.slice q n c, .slice (some ⟨wr.heap.size, 0, none⟩) 1 1]).run Try.prog (wr.alloc (.cells #[.int .u8 0] 5)) = .ok (.slice q' (n + 1) c') w7) ∧ Hid (AI w o (L ++ [0]) (.slice q' (n + 1) c') w7) := by
  subst hn
  have hz : w.heap.size + 1 ≤ wr.heap.size := (Array.getElem?_eq_some_iff.1 h.box).1
  obtain ⟨q', c', w7, h1, h2, h3⟩ := put_step Try.underlying33 Try.info5 rfl (u := .int .u8 0) rfl h.own hz (by omega) (by omega)
  refine ⟨q', c', w7, h1, ?_, ?_, Below.grew h.below h3 h.own (by omega) (by omega)⟩
  · simpa [byteV] using h2
  · exact (h3.by_.block _ (by omega) (fun e => by have := (h.own.lt _ e.symm).1; omega)).trans h.box

theorem AI.set {w wr : World} {o : Obj} {L : List UInt8} {g n cap : Nat} (h : AI w o L (.slice (some ⟨g, 0, none⟩) n cap) wr) (hn : L.length = n) (k : Nat) (x : UInt8) : AI w o (L.set k x) (.slice (some ⟨g, 0, none⟩) n cap) (wr.setCell ⟨g, k, none⟩ (byteV x)) := by
  subst hn
  have h1 := h.own.stored k (byteV x)
  have hg := (h.own.lt g rfl).1
  refine ⟨?_, ?_, h.below.setCell (p := ⟨g, k, none⟩) (by show w.heap.size ≤ g; omega) _⟩
  · have := h1.1
    rw [List.length_set, List.map_set]
    exact this
  · exact (Below.heap_setCell wr _ _ _ (fun e => by have : w.heap.size = g := e; omega)).trans h.box

set_option maxHeartbeats 1000000 in
set_option maxRecDepth 100000 in
/-- Apply, where the bytes are not cut off. -/
theorem rapply_put {w : World} {v d : Value} {xs l : List UInt8} {at_ long en : Nat} (hv : RdN w v xs) (hd : Rd w d l) (hx : xs.length ≤ 268435456) (hen : en = at_ + l.length) (he : en ≤ 268435456) :
    Calls Try.prog 72 #[v, .agg #[.bool false, .int .i64 at_, .int .i64 long, d]] w fun e w' => ∃ q n c, e = .returned (.slice q n c) ∧ Hid (Out w (splice (xs ++ List.replicate (en - xs.length) 0) at_ l) (.slice q n c) w' ∧ n = (splice (xs ++ List.replicate (en - xs.length) 0) at_ l).length) := by
  obtain ⟨av, cv, rfl, hvc, hvr⟩ := hv.1
  obtain ⟨ad, cd, rfl, hdc, hdr⟩ := hd
  generalize hnl : l.length = nl at *
  generalize hnx : xs.length = nx at *
  obtain ⟨O, hO⟩ : ∃ O : Obj, O = .cells #[.bool false, .int .i64 at_, .int .i64 long, .slice ad nl cd] 114 := ⟨_, rfl⟩
  have hal : Below w.heap.size w (w.alloc O) := (Below.refl _ w).alloc (Nat.le_refl _) O
  have htw := rtwin_any (hv.later hal) (by omega)
  rw [hnx] at htw
  obtain ⟨W0, hW0⟩ : ∃ W0, W0 = w.alloc O := ⟨_, rfl⟩
  have hB0 : W0.heap[w.heap.size]? = some O := by rw [hW0, hO]; exact World.alloc_heap_new w _
  rw [← hW0] at htw hal
  rw [hO] at hW0
  have HI : Hid (Calls Try.prog 49 #[.slice av nx cv] W0 fun e w' => ∃ q c, e = .returned (.slice q nx c) ∧ Hid (AI w O xs (.slice q nx c) w')) := by
    refine htw.mono ?_
    rintro r W1 ⟨q, c, rfl, HO⟩
    have hz : W0.heap.size = w.heap.size + 1 := by rw [hW0]; simp
    refine ⟨q, c, rfl, ?_, (HO.out.2.block _ (by omega)).trans hB0, hal.trans (HO.out.2.mono (by omega))⟩
    have := HO.out.1
    rw [hz] at this
    exact this
  have HW0 := hideP hW0
  have HDR : Hid (∀ wr, Below w.heap.size w wr → ∀ j x, l[j]? = some x → ∃ b, ad = some b ∧ wr.cell? (b.add j) = some (byteV x)) := fun wr hb j x hx => by
    obtain ⟨b, e, hc⟩ := hdr j x hx
    refine ⟨b, e, (hb.cell ?_).trans hc⟩
    rcases Nat.lt_or_ge (b.add j).block w.heap.size with h | h
    · exact h
    · simp [World.cell?, Array.getElem?_eq_none h] at hc
  have HNL := hideP hnl
  have HNX := hideP hnx
  have HO := hideP hO
  have hw0 : w.heap.size < W0.heap.size := (Array.getElem?_eq_some_iff.1 hB0).1
  have s1 : IntKind.i64.wrap ((at_ : Int) + (nl : Int)) = (en : Int) := by rw [IntKind.wrap_i64]; omega
  have HEN := hideP hen
  clear hv hvr hdr htw hal hB0 hO hW0 hvc hnl hnx hw0 hen
  have c0 : W0.cell? ⟨w.heap.size, 0, none⟩ = some (.bool false) := by rw [HW0.out]; simp
  go_enter Try.func72, Try.ntmps72
  go_wp2_with fail
  rw [← HW0.out]
  refine HI.out.mono ?_
  rintro r W1 ⟨q0, c0', rfl, HA⟩
  clear HI c0 HW0
  have hin0 : Hid (AI w O (xs ++ List.replicate (nx - nx) 0) (.slice q0 nx c0') W1) := by rw [Nat.sub_self, List.replicate_zero, List.append_nil]; exact HA.out
  clear HA
  go_wp2
  go_loopw [6] (fun sv wr => ∃ (j : Nat) (q : Option Addr) (c : Nat), nx ≤ j ∧ (j ≤ nx ∨ j ≤ en) ∧ sv = .slice q j c ∧ Hid (AI w O (xs ++ List.replicate (j - nx) 0) (.slice q j c) wr)) (fun sv _ => en - lenV sv)
  case atStart => exact ⟨nx, q0, c0', Nat.le_refl _, .inl (Nat.le_refl _), rfl, hin0⟩
  case round =>
    clear hin0
    obtain ⟨j, q, c, hj1, hj2, rfl, HA⟩ := hrel
    by_cases hj : j < en
    · have hj3 : (j : Int) < (en : Int) := by omega
      obtain ⟨q', c', w7, HR, HB⟩ := HA.out.put (by simp [HNX.out]; omega) (by omega)
      have HB' : Hid (AI w O (xs ++ List.replicate (j + 1 - nx) 0) (.slice q' (j + 1) c') w7) := by
        rw [show j + 1 - nx = (j - nx) + 1 from by omega, List.replicate_succ', ← List.append_assoc]; exact HB.out
      clear HA HB
      go_wp2_with (at_builtin; refine Lib.wpList_append_run _ rfl _ _ 33 33 rfl _ _ rfl rfl _ _ HR.out ?_)
      go_roundw
      case rel => exact ⟨j + 1, q', c', by omega, by omega, rfl, HB'⟩
      case measure => simp [lenV]; omega
    · have hj3 : ¬ (j : Int) < (en : Int) := by omega
      have hjm : j - nx = en - nx := by omega
      have b3 : wr.cell? ⟨w.heap.size, 3, none⟩ = some (.slice ad nl cd) := blk_cell (HA.out.box.trans (by rw [HO.out])) rfl
      have HB : Hid (AI w O (splice (xs ++ List.replicate (en - nx) 0) at_ (l.take 0)) (.slice q j c) wr) := by
        have := HA.out
        rw [hjm] at this
        exact ⟨by simpa [splice] using this.own, this.box, this.below⟩
      have HJ : Hid (at_ + nl ≤ j ∧ nx ≤ j ∧ j = max nx en) := ⟨by have := HEN.out; omega, hj1, by omega⟩
      clear HA hj1 hj2
      go_wp2
      clear b3
      go_loopw [39] (fun i wr => ∃ k : Nat, k ≤ nl ∧ i = .int .i64 k ∧ Hid (AI w O (splice (xs ++ List.replicate (en - nx) 0) at_ (l.take k)) (.slice q j c) wr)) (fun i _ => nl - (intOf i).toNat)
      case atStart => exact ⟨0, Nat.zero_le _, rfl, HB⟩
      case round =>
        clear HB
        obtain ⟨k, hk, rfl, HA⟩ := hrel
        by_cases hkl : k < nl
        · have hkl' : (k : Int) < (nl : Int) := by omega
          have hkL : k < l.length := by rw [HNL.out]; exact hkl
          obtain ⟨b, hb, hc⟩ := HDR.out wr HA.out.below k l[k] (List.getElem?_eq_getElem hkL)
          subst hb
          obtain ⟨x, hx9⟩ : ∃ x, x = l[k] := ⟨_, rfl⟩
          rw [← hx9] at hc
          unfold byteV at hc
          obtain ⟨z1, z2, z3⟩ := HJ.out
          have hL : (splice (xs ++ List.replicate (en - nx) 0) at_ (l.take k)).length = j := by
            rw [length_splice _ _ _ (by simp [HNX.out, HNL.out]; omega)]; simp [HNX.out]; omega
          obtain ⟨g, rfl⟩ : ∃ g, q = some ⟨g, 0, none⟩ := by
            rcases HA.out.own.2 with ⟨e0, h0⟩ | ⟨g, cap, cur, e0, _⟩
            · omega
            · simp only [Value.slice.injEq] at e0; exact ⟨g, e0.1⟩
          have b1 : wr.cell? ⟨w.heap.size, 1, none⟩ = some (.int .i64 at_) := blk_cell (HA.out.box.trans (by rw [HO.out])) rfl
          have ho := HA.out.own
          rw [hL] at ho
          obtain ⟨cur, hgr, _, hjc, _, hcl, _⟩ := own_row ho
          have f1 : wr.frozen? ⟨g, at_ + k, none⟩ = false := blk_free hgr
          have f2 : ∃ y, wr.cell? ⟨g, at_ + k, none⟩ = some y := by
            refine ⟨_, blk_cell hgr (by rw [List.getElem?_toArray]; exact List.getElem?_eq_getElem (by omega))⟩
          obtain ⟨y, f2⟩ := f2
          have t3 : at_ + k < j := by omega
          have t1 : IntKind.i64.wrap ((at_ : Int) + (k : Int)) = ((at_ + k : Nat) : Int) := by rw [IntKind.wrap_i64]; omega
          have t2 : IntKind.i64.wrap ((k : Int) + 1) = (k : Int) + 1 := by rw [IntKind.wrap_i64]; omega
          have HS := hideP (HA.out.set hL (at_ + k) x)
          rw [hx9, set_splice _ _ _ _ hkL (by simp [HNX.out, HNL.out]; omega), ← hx9] at HS
          unfold byteV at HS
          clear hgr hcl hkL hx9 hL z1 z2 z3 ho hjc
          try clear HA
          go_wp2
          exact ⟨⟨k + 1, by omega, by go_num, HS⟩, by simp [intOf]; omega⟩
        · have hkl' : ¬ (k : Int) < (nl : Int) := by omega
          have hkn : k = nl := by omega
          subst hkn
          have hfin : Hid (Out w (splice (xs ++ List.replicate (en - nx) 0) at_ l) (.slice q j c) wr ∧ j = (splice (xs ++ List.replicate (en - nx) 0) at_ l).length) := by
            obtain ⟨z1, z2, z3⟩ := HJ.out
            have h1 := HA.out.own
            rw [show l.take k = l from by rw [← HNL.out, List.take_length]] at h1
            refine ⟨⟨row_to h1 (by omega) (fun _ _ _ => rfl), HA.out.below⟩, ?_⟩
            rw [length_splice _ _ _ (by simp [HNX.out, HNL.out]; omega)]; simp [HNX.out]; omega
          clear HA
          go_wp2
          go_ret
          exact ⟨q, j, c, rfl, hfin⟩

set_option maxHeartbeats 1000000 in
set_option maxRecDepth 100000 in
/-- Apply, where the bytes are not cut off. -/
theorem rapply_cut {w : World} {v d : Value} {xs l : List UInt8} {at_ en : Nat} (hv : RdN w v xs) (hd : Rd w d l) (hx : xs.length ≤ 268435456) (hen : at_ + l.length ≤ en) (he : en ≤ 268435456) (hxe : xs.length ≤ en) :
    Calls Try.prog 72 #[v, .agg #[.bool true, .int .i64 at_, .int .i64 en, d]] w fun e w' => ∃ q n c, e = .returned (.slice q n c) ∧ Hid (Out w (splice (xs ++ List.replicate (en - xs.length) 0) at_ l) (.slice q n c) w' ∧ n = (splice (xs ++ List.replicate (en - xs.length) 0) at_ l).length) := by
  obtain ⟨av, cv, rfl, hvc, hvr⟩ := hv.1
  obtain ⟨ad, cd, rfl, hdc, hdr⟩ := hd
  generalize hnl : l.length = nl at *
  generalize hnx : xs.length = nx at *
  obtain ⟨O, hO⟩ : ∃ O : Obj, O = .cells #[.bool true, .int .i64 at_, .int .i64 en, .slice ad nl cd] 114 := ⟨_, rfl⟩
  have hal : Below w.heap.size w (w.alloc O) := (Below.refl _ w).alloc (Nat.le_refl _) O
  have htw := rtwin_any (hv.later hal) (by omega)
  rw [hnx] at htw
  obtain ⟨W0, hW0⟩ : ∃ W0, W0 = w.alloc O := ⟨_, rfl⟩
  have hB0 : W0.heap[w.heap.size]? = some O := by rw [hW0, hO]; exact World.alloc_heap_new w _
  rw [← hW0] at htw hal
  rw [hO] at hW0
  have HI : Hid (Calls Try.prog 49 #[.slice av nx cv] W0 fun e w' => ∃ q c, e = .returned (.slice q nx c) ∧ Hid (AI w O xs (.slice q nx c) w')) := by
    refine htw.mono ?_
    rintro r W1 ⟨q, c, rfl, HO⟩
    have hz : W0.heap.size = w.heap.size + 1 := by rw [hW0]; simp
    refine ⟨q, c, rfl, ?_, (HO.out.2.block _ (by omega)).trans hB0, hal.trans (HO.out.2.mono (by omega))⟩
    have := HO.out.1
    rw [hz] at this
    exact this
  have HW0 := hideP hW0
  have HDR : Hid (∀ wr, Below w.heap.size w wr → ∀ j x, l[j]? = some x → ∃ b, ad = some b ∧ wr.cell? (b.add j) = some (byteV x)) := fun wr hb j x hx => by
    obtain ⟨b, e, hc⟩ := hdr j x hx
    refine ⟨b, e, (hb.cell ?_).trans hc⟩
    rcases Nat.lt_or_ge (b.add j).block w.heap.size with h | h
    · exact h
    · simp [World.cell?, Array.getElem?_eq_none h] at hc
  have HNL := hideP hnl
  have HNX := hideP hnx
  have HO := hideP hO
  have hw0 : w.heap.size < W0.heap.size := (Array.getElem?_eq_some_iff.1 hB0).1
  have s1 : IntKind.i64.wrap ((at_ : Int) + (nl : Int)) = (at_ : Int) + (nl : Int) := by rw [IntKind.wrap_i64]; omega
  have s2 : ¬ (en : Int) < (nx : Int) := by omega
  have HEN := hideP hen
  clear hv hvr hdr htw hal hB0 hO hW0 hvc hnl hnx hw0 hen
  have c0 : W0.cell? ⟨w.heap.size, 0, none⟩ = some (.bool true) := by rw [HW0.out]; simp
  go_enter Try.func72, Try.ntmps72
  go_wp2_with fail
  rw [← HW0.out]
  refine HI.out.mono ?_
  rintro r W1 ⟨q0, c0', rfl, HA⟩
  clear HI c0 HW0
  have hin0 : Hid (AI w O (xs ++ List.replicate (nx - nx) 0) (.slice q0 nx c0') W1) := by rw [Nat.sub_self, List.replicate_zero, List.append_nil]; exact HA.out
  clear HA
  go_wp2
  go_loopw [6] (fun sv wr => ∃ (j : Nat) (q : Option Addr) (c : Nat), nx ≤ j ∧ (j ≤ nx ∨ j ≤ en) ∧ sv = .slice q j c ∧ Hid (AI w O (xs ++ List.replicate (j - nx) 0) (.slice q j c) wr)) (fun sv _ => en - lenV sv)
  case atStart => exact ⟨nx, q0, c0', Nat.le_refl _, .inl (Nat.le_refl _), rfl, hin0⟩
  case round =>
    clear hin0
    obtain ⟨j, q, c, hj1, hj2, rfl, HA⟩ := hrel
    by_cases hj : j < en
    · have hj3 : (j : Int) < (en : Int) := by omega
      obtain ⟨q', c', w7, HR, HB⟩ := HA.out.put (by simp [HNX.out]; omega) (by omega)
      have HB' : Hid (AI w O (xs ++ List.replicate (j + 1 - nx) 0) (.slice q' (j + 1) c') w7) := by
        rw [show j + 1 - nx = (j - nx) + 1 from by omega, List.replicate_succ', ← List.append_assoc]; exact HB.out
      clear HA HB
      go_wp2_with (at_builtin; refine Lib.wpList_append_run _ rfl _ _ 33 33 rfl _ _ rfl rfl _ _ HR.out ?_)
      go_roundw
      case rel => exact ⟨j + 1, q', c', by omega, by omega, rfl, HB'⟩
      case measure => simp [lenV]; omega
    · have hj3 : ¬ (j : Int) < (en : Int) := by omega
      have hjm : j - nx = en - nx := by omega
      have b3 : wr.cell? ⟨w.heap.size, 3, none⟩ = some (.slice ad nl cd) := blk_cell (HA.out.box.trans (by rw [HO.out])) rfl
      have HB : Hid (AI w O (splice (xs ++ List.replicate (en - nx) 0) at_ (l.take 0)) (.slice q j c) wr) := by
        have := HA.out
        rw [hjm] at this
        exact ⟨by simpa [splice] using this.own, this.box, this.below⟩
      have HJ : Hid (at_ + nl ≤ j ∧ nx ≤ j ∧ j = max nx en) := ⟨by have := HEN.out; omega, hj1, by omega⟩
      clear HA hj1 hj2
      go_wp2
      clear b3
      go_loopw [39] (fun i wr => ∃ k : Nat, k ≤ nl ∧ i = .int .i64 k ∧ Hid (AI w O (splice (xs ++ List.replicate (en - nx) 0) at_ (l.take k)) (.slice q j c) wr)) (fun i _ => nl - (intOf i).toNat)
      case atStart => exact ⟨0, Nat.zero_le _, rfl, HB⟩
      case round =>
        clear HB
        obtain ⟨k, hk, rfl, HA⟩ := hrel
        by_cases hkl : k < nl
        · have hkl' : (k : Int) < (nl : Int) := by omega
          have hkL : k < l.length := by rw [HNL.out]; exact hkl
          obtain ⟨b, hb, hc⟩ := HDR.out wr HA.out.below k l[k] (List.getElem?_eq_getElem hkL)
          subst hb
          obtain ⟨x, hx9⟩ : ∃ x, x = l[k] := ⟨_, rfl⟩
          rw [← hx9] at hc
          unfold byteV at hc
          obtain ⟨z1, z2, z3⟩ := HJ.out
          have hL : (splice (xs ++ List.replicate (en - nx) 0) at_ (l.take k)).length = j := by
            rw [length_splice _ _ _ (by simp [HNX.out, HNL.out]; omega)]; simp [HNX.out]; omega
          obtain ⟨g, rfl⟩ : ∃ g, q = some ⟨g, 0, none⟩ := by
            rcases HA.out.own.2 with ⟨e0, h0⟩ | ⟨g, cap, cur, e0, _⟩
            · omega
            · simp only [Value.slice.injEq] at e0; exact ⟨g, e0.1⟩
          have b1 : wr.cell? ⟨w.heap.size, 1, none⟩ = some (.int .i64 at_) := blk_cell (HA.out.box.trans (by rw [HO.out])) rfl
          have ho := HA.out.own
          rw [hL] at ho
          obtain ⟨cur, hgr, _, hjc, _, hcl, _⟩ := own_row ho
          have f1 : wr.frozen? ⟨g, at_ + k, none⟩ = false := blk_free hgr
          have f2 : ∃ y, wr.cell? ⟨g, at_ + k, none⟩ = some y := by
            refine ⟨_, blk_cell hgr (by rw [List.getElem?_toArray]; exact List.getElem?_eq_getElem (by omega))⟩
          obtain ⟨y, f2⟩ := f2
          have t3 : at_ + k < j := by omega
          have t1 : IntKind.i64.wrap ((at_ : Int) + (k : Int)) = ((at_ + k : Nat) : Int) := by rw [IntKind.wrap_i64]; omega
          have t2 : IntKind.i64.wrap ((k : Int) + 1) = (k : Int) + 1 := by rw [IntKind.wrap_i64]; omega
          have HS := hideP (HA.out.set hL (at_ + k) x)
          rw [hx9, set_splice _ _ _ _ hkL (by simp [HNX.out, HNL.out]; omega), ← hx9] at HS
          unfold byteV at HS
          clear hgr hcl hkL hx9 hL z1 z2 z3 ho hjc
          try clear HA
          go_wp2
          exact ⟨⟨k + 1, by omega, by go_num, HS⟩, by simp [intOf]; omega⟩
        · have hkl' : ¬ (k : Int) < (nl : Int) := by omega
          have hkn : k = nl := by omega
          subst hkn
          have hfin : Hid (Out w (splice (xs ++ List.replicate (en - nx) 0) at_ l) (.slice q j c) wr ∧ j = (splice (xs ++ List.replicate (en - nx) 0) at_ l).length) := by
            obtain ⟨z1, z2, z3⟩ := HJ.out
            have h1 := HA.out.own
            rw [show l.take k = l from by rw [← HNL.out, List.take_length]] at h1
            refine ⟨⟨row_to h1 (by omega) (fun _ _ _ => rfl), HA.out.below⟩, ?_⟩
            rw [length_splice _ _ _ (by simp [HNX.out, HNL.out]; omega)]; simp [HNX.out]; omega
          clear HA
          go_wp2
          go_ret
          exact ⟨q, j, c, rfl, hfin⟩

set_option maxHeartbeats 1000000 in
set_option maxRecDepth 100000 in
/-- Apply, where the bytes are cut off. -/
theorem rapply_short {w : World} {v d : Value} {xs : List UInt8} {at_ en nd cd : Nat} {ad : Option Addr} (hv : RdN w v xs) (hx : xs.length ≤ 268435456) (hd : d = .slice ad nd cd) (hen : at_ + nd ≤ 268435456) (hxe : en < xs.length) :
    Calls Try.prog 72 #[v, .agg #[.bool true, .int .i64 at_, .int .i64 en, d]] w fun e w' => ∃ q n c, e = .returned (.slice q n c) ∧ Hid (Out w (xs.take en) (.slice q n c) w' ∧ n = (xs.take en).length) := by
  subst hd
  obtain ⟨⟨av, cv, rfl, hvc, hvr⟩, hn⟩ := hv
  have hv2 : RdN w (.slice av en cv) (xs.take en) := by
    refine ⟨⟨av, cv, by simp; omega, by simp; omega, fun j x hx => hvr j x ?_⟩, fun n c e => hn xs.length c (by cases e; rfl)⟩
    rw [List.getElem?_take] at hx
    split at hx
    · exact hx
    · cases hx
  generalize hnx : xs.length = nx at *
  have hal : Below w.heap.size w (w.alloc (.cells #[.bool true, .int .i64 at_, .int .i64 en, .slice ad nd cd] 114)) := (Below.refl _ w).alloc (Nat.le_refl _) _
  have htw := rtwin_any (hv2.later hal) (by simp; omega)
  have hlen : (xs.take en).length = en := by simp; omega
  rw [hlen] at htw
  have HT : Hid (Calls Try.prog 49 #[.slice av en cv] (w.alloc (.cells #[.bool true, .int .i64 at_, .int .i64 en, .slice ad nd cd] 114)) fun e w' => ∃ q c, e = .returned (.slice q en c) ∧ Hid (Out w (xs.take en) (.slice q en c) w' ∧ en = (xs.take en).length)) := by
    refine htw.mono ?_
    rintro r W1 ⟨q, c, rfl, HO⟩
    have hz : (w.alloc (.cells #[.bool true, .int .i64 at_, .int .i64 en, .slice ad nd cd] 114)).heap.size = w.heap.size + 1 := by simp
    refine ⟨q, c, rfl, ⟨row_to HO.out.1 (by omega) (fun _ _ _ => rfl), hal.trans (HO.out.2.mono (by omega))⟩, hlen.symm⟩
  have s1 : IntKind.i64.wrap ((at_ : Int) + (nd : Int)) = (at_ : Int) + (nd : Int) := by rw [IntKind.wrap_i64]; omega
  have s2 : (en : Int) < (nx : Int) := by omega
  have s3 : en ≤ cv := by omega
  have s4 : (en : Int) ≤ (cv : Int) := by omega
  clear hv2 htw hal hvr hlen hnx hn
  go_enter Try.func72, Try.ntmps72
  go_wp2_with fail
  refine HT.out.mono ?_
  rintro r W1 ⟨q, c, rfl, HO⟩
  clear HT
  go_wp2
  go_ret
  exact ⟨q, en, c, rfl, HO⟩

/-- Apply: a change. -/
theorem rapply_any {w : World} {v d : Value} {xs : List UInt8} {c : Chg} (hv : RdN w v xs) (hx : xs.length ≤ 268435456) (hd : Rd w d (chgL c)) (hc : ChgMay c) :
    Calls Try.prog 72 #[v, .agg (chgC c d).toArray] w fun e w' => ∃ q n k, e = .returned (.slice q n k) ∧ Hid (Out w (applyC c xs) (.slice q n k) w' ∧ n = (applyC c xs).length) := by
  match c with
  | .inl (at_, l) => exact rapply_put (long := 0) hv hd hx rfl hc
  | .inr long =>
    by_cases h : long < xs.length
    · obtain ⟨a, c, e, _⟩ := hd
      have h1 := rapply_short (at_ := 0) hv hx e (by simp [chgL]) h
      have h2 : applyC (.inr long) xs = xs.take long := by simp [applyC, applyT]; omega
      rw [h2]
      exact h1
    · have h1 := rapply_cut (at_ := 0) hv hd hx (by simp [chgL]) hc (by omega)
      have h2 : applyC (.inr long) xs = splice (xs ++ List.replicate (long - xs.length) 0) 0 [] := by
        unfold applyC applyT
        by_cases h3 : xs.length < long
        · simp [h3, splice]
        · have : long = xs.length := by omega
          subst this
          simp [splice]
      rw [h2]
      exact h1

end Go.Proofs.Ytcceaokldphfgaa
