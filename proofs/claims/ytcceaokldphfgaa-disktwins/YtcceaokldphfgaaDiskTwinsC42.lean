/- YtcceaokldphfgaaDiskTwinsC42 -/
import Derived.Test.YtcceaokldphfgaaDiskTwinsC41
namespace Go.Proofs.Ytcceaokldphfgaa
open Go.RowKit Go.Shelf

set_option maxHeartbeats 1000000 in
set_option maxRecDepth 100000 in
/-- A write's clone. -/
theorem wclone_any {w : World} {at_ : Nat} {l : List UInt8} {q : Option Addr} {k : Nat} (hrd : Rd w (.slice q l.length k) l) (hlt : ∀ a, q = some a → l ≠ [] → a.block < w.heap.size) (hl : l.length ≤ 268435456) :
    Calls Try.prog 107 #[.agg #[.int .i64 at_, .slice q l.length k]] w fun r w' => ∃ b, r = .returned (.iface 106 (.agg #[.int .i64 at_, .slice (some ⟨b, 0, none⟩) l.length l.length])) ∧ Hid (w'.ownsRow w.heap.size 5 1 (.slice (some ⟨b, 0, none⟩) l.length l.length) l.length (l.map byteV)) ∧ Below w.heap.size w w' := by
  obtain ⟨W0, hW0⟩ : ∃ W0, W0 = w.alloc (.cells #[.int .i64 at_, .slice q l.length k] 106) := ⟨_, rfl⟩
  have hb0 : Below w.heap.size w W0 := by rw [hW0]; exact (Below.refl _ w).alloc (Nat.le_refl _) _
  have hB0 : W0.heap[w.heap.size]? = some (.cells #[.int .i64 at_, .slice q l.length k] 106 (0, 0)) := by rw [hW0]; exact World.alloc_heap_new w _
  have hrd0 : Rd W0.drew (.slice q l.length k) l := by
    obtain ⟨a, c, e, h1, h2⟩ := hrd
    cases e
    refine ⟨q, k, rfl, h1, fun j x hx => ?_⟩
    obtain ⟨ad, ea, hc⟩ := h2 j x hx
    refine ⟨ad, ea, (hb0.cell (p := ad.add j) ?_).trans hc⟩
    rw [add_block]
    exact hlt ad ea (by intro h0; rw [h0] at hx; simp at hx)
  have hcp : Calls Try.prog 46 #[.slice q l.length k] W0.drew fun r w' => ∃ b, r = .returned (.slice (some ⟨b, 0, none⟩) l.length l.length) ∧ w'.cell? ⟨w.heap.size, 0, none⟩ = some (.int .i64 at_) ∧ Hid (w'.ownsRow w.heap.size 5 1 (.slice (some ⟨b, 0, none⟩) l.length l.length) l.length (l.map byteV) ∧ Below w.heap.size w w') := by
    refine (copyBytes_any _ l W0.drew hrd0 (by omega)).mono ?_
    rintro r w' ⟨rfl, ho, hb⟩
    have hb' : Below W0.heap.size W0 w' := ⟨hb.os, hb.tape, hb.output, hb.size, hb.block⟩
    refine ⟨_, rfl, blk_cell ((hb'.block _ (Array.getElem?_eq_some_iff.1 hB0).1).trans hB0) rfl, row_to ho hb0.size (fun _ _ _ => rfl), hb0.trans (hb'.mono hb0.size)⟩
  have c0 : W0.cell? ⟨w.heap.size, 0, none⟩ = some (.int .i64 at_) := blk_cell hB0 rfl
  have c1 : W0.cell? ⟨w.heap.size, 1, none⟩ = some (.slice q l.length k) := blk_cell hB0 rfl
  have HW0 := hideP hW0
  have HCP := hideP hcp
  clear hrd hlt hb0 hB0 hrd0 hcp hW0
  go_enter Try.func107, Try.ntmps107
  go_wp2
  rw [← HW0.out]
  go_region_with (first | (go_at_call 46; refine HCP.out.mono ?_; rintro r w2 ⟨b, rfl, c2, HF⟩))
  all_goals go_wp2
  all_goals go_ret
  all_goals exact ⟨_, rfl, HF.out.1, HF.out.2⟩

set_option maxHeartbeats 1000000 in
set_option maxRecDepth 100000 in
/-- A cut's clone. -/
theorem cclone_any {w : World} {long : Nat} : Calls Try.prog 111 #[.agg #[.int .i64 long]] w fun r w' => r = .returned (.iface 109 (.agg #[.int .i64 long])) ∧ Below w.heap.size w w' := by
  have hb0 : Hid (∀ o, Below w.heap.size w (w.alloc o)) := fun o => (Below.refl _ w).alloc (Nat.le_refl _) _
  go_enter Try.func111, Try.ntmps111
  go_wp2
  go_ret
  exact ⟨rfl, hb0.out _⟩

theorem nilAhead_wc (x y : Value) (w : World) : (nilAhead 252 106 (.agg #[x, y]) "cairn/disk.clone").run Try.prog w = .ok (some false) w := by kernel_rfl

theorem method_wc (x y : Value) (w : World) : (method 252 106 (.agg #[x, y]) "cairn/disk.clone").run Try.prog w = .ok (107, .agg #[x, y]) w := by kernel_rfl

theorem nilAhead_cc (x : Value) (w : World) : (nilAhead 252 109 (.agg #[x]) "cairn/disk.clone").run Try.prog w = .ok (some false) w := by kernel_rfl

theorem method_cc (x : Value) (w : World) : (method 252 109 (.agg #[x]) "cairn/disk.clone").run Try.prog w = .ok (111, .agg #[x]) w := by kernel_rfl

/-- One change more in a file's row, wherever the file stands. -/
theorem file_app {w : World} {role : Role} {f : FRep} {c : Chg} {cv : Value} (hF : FileOK w role f) (hd : ∀ k q, role k = some q → k < w.heap.size) (hc : ChgAt w role c cv) (hn : f.a.chs.length ≤ 1099511627776) :
    ∃ a n k w2, (Builtin.append_ #[85, 85] 85 #[f.chV, .slice (some ⟨w.heap.size, 0, none⟩) 1 1]).run Try.prog (w.alloc (.cells #[cv] 119)) = .ok (.slice a n k) w2 ∧
      w2.cell? ⟨f.p, 2, none⟩ = some f.chV ∧ w2.frozen? ⟨f.p, 2, none⟩ = false ∧ Grew w w2 f.chV (.slice a n k) ∧
      FileOK (w2.setCell ⟨f.p, 2, none⟩ (.slice a n k)) (extR role w (w2.setCell ⟨f.p, 2, none⟩ (.slice a n k)) (5, f.p)) { f with chV := .slice a n k, a := { f.a with chs := f.a.chs ++ [c] } } := by
  obtain ⟨i0, hi0, hz0, hz1, hz2⟩ := info_parts Try.info119
  obtain ⟨vals, hv, hat⟩ := hF.och
  have hp := hd _ _ hF.rp
  have hcell : (w.alloc (.cells #[cv] 119)).cell? ⟨w.heap.size, 0, none⟩ = some cv := (cell_new cv 119).1
  obtain ⟨v', w2, hrun, hown, hgrew⟩ := app_run (P := Try.prog) (w.alloc (.cells #[cv] 119)) 85 85 119 i0 .nilIface 16 Try.underlying85 hi0 hz0 hz1 hz2 rfl f.chV f.a.chs.length vals (hv.alloc _) ⟨w.heap.size, 0, none⟩ 1 1 [cv] rfl
    (fun j u hu => by
      match j, hu with
      | 0, hu => simp only [List.getElem?_cons_zero, Option.some.injEq] at hu; subst hu; rw [Addr.add_lit]; exact hcell
      | j + 1, hu => simp at hu)
    (fun u hu => by simp at hu; rw [hu]; exact hc.one) (by unfold maxLen; omega) (by omega)
  obtain ⟨a, k, rfl, _⟩ := own_slice hown
  have hg : Grew w w2 f.chV (.slice a (f.a.chs.length + 1) k) := grew_alloc hgrew
  have hx : ∀ (j : Nat) (d : Chg), (f.a.chs ++ [c])[j]? = some d → ∃ u, (vals ++ [cv])[j]? = some u ∧ ChgAt w role d u := by
    intro j d hj
    have hvl : vals.length = f.a.chs.length := by simpa using hv.1
    rcases Nat.lt_or_ge j f.a.chs.length with hlt | hge
    · rw [List.getElem?_append_left hlt] at hj
      obtain ⟨u, hu, hd⟩ := hat j d hj
      exact ⟨u, by rw [List.getElem?_append_left (by omega)]; exact hu, hd⟩
    · rw [List.getElem?_append_right hge] at hj
      have e : j - f.a.chs.length = 0 := by
        rcases Nat.eq_zero_or_pos (j - f.a.chs.length) with h0 | h0
        · exact h0
        · rw [List.getElem?_eq_none (by simp; omega)] at hj; cases hj
      rw [e] at hj
      simp only [List.getElem?_cons_zero, Option.some.injEq] at hj
      subst hj
      exact ⟨cv, by rw [List.getElem?_append_right (by omega), hvl, e]; rfl, hc⟩
  have ho : w2.ownsRow 0 119 1 (.slice a (f.a.chs.length + 1) k) (f.a.chs ++ [c]).length (vals ++ [cv]) := by simpa using hown
  have hbl : w2.heap[f.p]? = some (.cells #[.string f.a.name, f.safeV, f.chV, f.dataV] 87 (0, 0)) := (hg.by_.block _ hp (fun e => by have := hF.rch _ e.symm; rw [hF.rp] at this; cases this)).trans hF.blk
  exact ⟨a, f.a.chs.length + 1, k, w2, hrun, blk_cell hbl rfl, blk_free hbl, hg, (hF.setChs hd hg ho hx).1⟩

end Go.Proofs.Ytcceaokldphfgaa

namespace Go.Proofs.Ytcceaokldphfgaa
open Go.RowKit Go.Shelf

/-- The roles of new memory alone. -/
structure NewR (w W : World) (role : Role) : Prop where
  lo : ∀ k q, role k = some q → w.heap.size ≤ k
  hi : ∀ k q, role k = some q → k < W.heap.size

/-- A file's clone under way: so many changes are there. -/
structure CloneI (w : World) (f : FRep) (p j : Nat) (wr : World) : Prop where
  ex : ∃ role f', FileOK wr role f' ∧ NewR w wr role ∧ f'.p = p ∧ f'.a = { f.a with chs := f.a.chs.take j }
  below : Below w.heap.size w wr

def roleC (w w' : World) (p bs bd : Nat) : Role := fun k => if k < w.heap.size ∨ w'.heap.size ≤ k then none else if k = p then some (2, p) else if k = bs then some (3, p) else if k = bd then some (4, p) else none

/-- The clone as it begins: name, safe bytes, data. -/
theorem clone_begin {w W : World} {f : FRep} {p bs bd : Nat} (hb : Below w.heap.size w W) (hp : W.heap[p]? = some (.cells #[.string f.a.name, .slice (some ⟨bs, 0, none⟩) f.a.safe.length f.a.safe.length, .slice none 0 0, .slice (some ⟨bd, 0, none⟩) f.a.data.length f.a.data.length] 87 (0, 0))) (hpl : w.heap.size ≤ p)
    (hs : W.ownsRow w.heap.size 5 1 (.slice (some ⟨bs, 0, none⟩) f.a.safe.length f.a.safe.length) f.a.safe.length (f.a.safe.map byteV)) (hd : W.ownsRow w.heap.size 5 1 (.slice (some ⟨bd, 0, none⟩) f.a.data.length f.a.data.length) f.a.data.length (f.a.data.map byteV)) (hne : bs ≠ bd)
    (ls : f.a.safe.length ≤ 268435456) (ld : f.a.data.length ≤ 268435456) : CloneI w f p 0 W := by
  have hs1 := hs.lt bs rfl
  have hd1 := hd.lt bd rfl
  have hplt := (Array.getElem?_eq_some_iff.1 hp).1
  have hps : p ≠ bs := fun e => by
    obtain ⟨cur, hg, _⟩ := own_block hs rfl
    rw [← e, hp] at hg
    simp at hg
  have hpd : p ≠ bd := fun e => by
    obtain ⟨cur, hg, _⟩ := own_block hd rfl
    rw [← e, hp] at hg
    simp at hg
  refine ⟨⟨roleC w W p bs bd, { p := p, safeV := .slice (some ⟨bs, 0, none⟩) f.a.safe.length f.a.safe.length, chV := .slice none 0 0, dataV := .slice (some ⟨bd, 0, none⟩) f.a.data.length f.a.data.length, a := { f.a with chs := f.a.chs.take 0 } }, ?_, ⟨fun k q e => ?_, fun k q e => ?_⟩, rfl, rfl⟩, hb⟩
  · exact {
      rp := by show roleC w W p bs bd p = _; unfold roleC; rw [if_neg (by omega), if_pos rfl]
      blk := hp
      osafe := own_zero hs
      rsafe := fun g e => by
        simp only [Value.ownBlock, Option.some.injEq] at e
        subst e
        show roleC w W p bs bd bs = _
        unfold roleC
        rw [if_neg (by omega), if_neg (fun e => hps e.symm), if_pos rfl]
      odata := own_zero hd
      rdata := fun g e => by
        simp only [Value.ownBlock, Option.some.injEq] at e
        subst e
        show roleC w W p bs bd bd = _
        unfold roleC
        rw [if_neg (by omega), if_neg (fun e => hpd e.symm), if_neg (fun e => hne e.symm), if_pos rfl]
      och := ⟨[], by simpa using World.ownsRow_nil W 0 119 1, fun j c hj => by simp at hj⟩
      rch := fun g e => by simp [Value.ownBlock] at e
      lsafe := ls
      ldata := ld }
  · unfold roleC at e
    split at e
    · cases e
    · omega
  · unfold roleC at e
    split at e
    · cases e
    · omega

/-- One change more. -/
theorem clone_next {w wr w2 w4 : World} {f : FRep} {p j : Nat} {role : Role} {f' : FRep} {c : Chg} {a0 : Value} (hb : Below w.heap.size w wr) (hb2 : Below wr.heap.size wr w2) (hF : FileOK wr role f') (hN : NewR w wr role) (hp : f'.p = p) (ha : f'.a = { f.a with chs := f.a.chs.take j }) (hc : f.a.chs[j]? = some c)
    (hg : Grew w2 w4 f'.chV a0) (hF4 : FileOK (w4.setCell ⟨f'.p, 2, none⟩ a0) (extR (extR role wr w2 (6, 0)) w2 (w4.setCell ⟨f'.p, 2, none⟩ a0) (5, f'.p)) { f' with chV := a0, a := { f'.a with chs := f'.a.chs ++ [c] } }) : CloneI w f p (j + 1) (w4.setCell ⟨f'.p, 2, none⟩ a0) := by
  have hz : (w4.setCell ⟨f'.p, 2, none⟩ a0).heap.size = w4.heap.size := by simp [World.setCell]
  have hbz := hb.size
  have hb2z := hb2.size
  have hgz := hg.by_.size
  have hpl : w.heap.size ≤ f'.p := hN.lo _ _ hF.rp
  refine ⟨⟨_, _, hF4, ⟨fun k q e => ?_, fun k q e => ?_⟩, hp, ?_⟩, ?_⟩
  · unfold extR at e
    split at e
    · split at e
      · exact hN.lo k q e
      · omega
    · omega
  · unfold extR at e
    split at e
    · rw [hz]; omega
    · split at e
      · assumption
      · cases e
  · have hlt := (List.getElem?_eq_some_iff.1 hc).1
    have hcc := (List.getElem?_eq_some_iff.1 hc).2
    simp only [ha]
    rw [List.take_succ_eq_append_getElem hlt, hcc]
  · have h1 : Below w.heap.size w w2 := hb.trans (hb2.mono hb.size)
    have h2 : Below w.heap.size w w4 := h1.grown hg.by_ h1.size (fun k e => by
      have := hN.lo k _ (hF.rch k e)
      omega)
    exact h2.setCell (p := ⟨f'.p, 2, none⟩) hpl _

end Go.Proofs.Ytcceaokldphfgaa
