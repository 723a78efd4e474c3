/- YtcceaokldphfgaaDiskRoomUptoC49 -/
import Derived.Test.YtcceaokldphfgaaDiskRoomUptoC48
namespace Go.Proofs.Ytcceaokldphfgaa
open Go.RowKit Go.Shelf

/-- A disk without a crash whose files are within its room. -/
structure InRoom (K : List Int) (R : Int) (a : ASt) : Prop where
  quiet : Quiet K R a
  tot : (totA a.fs : Int) ≤ R

theorem tot_setA {L : List AFile} (hs : SortedA L) {f : AFile} (hf : f ∈ L) (g : AFile → AFile) : totA (setA L f.name g) + f.data.length = totA L + (g f).data.length := by
  obtain ⟨i, hi⟩ := List.getElem?_of_mem hf
  rw [← set_name g hs hi]
  exact sum_set (fun f => f.data.length) L i f (g f) hi

theorem tot_same {L : List AFile} {t : ByteArray} {g : AFile → AFile} (hg : ∀ x, (g x).data = x.data) : totA (setA L t g) = totA L := by
  unfold totA setA
  rw [List.map_map]
  congr 1
  refine List.map_congr_left fun x _ => ?_
  simp only [Function.comp]
  split
  · rw [hg]
  · rfl

theorem tot_filter (p : AFile → Bool) : ∀ L : List AFile, totA (L.filter p) ≤ totA L
  | [] => by simp [totA]
  | x :: L => by
    have := tot_filter p L
    unfold totA at *
    rw [List.filter_cons]
    split <;> simp <;> omega

theorem tot_out {p : AFile → Bool} {f : AFile} (hp : p f = false) : ∀ {L : List AFile}, f ∈ L → totA (L.filter p) + f.data.length ≤ totA L
  | x :: L, h => by
    rw [List.filter_cons]
    rcases List.mem_cons.1 h with rfl | h
    · have := tot_filter p L
      rw [if_neg (by simp [hp])]
      unfold totA at *
      simp
      omega
    · have := tot_out hp h
      unfold totA at *
      split <;> simp <;> omega

theorem tot_split (p : AFile → Bool) : ∀ L : List AFile, totA (L.filter p) + totA (L.filter fun x => !p x) = totA L
  | [] => by simp [totA]
  | x :: L => by
    have := tot_split p L
    unfold totA at *
    rw [List.filter_cons, List.filter_cons]
    cases p x <;> simp <;> omega

theorem tot_ins (L : List AFile) (f : AFile) : totA (insA L f) = totA L + f.data.length := by
  have := tot_split (fun g => decide (cmpS g.name f.name < 0)) L
  unfold insA totA at *
  simp only [List.map_append, List.map_cons, List.sum_append, List.sum_cons]
  omega

theorem chg_room {K : List Int} {R : Int} {a : ASt} (h : InRoom K R a) (hR : 0 < R) (hs : SortedA a.fs) (c : Chg) {f : AFile} (hf : f ∈ a.fs) : InRoom K R (chgA c a f).1 := by
  refine ⟨chg_quiet h.quiet c f, ?_⟩
  unfold chgA
  split
  · exact h.tot
  · rename_i hfl
    have h1 := tot_setA hs hf (changeA c)
    have h2 : (changeA c f).data = applyC c f.data := rfl
    rw [h2] at h1
    have h3 := h.tot
    have h4 := h.quiet.room
    show (totA (setA a.fs f.name (changeA c)) : Int) ≤ R
    simp only [fullA, Bool.or_eq_true, Bool.and_eq_true, decide_eq_true_eq, not_or, not_and, h4] at hfl
    have h5 := hfl.2
    by_cases hm : 0 < ((applyC c f.data).length : Int) - f.data.length
    · have := h5 ⟨hR, hm⟩
      omega
    · omega

theorem on_room {K : List Int} {R : Int} {a : ASt} {t : ByteArray} {k : ASt → AFile → ASt × Int} (h : InRoom K R a) (hs : SortedA a.fs) (hk : ∀ b f, InRoom K R b → SortedA b.fs → f ∈ b.fs → f.name = t → InRoom K R (k b f).1) : InRoom K R (onA a t k).1 := by
  obtain ⟨h1, h2⟩ := begin_quiet h.quiet
  have hb : InRoom K R (beginA a).1 := ⟨h1, by rw [h2]; exact h.tot⟩
  unfold onA
  split
  · exact hb
  · split
    · exact hb
    · rename_i f hf
      obtain ⟨m1, m2⟩ := find_mem hf
      exact hk _ _ hb (by rw [h2]; exact hs) m1 m2

theorem do_room {K : List Int} {R : Int} {a : ASt} (h : InRoom K R a) (hR : 0 < R) (hs : SortedA a.fs) (o : AOp) (h7 : o.kind ≠ 7) : InRoom K R (doA a o).1 := by
  refine ⟨do_quiet h.quiet o h7, ?_⟩
  have hbq := begin_quiet h.quiet
  unfold doA
  split
  · unfold createA
    repeat' split
    all_goals first
      | (rw [hbq.2]; exact h.tot)
      | (show (totA (insA (beginA a).1.fs (newA o.name)) : Int) ≤ R
         rw [tot_ins, hbq.2]
         have := h.tot
         simp only [newA, List.length_nil]
         omega)
  split
  · exact (on_room h hs fun b f hb hsb hf _ => by split <;> first | exact hb | exact chg_room hb hR hsb _ hf).tot
  split
  · exact (on_room h hs fun b f hb hsb hf _ => by repeat' split
                                                  all_goals first | exact hb | exact chg_room hb hR hsb _ hf).tot
  split
  · exact (on_room h hs fun b f hb hsb hf _ => by repeat' split
                                                  all_goals first | exact hb | exact chg_room hb hR hsb _ hf).tot
  split
  · exact (on_room h hs fun b f hb hsb hf _ => ⟨hb.quiet.fs _, by show (totA (setA b.fs f.name syncF) : Int) ≤ R; rw [tot_same (g := syncF) (fun _ => rfl)]; exact hb.tot⟩).tot
  split
  · refine (on_room h hs fun b f hb hsb hf hn => ?_).tot
    repeat' split
    · exact hb
    · exact hb
    · refine ⟨hb.quiet.fs _, ?_⟩
      show (totA (insA (dropA (dropA b.fs o.name) o.to) { f with name := o.to }) : Int) ≤ R
      rw [tot_ins]
      have h1 : totA (dropA b.fs o.name) + f.data.length ≤ totA b.fs := tot_out (by rw [hn, cmp_self]; rfl) hf
      have h2 : totA (dropA (dropA b.fs o.name) o.to) ≤ totA (dropA b.fs o.name) := tot_filter _ _
      have h3 := hb.tot
      show ((totA (dropA (dropA b.fs o.name) o.to) + f.data.length : Nat) : Int) ≤ R
      omega
  split
  · refine (on_room h hs fun b f hb hsb hf hn => ⟨hb.quiet.fs _, ?_⟩).tot
    have h2 : totA (dropA b.fs o.name) ≤ totA b.fs := tot_filter _ _
    have h3 := hb.tot
    show (totA (dropA b.fs o.name) : Int) ≤ R
    omega
  exact h.tot

theorem LivesZ.doesS {Z : ASt → Prop} (hZ : ∀ a o, Z a → SortedA a.fs → o.kind ≠ 7 → Z (doA a o).1) {w wr : World} {D n : Nat} (h : LivesZ Z w wr D n) (hn : n ≤ 1000) {a a1 a2 a3 : Option Addr} {c c1 c2 c3 : Nat} {o : AOp} (hop : OpAt wr a a1 a2 a3 c c1 c2 c3 o) (h7 : o.kind ≠ 7) :
    Calls Try.prog 14 #[.pointer (some ⟨D, 0, none⟩), opV a a1 a2 a3 c c1 c2 c3 o] wr fun r w' => (∃ e, r = .returned (.int .i64 e)) ∧ Hid (LivesZ Z w w' D (n + 1)) := by
  obtain ⟨role, s, h1, h2, h3, h4, h8⟩ := h
  refine (do_D h1 (by omega) h3.dead a a1 a2 a3 c c1 c2 c3 o hop).mono ?_
  rintro r w' ⟨rfl, role', s', g1, g2, g3⟩
  refine ⟨⟨_, rfl⟩, role', s', g1, h2.trans g2, by rw [g3]; exact do_coh h3 o, ?_, by rw [g3]; exact hZ _ o h8 h1.sortedA h7⟩
  have := (do_ops (a := abs s) o h7).2
  rw [← g3] at this
  have h5 : (abs s').ops = s'.ops := rfl
  have h6 : (abs s).ops = s.ops := rfl
  omega

end Go.Proofs.Ytcceaokldphfgaa
