/- YtcceaokldphfgaaDiskDoesC36 -/
import Derived.Test.YtcceaokldphfgaaDiskDoesC35
namespace Go.Proofs.Ytcceaokldphfgaa
open Go.RowKit Go.Shelf

/-- Few files, few changes, and few numbers in the plan. -/
structure FewA (n : Nat) (a : ASt) : Prop where
  files : a.fs.length ≤ n
  chs : ∀ f ∈ a.fs, f.chs.length ≤ n
  ops : 0 ≤ a.ops ∧ a.ops ≤ n
  keep : a.keep.length ≤ 140737488355328
  fail : a.fail.length ≤ 140737488355328
  full : a.full.length ≤ 140737488355328

theorem FewA.mono {n m : Nat} {a : ASt} (h : FewA n a) (hm : n ≤ m) : FewA m a :=
  ⟨Nat.le_trans h.files hm, fun f hf => Nat.le_trans (h.chs f hf) hm, ⟨h.ops.1, by have := h.ops.2; omega⟩, h.keep, h.fail, h.full⟩

theorem DocOK.few {w : World} {role : DRole} {M n : Nat} {a : ASt} {rs : List DRep} {fv kv lv uv : Value} (h : DocOK w role M a rs fv kv lv uv) (hf : FewA n a) (hn : n ≤ 1000) : FewD rs := by
  refine ⟨?_, fun r hr => ?_⟩
  · have := hf.files
    rw [h.fs, List.length_map] at this
    omega
  · have := hf.chs r.a (by rw [h.fs]; exact List.mem_map_of_mem hr)
    omega

/-- A cell of the disk itself is written. -/
theorem DocOK.cell {w : World} {role : DRole} {M : Nat} {a a' : ASt} {rs : List DRep} {fv kv lv uv : Value} (h : DocOK w role M a rs fv kv lv uv) (o : Nat) (v : Value) (hs : (docC a fv kv lv uv).setIfInBounds o v = docC a' fv kv lv uv) (hfs : a'.fs = a.fs) (hk : a'.keep = a.keep) (hf : a'.fail = a.fail) (hu : a'.full = a.full) (hc : a'.crash = a.crash) (hr : a'.room = a.room) :
    DocOK (w.setCell ⟨M, o, none⟩ v) role M a' rs fv kv lv uv ∧ DStp role role w (w.setCell ⟨M, o, none⟩ v) := by
  have hM1 := h.roleM
  have hne : ∀ k, role k ≠ 1 → (w.setCell ⟨M, o, none⟩ v).heap[k]? = w.heap[k]? := fun k h9 => Below.heap_setCell _ _ _ k (fun e => h9 (by rw [show k = M from e]; exact hM1))
  have hs2 := blk_set (o := o) h.str v
  have h44 : ∀ k, role k = 4 → k < w.heap.size → (w.setCell ⟨M, o, none⟩ v).heap[k]? = w.heap[k]? ∧ role k = 4 := fun k e _ => ⟨hne k (by omega), e⟩
  refine ⟨⟨?_, hM1, h.one, by rw [hfs]; exact h.fs, own_keep h.row (fun k e => hne k (by rw [h.rowR k e]; omega)), h.rowR, fun r2 hr2 => (h.files r2 hr2).kept h44 (fun k e => ⟨hne k (by rw [(h.files r2 hr2).rowR k e]; omega), (h.files r2 hr2).rowR k e⟩), h.apart, by rw [hk]; exact h.kK.kept h44, by rw [hf]; exact h.kF.kept h44, by rw [hu]; exact h.kU.kept h44, fun k h9 => by simpa [World.setCell] using h.dom k h9, by rw [hc]; exact h.iC, by rw [hr]; exact h.iR⟩, rfl, rfl, rfl, by simp [World.setCell], fun _ _ => rfl, fun k _ h9 => hne k (by omega)⟩
  rw [hs2, ← hs]

set_option maxHeartbeats 1000000 in
set_option maxRecDepth 100000 in
theorem rbegin_any {w : World} {role : DRole} {M n : Nat} {a : ASt} {rs : List DRep} {fv kv lv uv : Value} (h : DocOK w role M a rs fv kv lv uv) (hf : FewA n a) (hn : n ≤ 999) :
    Calls Try.prog 65 #[.pointer (some ⟨M, 0, none⟩)] w fun e w' => e = .returned (.int .i64 (beginA a).2) ∧ Hid (DocTo w role M (beginA a).1 kv lv uv w') := by
  have m7 : w.cell? ⟨M, 7, none⟩ = some (.bool a.dead) := blk_cell (o := 7) h.str rfl
  have m6 : w.cell? ⟨M, 6, none⟩ = some (.int .i64 a.ops) := blk_cell (o := 6) h.str rfl
  have f6 : w.frozen? ⟨M, 6, none⟩ = false := blk_free h.str
  cases hd : a.dead with
  | true =>
    have e : beginA a = (a, 10) := by unfold beginA; rw [if_pos hd]
    rw [e]
    rw [hd] at m7
    have HF : Hid (DocTo w role M a kv lv uv w) := ⟨role, rs, fv, h, .refl⟩
    clear h hf e hd
    go_enter Try.func65, Try.ntmps65
    go_wp2
    go_ret
    exact ⟨rfl, HF⟩
  | false =>
    have hb := h.cell 6 (.int .i64 (a.ops + 1)) (a' := bumpA a) rfl rfl rfl rfl rfl rfl rfl
    obtain ⟨W, hW⟩ : ∃ W, W = w.setCell ⟨M, 6, none⟩ (.int .i64 (a.ops + 1)) := ⟨_, rfl⟩
    rw [← hW] at hb
    obtain ⟨hb1, hb2⟩ := hb
    rw [hd] at m7
    have ho := hf.ops
    have t1 : IntKind.i64.wrap (a.ops + 1) = a.ops + 1 := by rw [IntKind.wrap_i64]; omega
    have n6 : W.cell? ⟨M, 6, none⟩ = some (.int .i64 (a.ops + 1)) := blk_cell (o := 6) hb1.str rfl
    have n0 : W.cell? ⟨M, 0, none⟩ = some (.int .i64 a.crash) := blk_cell (o := 0) hb1.str rfl
    have n2 : W.cell? ⟨M, 2, none⟩ = some lv := blk_cell (o := 2) hb1.str rfl
    have HW := hideP hW
    by_cases hc : a.ops + 1 = a.crash
    · have e : beginA a = (dieS (bumpA a), 10) := by unfold beginA; rw [if_neg (by rw [hd]; decide), if_pos hc]
      rw [e]
      have hdie := fun nq => rdie_any (hb1.still (below_drewN (Below.refl _ W) nq)) (h.few hf (by omega)) hf.keep
      have HF : Hid (∀ nq w', DocTo (W.drewN nq) role M { bumpA a with fs := dieAll a.keep 0 a.fs, dead := true } kv lv uv w' → DocTo w role M (dieS (bumpA a)) kv lv uv w') := fun nq w' ⟨role', rs', fv', g1, g2⟩ => ⟨role', rs', fv', g1, (hb2.trans (DStp.still (below_drewN (Below.refl _ W) nq))).trans g2⟩
      have he : (a.ops + 1 == a.crash) = true := by simpa using hc
      rw [← hc] at n0
      have hee : (a.ops + 1 == a.ops + 1) = true := by simp
      have HDIE := hideP hdie
      clear h hf e hb1 hb2 hW hdie hc he
      go_enter Try.func65, Try.ntmps65
      go_wp2_with fail
      rw [← HW.out]
      go_quiet (fail)
      go_wp2_with fail
      refine (HDIE.out _).mono ?_
      rintro e9 w9 ⟨rfl, HT⟩
      have HF9 := hideP (HF.out _ _ HT.out)
      clear HDIE HF HT
      go_wp2
      go_ret
      exact ⟨rfl, HF9⟩
    · have he : (a.ops + 1 == a.crash) = false := by simpa using hc
      have hcon := fun nq nq' => (hb1.still (below_drewN (Below.refl _ W) nq)).kF.hasQ (a.ops + 1) hf.fail nq'
      obtain ⟨q3, n3, c3, e3⟩ := hb1.kF.shape
      subst e3
      have HF : Hid (∀ nq, DocTo w role M (bumpA a) kv (.slice q3 n3 c3) uv (W.drewN nq)) := fun nq => ⟨role, rs, fv, hb1.still (below_drewN (Below.refl _ W) nq), hb2.trans (DStp.still (below_drewN (Below.refl _ W) nq))⟩
      by_cases hin : a.ops + 1 ∈ a.fail
      · have e : beginA a = (bumpA a, 11) := by unfold beginA; rw [if_neg (by rw [hd]; decide), if_neg hc, if_pos hin]
        rw [e]
        have hdd : decide (a.ops + 1 ∈ (bumpA a).fail) = true := decide_eq_true (show a.ops + 1 ∈ a.fail from hin)
        rw [hdd] at hcon
        clear h hf e hb1 hb2 hW hc hin hdd
        go_enter Try.func65, Try.ntmps65
        go_wp2_with fail
        rw [← HW.out]
        go_quiet (fail)
        have o6 : (W.drewN nq).cell? ⟨M, 6, none⟩ = some (.int .i64 (a.ops + 1)) := n6
        have o2 : (W.drewN nq).cell? ⟨M, 2, none⟩ = some (.slice q3 n3 c3) := n2
        have hcon2 := hcon nq
        have HF2 : Hid (∀ m, DocTo w role M (bumpA a) kv (.slice q3 n3 c3) uv ((W.drewN nq).drewN m)) := fun m => by
          obtain ⟨role', rs', fv', g1, g2⟩ := HF.out nq
          exact ⟨role', rs', fv', g1.still (below_drewN (Below.refl _ _) m), g2.trans (DStp.still (below_drewN (Below.refl _ _) m))⟩
        clear hcon HF n6 n2 HW n0
        generalize W.drewN nq = V at *
        go_wp2_with fail
        go_quiet ((go_at_call 80; exact Calls.quiet_of_same (hcon2 _)))
        go_wp2
        go_ret
        exact ⟨rfl, HF2.out _⟩
      · have e : beginA a = (bumpA a, 0) := by unfold beginA; rw [if_neg (by rw [hd]; decide), if_neg hc, if_neg hin]
        rw [e]
        have hdd : decide (a.ops + 1 ∈ (bumpA a).fail) = false := decide_eq_false (show ¬ a.ops + 1 ∈ a.fail from hin)
        rw [hdd] at hcon
        clear h hf e hb1 hb2 hW hc hin hdd
        go_enter Try.func65, Try.ntmps65
        go_wp2_with fail
        rw [← HW.out]
        go_quiet (fail)
        have o6 : (W.drewN nq).cell? ⟨M, 6, none⟩ = some (.int .i64 (a.ops + 1)) := n6
        have o2 : (W.drewN nq).cell? ⟨M, 2, none⟩ = some (.slice q3 n3 c3) := n2
        have hcon2 := hcon nq
        have HF2 : Hid (∀ m, DocTo w role M (bumpA a) kv (.slice q3 n3 c3) uv ((W.drewN nq).drewN m)) := fun m => by
          obtain ⟨role', rs', fv', g1, g2⟩ := HF.out nq
          exact ⟨role', rs', fv', g1.still (below_drewN (Below.refl _ _) m), g2.trans (DStp.still (below_drewN (Below.refl _ _) m))⟩
        clear hcon HF n6 n2 HW n0
        generalize W.drewN nq = V at *
        go_wp2_with fail
        go_quiet ((go_at_call 80; exact Calls.quiet_of_same (hcon2 _)))
        go_wp2
        go_ret
        exact ⟨rfl, HF2.out _⟩

end Go.Proofs.Ytcceaokldphfgaa
