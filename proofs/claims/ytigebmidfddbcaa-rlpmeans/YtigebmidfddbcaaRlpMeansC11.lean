/-
  Regions that draw their order, of which one operation comes last: what the loads ahead of it want need not hold behind it.
-/
import Derived.Deep.RegionHeld
import Derived.Test.YtigebmidfddbcaaRlpMeansC10
namespace Go.Proofs.Ytigebmidfddbcaa
open Go.RowKit Go.Shelf

section
variable {P : Program} {md : Region.Mode} {ops : Array Oper} {Q : Exit → Act → World → Prop} {S : World → Prop} {Z : List Nat}

/-- Whatever order is drawn; S holds behind every operation but the late ones. -/
def wpAnyZ (P : Program) (md : Region.Mode) (ops : Array Oper) (Q : Exit → Act → World → Prop) (S : World → Prop) (Z : List Nat) : Nat → Array Bool → Act → World → Prop
  | 0, listed, a, w => Region.ready md ops listed = [] ∧ Q .normal a w
  | f + 1, listed, a, w => (Region.ready md ops listed = [] → Q .normal a w) ∧ ∀ i ∈ Region.ready md ops listed, wpOp P ops Q i (fun a' w' => (i ∉ Z → S w') ∧ wpAnyZ P md ops Q S Z f (listed.setIfInBounds i true) a' w') a w

theorem anyZ_any : ∀ (f : Nat) (listed : Array Bool) (a : Act) (w : World), wpAnyZ P md ops Q S Z f listed a w → wpAny P md ops Q f listed a w
  | 0, _, _, _, h => h
  | f + 1, _, _, _, h => ⟨h.1, fun i hi => wpOp_mono (fun a' w' h' => anyZ_any f _ a' w' h'.2) (h.2 i hi)⟩

/-- Operation z waits for operation i, at once or by way of others. -/
def waitsFor (md : Region.Mode) (ops : Array Oper) : Nat → Nat → Nat → Bool
  | 0, _, _ => false
  | f + 1, z, i => match ops[z]? with
    | some o => o.after.any fun e => Region.binds md e && (e.on == i || waitsFor md ops f e.on i)
    | none => false

/-- What is listed has all listed that it waits for. -/
def Closed (md : Region.Mode) (ops : Array Oper) (listed : Array Bool) : Prop :=
  ∀ j oj, ops[j]? = some oj → listed.getD j false = true → ∀ e ∈ oj.after, Region.binds md e = true → listed.getD e.on false = true

def closedB (md : Region.Mode) (ops : Array Oper) (listed : Array Bool) : Bool :=
  (List.range ops.size).all fun j => !listed.getD j false || (match ops[j]? with | some o => o.after.all fun e => !Region.binds md e || listed.getD e.on false | none => true)

theorem closed_of {listed : Array Bool} (h : closedB md ops listed = true) : Closed md ops listed := by
  intro j oj hj hl e he hb
  unfold closedB at h
  rw [List.all_eq_true] at h
  have h1 := h j (List.mem_range.2 (Array.getElem?_eq_some_iff.1 hj).1)
  rw [hj, hl] at h1
  simp only [Bool.not_true, Bool.false_or, Array.all_eq_true] at h1
  obtain ⟨k, hk, rfl⟩ := Array.mem_iff_getElem.1 he
  have h2 := h1 k hk
  rw [hb] at h2
  simpa using h2

theorem Closed.waits {listed : Array Bool} (hc : Closed md ops listed) {i : Nat} : ∀ (f z : Nat) (oz : Oper), ops[z]? = some oz → (∀ e ∈ oz.after, Region.binds md e = true → listed.getD e.on false = true) → waitsFor md ops f z i = true → listed.getD i false = true
  | 0, _, _, _, _, h => by cases h
  | f + 1, z, oz, hz, hl, h => by
    unfold waitsFor at h
    rw [hz] at h
    simp only [Array.any_eq_true, Bool.and_eq_true, Bool.or_eq_true, beq_iff_eq] at h
    obtain ⟨k, hk, hb, he | he⟩ := h
    · rw [← he]; exact hl _ (Array.getElem_mem hk) hb
    · cases ho : ops[oz.after[k].on]? with
      | none =>
        cases f with
        | zero => cases he
        | succ f => unfold waitsFor at he; rw [ho] at he; cases he
      | some o => exact hc.waits f _ o ho (hc _ _ ho (hl _ (Array.getElem_mem hk) hb)) he

theorem Closed.set {listed : Array Bool} (hc : Closed md ops listed) {j : Nat} {oj : Oper} (hj : ops[j]? = some oj) (hl : ∀ e ∈ oj.after, Region.binds md e = true → listed.getD e.on false = true) : Closed md ops (listed.setIfInBounds j true) := by
  have up : ∀ k, listed.getD k false = true → (listed.setIfInBounds j true).getD k false = true := fun k hk => by
    rcases Decidable.em (j = k) with rfl | hne
    · have hlt : j < listed.size := by
        rcases Nat.lt_or_ge j listed.size with h | h
        · exact h
        · simp [Array.getElem?_eq_none h] at hk
      simp [hlt]
    · rwa [getD_set_ne false hne]
  intro k ok hk hkl e he hb
  refine up _ ?_
  rcases Decidable.em (j = k) with rfl | hne
  · rw [hj] at hk
    cases hk
    exact hl e he hb
  · rw [getD_set_ne false hne] at hkl
    exact hc k ok hk hkl e he hb

theorem anyZ_first {i : Nat} {oi : Oper} {v : Value} (hi : ops[i]? = some oi) (hsel : ∀ (j : Nat) (o : Oper) cs b, ops[j]? = some o → o.op ≠ .select cs b)
    (hQ : ∀ c a w, Q (.panic c) (a.put oi.dst v) w → Q (.panic c) a w) {T : World → Prop} (hT : (i ∈ Z ∧ ∀ w, T w) ∨ ((∀ w, S w → T w) ∧ ∃ g, ∀ z ∈ Z, waitsFor md ops g z i = true)) :
    ∀ (f : Nat) (listed : Array Bool) (a : Act) (w : World), Closed md ops listed →
      (∀ j oj, ops[j]? = some oj → j ≠ i → listed.getD j true = false → (∀ e ∈ oj.after, Region.binds md e = true → e.on ≠ i) → oi.apart ops oj = true) →
      i ∈ Region.ready md ops listed → YieldsIf P ops T oi v a → T w → (i ∉ Z → S w) →
      wpAnyZ P md ops Q S Z f (listed.setIfInBounds i true) (a.put oi.dst v) w → wpAnyZ P md ops Q S Z (f + 1) listed a w := by
  intro f
  induction f with
  | zero =>
    intro listed a w _ _ hr hy hTw hS H
    refine ⟨fun h0 => absurd hr (by rw [h0]; simp), fun j hj => ?_⟩
    rcases Decidable.em (j = i) with rfl | hne
    · exact hy.wpOp hi hTw ⟨hS, H⟩
    · exact absurd (ready_mono hj hne) (by rw [H.1]; simp)
  | succ f ih =>
    intro listed a w hcl hfree hr hy hTw hS H
    refine ⟨fun h0 => absurd hr (by rw [h0]; simp), fun j hj => ?_⟩
    rcases Decidable.em (j = i) with rfl | hne
    · exact hy.wpOp hi hTw ⟨hS, H⟩
    · obtain ⟨hun, oj, hoj, hall⟩ := mem_ready.1 hj
      have hnot : ∀ e ∈ oj.after, Region.binds md e = true → e.on ≠ i := fun e he hb heq => by
        have t := hall e he hb
        have t0 := (mem_ready.1 hr).1
        rw [heq] at t
        rcases Nat.lt_or_ge i listed.size with h' | h'
        · simp [h'] at t0 t; rw [t0] at t; cases t
        · simp [Array.getElem?_eq_none h'] at t
      have hTj : ∀ w', (j ∉ Z → S w') → T w' ∧ (i ∉ Z → S w') := fun w' hs => by
        rcases hT with ⟨hiZ, h⟩ | ⟨h, g, hz⟩
        · exact ⟨h w', fun hn => absurd hiZ hn⟩
        · have hS' : S w' := hs fun hjZ => by
            have t := hcl.waits g j oj hoj (fun e he hb => by simpa using hall e he hb) (hz j hjZ)
            have t0 := (mem_ready.1 hr).1
            rcases Nat.lt_or_ge i listed.size with h' | h'
            · simp [h'] at t0 t; rw [t0] at t; cases t
            · simp [Array.getElem?_eq_none h'] at t
          exact ⟨h w' hS', fun _ => hS'⟩
      have hfree' : ∀ k ok, ops[k]? = some ok → k ≠ i → (listed.setIfInBounds j true).getD k true = false →
          (∀ e ∈ ok.after, Region.binds md e = true → e.on ≠ i) → oi.apart ops ok = true := fun k ok hk hki hun' hno => by
        refine hfree k ok hk hki ?_ hno
        rcases Decidable.em (j = k) with rfl | hjk
        · exact hun
        · rwa [getD_set_ne true hjk] at hun'
      refine wpOp_mono (fun a' w' h3 => ⟨h3.2.1, ih _ a' w' (hcl.set hoj (fun e he hb => by simpa using hall e he hb)) hfree' (ready_mono hr (Ne.symm hne)) h3.1 (hTj w' h3.2.1).1 (hTj w' h3.2.1).2 ?_⟩)
        (wpOp_putIf hoj (hfree j oj hoj hne hun hnot) (fun cs b => hsel i oi cs b hi) (fun cs b => hsel j oj cs b hoj) hQ hy (H.2 j (ready_mono hj hne)))
      rw [Array.setIfInBounds_comm _ _ hne]
      exact h3.2.2

/-- All late operations wait for operation i. -/
def allWait (md : Region.Mode) (ops : Array Oper) (g : Nat) (Z : List Nat) (i : Nat) : Bool := Z.all fun z => waitsFor md ops g z i

theorem anyZ_take {l : List Oper} {i : Nat} {oi : Oper} {v : Value} {f : Nat} {listed : Array Bool} {a : Act} {w : World} (hi : l[i]? = some oi)
    (hs : Region.noSelect l.toArray = true) (hf : Region.free md l.toArray listed i = true) (hr : (Region.ready md l.toArray listed).contains i = true) {g : Nat} (hz : allWait md l.toArray g Z i = true) (hc : closedB md l.toArray listed = true)
    (hQ : ∀ c a w, Q (.panic c) (a.put oi.dst v) w → Q (.panic c) a w) (hy : YieldsIf P l.toArray S oi v a) (hS : S w)
    (h : wpAnyZ P md l.toArray Q S Z f (listed.setIfInBounds i true) (a.put oi.dst v) w) : wpAnyZ P md l.toArray Q S Z (f + 1) listed a w :=
  anyZ_first (by simpa using hi) (Region.noSelect_spec hs) hQ (.inr ⟨fun _ h => h, g, by unfold allWait at hz; simpa using hz⟩) f listed a w (closed_of hc) (Region.free_spec (by simpa using hi) hf) (by simpa using hr) hy hS (fun _ => hS) h

/-- A late operation that yields its value in whatever world. -/
theorem anyZ_take0 {l : List Oper} {i : Nat} {oi : Oper} {v : Value} {f : Nat} {listed : Array Bool} {a : Act} {w : World} (hi : l[i]? = some oi)
    (hs : Region.noSelect l.toArray = true) (hf : Region.free md l.toArray listed i = true) (hr : (Region.ready md l.toArray listed).contains i = true) (hz : Z.contains i = true) (hc : closedB md l.toArray listed = true)
    (hQ : ∀ c a w, Q (.panic c) (a.put oi.dst v) w → Q (.panic c) a w) (hy : YieldsIf P l.toArray (fun _ => True) oi v a)
    (h : wpAnyZ P md l.toArray Q S Z f (listed.setIfInBounds i true) (a.put oi.dst v) w) : wpAnyZ P md l.toArray Q S Z (f + 1) listed a w :=
  anyZ_first (by simpa using hi) (Region.noSelect_spec hs) hQ (.inl ⟨by simpa using hz, fun _ => trivial⟩) f listed a w (closed_of hc) (Region.free_spec (by simpa using hi) hf) (by simpa using hr) hy trivial (fun hn => absurd (by simpa using hz) hn) h

theorem anyZ_two {i j : Nat} {o o' : Oper} {f : Nat} {listed : Array Bool} {a : Act} {w : World} (hr : Region.ready md ops listed = [i, j]) (ho : ops[i]? = some o) (ho' : ops[j]? = some o')
    (h : ∀ K : Act → World → Prop, Shut (∀ a w, (i ∉ Z → S w) → wpAnyZ P md ops Q S Z f (listed.setIfInBounds i true) a w → K a w) → if Region.wanted o (yielded ops a.tmps) = true then Oper.wp P o a w K Q else K (a.put o.dst undef) w)
    (h' : ∀ K : Act → World → Prop, Shut (∀ a w, (j ∉ Z → S w) → wpAnyZ P md ops Q S Z f (listed.setIfInBounds j true) a w → K a w) → if Region.wanted o' (yielded ops a.tmps) = true then Oper.wp P o' a w K Q else K (a.put o'.dst undef) w) :
    wpAnyZ P md ops Q S Z (f + 1) listed a w :=
  ⟨fun h0 => absurd (hr ▸ h0) (by simp), fun k hk => by
    rw [hr] at hk
    simp only [List.mem_cons, List.not_mem_nil, or_false] at hk
    rcases hk with rfl | rfl
    · exact wpOp_step ho (fun K hK => h K (fun a w hS hW => hK a w ⟨hS, hW⟩))
    · exact wpOp_step ho' (fun K hK => h' K (fun a w hS hW => hK a w ⟨hS, hW⟩))⟩

theorem anyZ_one {i : Nat} {o : Oper} {f : Nat} {listed : Array Bool} {a : Act} {w : World} (hr : Region.ready md ops listed = [i]) (ho : ops[i]? = some o)
    (h : ∀ K : Act → World → Prop, Shut (∀ a w, (i ∉ Z → S w) → wpAnyZ P md ops Q S Z f (listed.setIfInBounds i true) a w → K a w) → if Region.wanted o (yielded ops a.tmps) = true then Oper.wp P o a w K Q else K (a.put o.dst undef) w) :
    wpAnyZ P md ops Q S Z (f + 1) listed a w :=
  ⟨fun h0 => absurd (hr ▸ h0) (by simp), fun j hj => by
    rw [hr] at hj
    obtain rfl : j = i := by simpa using hj
    exact wpOp_step ho (fun K hK => h K (fun a w hS hW => hK a w ⟨hS, hW⟩))⟩

theorem anyZ_done {listed : Array Bool} {a : Act} {w : World} (hr : Region.ready md ops listed = []) (h : Q .normal a w) : ∀ f, wpAnyZ P md ops Q S Z f listed a w
  | 0 => ⟨hr, h⟩
  | _ + 1 => ⟨fun _ => h, by rw [hr]; simp⟩

theorem region_late {id : Nat} {a : Act} {w : World} (Z : List Nat) (S : World → Prop) (hm : P.follows .mixedOrders = true) (hS : S w.drew)
    (h : S w.drew → wpAnyZ P .any ops Q S Z ops.size (Array.replicate ops.size false) a w.drew) : (Code.region id ops true).wp P Q a w :=
  wp_region_any hm (anyZ_any _ _ _ _ (h hS))

/-- The same where nothing goes wrong. -/
theorem region_lateK {id : Nat} {a : Act} {w : World} {K : Act → World → Prop} (Z : List Nat) (S : World → Prop) (hm : P.follows .mixedOrders = true) (hS : S w.drew)
    (h : S w.drew → wpAnyZ P .any ops (Exit.then K (fun _ _ _ => False)) S Z ops.size (Array.replicate ops.size false) a w.drew) : (Code.region id ops true).wp P (Exit.then K Q) a w :=
  wp_mono (region_late Z S hm hS h) (fun e a w hq => by cases e <;> first | exact hq | exact False.elim hq)

theorem region_lateQ {id : Nat} {a : Act} {w : World} (Z : List Nat) (S : World → Prop) (hm : P.follows .mixedOrders = true) (hS : S w.drew)
    (h : S w.drew → wpAnyZ P .any ops (Exit.then (Q .normal) (fun _ _ _ => False)) S Z ops.size (Array.replicate ops.size false) a w.drew) : (Code.region id ops true).wp P Q a w :=
  wp_mono (region_late Z S hm hS h) (fun e a w hq => by cases e <;> first | exact hq | exact False.elim hq)

end

/-- What an operation does in a round of a loop over a function, at the wide fence, is what it does elsewhere. -/
theorem upon_in {P : Program} {o : Oper} {a : Act} {next next' : Act → World → Prop} {Q : Exit → Act → World → Prop} {l n : Nat} (hn : ∀ a w, next a w → next' a w) (r : Result Next) (h : o.upon P a next Q r) :
    o.uponIn (Fence.wide.inRound l) n P a next' Q r := by
  cases r with
  | ok x w' =>
    cases x with
    | value v => exact hn _ _ h
    | skip => exact hn _ _ h
    | defer d => exact hn _ _ h
    | enter f args =>
      refine ⟨fun e => by simp [Fence.inRound, Fence.wide] at e, CallsIn.inRound l (callsIn_wide.2 (Calls.mono h ?_))⟩
      intro e w'' he
      cases e with
      | returned v => exact hn _ _ he
      | panicked chain => exact he
      | outgrown => exact he
    | row row args =>
      refine ⟨fun e => by simp [Fence.inRound, Fence.wide] at e, fun c cs _ => ?_⟩
      obtain ⟨v, w'', hv, hs⟩ := h c cs
      exact ⟨v, w'', hn _ _ hv, by rw [fenced_inRound]; exact stepsIn_wide.2 hs⟩
    | _ => exact absurd h (by simp [Oper.upon])
  | halt hh w' =>
    cases hh with
    | panic v => exact h
    | _ => exact absurd h (by simp [Oper.upon])

theorem any_in {P : Program} {md : Region.Mode} {ops : Array Oper} {Q : Exit → Act → World → Prop} {l n : Nat} (hlo : ¬ LetsOut Q) (hd : ∀ (i : Nat) (o : Oper) c, ops[i]? = some o → o.op ≠ .defer c) :
    ∀ (fuel : Nat) (listed : Array Bool) (a : Act) (w : World), wpAny P md ops Q fuel listed a w → wpAnyIn (Fence.wide.inRound l) n P md ops Q fuel listed a w
  | 0, _, _, _, h => h
  | fuel + 1, listed, a, w, h => by
    refine ⟨h.1, fun i hi => ?_⟩
    have h2 := h.2 i hi
    unfold wpOp at h2
    unfold wpOpIn
    split at h2
    · rename_i e
      rw [e]
      exact any_in hlo hd fuel _ a w h2
    · rename_i o e
      rw [e]
      simp only
      split at h2
      · rename_i hw
        rw [if_pos hw]
        refine ⟨fun _ _ => trivial, ?_⟩
        rw [show (Fence.wide.inRound l).round = some l from rfl, Oper.semAt_some l a.eval o (hd i o · e)]
        rcases h2 with h2 | h2
        · exact upon_in (fun a w h => any_in hlo hd fuel _ a w h) _ h2
        · exact absurd h2.2 hlo
      · rename_i hw
        rw [if_neg hw]
        exact ⟨fun _ _ => trivial, any_in hlo hd fuel _ _ w h2⟩

/-- No operation is a defer statement. -/
def plainOps (ops : Array Oper) : Bool := ops.all fun o => match o.op with | .defer _ => false | _ => true

theorem nd_of {ops : Array Oper} (h : plainOps ops = true) : ∀ (i : Nat) (o : Oper) c, ops[i]? = some o → o.op ≠ .defer c := by
  intro i o c hi e
  unfold plainOps at h
  rw [Array.all_eq_true] at h
  obtain ⟨hlt, ho⟩ := Array.getElem?_eq_some_iff.1 hi
  have := h i hlt
  rw [ho, e] at this
  simp at this

theorem letsOut_then {K : Act → World → Prop} : ¬ LetsOut (Exit.then K (fun _ _ _ => False)) := fun h => by
  obtain ⟨a, w, hh⟩ := h
  exact hh

/-- A region that draws its order, in a round. -/
theorem regionIn_late {P : Program} {id : Nat} {ops : Array Oper} {Q : Exit → Act → World → Prop} {l n : Nat} {a : Act} {w : World} (Z : List Nat) (S : World → Prop) (hm : P.follows .mixedOrders = true) (hd : plainOps ops = true) (hS : S w.drew)
    (h : S w.drew → wpAnyZ P .any ops (Exit.then (Q .normal) (fun _ _ _ => False)) S Z ops.size (Array.replicate ops.size false) a w.drew) : (Code.region id ops true).wpIn (Fence.wide.inRound l) n P Q a w :=
  wpIn_mono (wpIn_region_any hm (any_in letsOut_then (nd_of hd) _ _ _ _ (anyZ_any _ _ _ _ (h hS)))) (fun e a w hq => by cases e <;> first | exact hq | exact False.elim hq)

theorem BS.drew {w : World} {ao : Option Addr} {n c : Nat} {bs : Nat → Nat} (h : BS w ao n c bs) : BS w.drew ao n c bs := ⟨h.lt, h.le, h.room, h.cell, h.nil⟩

theorem put_list (l : List Value) (ds : List Deferred) (d : Nat) (v : Value) : Act.put { tmps := l.toArray, defers := ds } (some d) v = { tmps := (l.set d v).toArray, defers := ds } := by
  simp [Act.put]

/-- A slice of a row from a place on. -/
theorem slice_from (G n off : Nat) (h : off ≤ n) : ∃ dp, (off < n → dp = some ⟨G, off, none⟩) ∧ ∀ W : World, (Instr.sliceAt 23 (.slice (some ⟨G, 0, none⟩) n n) (some (.int .i64 (off : Int))) none none).run Try.prog W = .ok (.slice dp (n - off) (n - off)) W := by
  refine ⟨if n = off then some ⟨G, 0, none⟩ else some ⟨G, off, none⟩, fun hl => if_neg (by omega), fun W => ?_⟩
  rw [run_sliceAt_slice (P := Try.prog) (w := W) 23 _ _ _ _ sliceT, run_slice_l (P := Try.prog) (w := W) 23 _ n n sliceT .i64 (off : Int) (by omega) (by omega), elemB]
  by_cases e : n = off
  · subst e
    simp [Result.andThen, sliced]
  · simp [Result.andThen, sliced, e, Addr.add]
    exact fun h => h.symm

theorem splice_cbs (n off : Nat) (g bs : Nat → Nat) (nb : Nat) (h : off + nb ≤ n) :
    ((cbs n g).toList.take off ++ ((List.range nb).map (fun j => Value.int .u8 (bs j))) ++ (cbs n g).toList.drop (off + ((List.range nb).map (fun j => Value.int .u8 (bs j))).length)).toArray = cbs n (fun i => if off ≤ i ∧ i < off + nb then bs (i - off) else g i) := by
  apply Array.ext'
  apply List.ext_getElem?
  intro i
  have hl : ((cbs n g).toList.take off).length = off := by simp [cbs]; omega
  simp only [List.length_map, List.length_range]
  by_cases h1 : i < off
  · rw [List.getElem?_append_left (by simp [cbs]; omega), List.getElem?_append_left (by simp [cbs]; omega), List.getElem?_take_of_lt h1]
    simp [cbs, show i < n by omega]
    rw [if_neg (by omega)]
  · by_cases h2 : i < off + nb
    · rw [List.getElem?_append_left (by rw [List.length_append, hl]; simp; omega), List.getElem?_append_right (by omega), hl]
      simp [cbs, show i < n by omega, show i - off < nb by omega]
      rw [if_pos (by omega)]
    · rw [List.getElem?_append_right (by rw [List.length_append, hl]; simp; omega), List.length_append, hl, List.getElem?_drop]
      simp only [List.length_map, List.length_range]
      rw [show off + nb + (i - (off + nb)) = i by omega]
      simp [cbs]
      by_cases h3 : i < n
      · simp [h3]
        rw [if_neg (by omega)]
      · simp [h3]

/-- Bytes go into a writer's form. -/
theorem step_fill {ops : Array Oper} {o : Oper} {a : Act} {w : World} {K : Act → World → Prop} {Q : Exit → Act → World → Prop} {E : Prop} (hgd : o.guard = none) (d s : Operand)
    (ho : o.op = .call { callee := .builtin .copy, args := #[d, s], argTypes := #[23, 23] }) (G n off nb c : Nat) (g bs : Nat → Nat) (dp sp : Option Addr) (hd : a.eval d = .slice dp (n - off) (n - off)) (hdp : off < n → dp = some ⟨G, off, none⟩)
    (hG : w.heap[G]? = some (.cells (cbs n g) 5 (0, 0))) (hs : a.eval s = .slice sp nb c) (hB : BS w sp nb c bs) (hle : off + nb ≤ n)
    (h : K (a.put o.dst (.int .i64 nb)) (w.setRow G (cbs n (fun i => if off ≤ i ∧ i < off + nb then bs (i - off) else g i)))) :
    if Region.wanted o (yielded ops a.tmps) = true then Oper.wp Try.prog o a w K Q else E := by
  have hw : Region.wanted o (yielded ops a.tmps) = true := by simp [Region.wanted, hgd]
  have hu : Try.prog.underlying 23 = some (.slice 5) := by kernel_rfl
  rw [if_pos hw]
  by_cases h0 : nb = 0
  · subst h0
    have hrun := run_copy_none (P := Try.prog) w 23 23 o.type 5 dp sp (n - off) (n - off) 0 c hu Try.size5 (Nat.zero_min _)
    rw [show (fun i => if off ≤ i ∧ i < off + 0 then bs (i - off) else g i) = g from funext fun i => if_neg (by omega), setRow_self w G _ _ _ hG] at h
    unfold Oper.wp
    simp [execOp, ho, resolve, invoke, builtin, hd, hs, hrun, Result.andThen]
    exact h
  · obtain ⟨ad, rfl, _⟩ := hB.cell 0 (by omega)
    have e := hdp (by omega)
    subst e
    have hrun := run_copy_row (P := Try.prog) w 23 23 o.type 5 G off (n - off) (n - off) ad nb c (cbs n g) 5 ((List.range nb).map (fun j => Value.int .u8 (bs j))) hu Try.size5 hG (by simp; exact (Nat.min_eq_left (by omega)).symm)
      (fun j v hv => by
        simp only [List.getElem?_map, Option.map_eq_some_iff] at hv
        obtain ⟨x, hx, rfl⟩ := hv
        obtain ⟨hj, rfl⟩ := List.getElem?_eq_some_iff.1 hx
        simp only [List.length_range] at hj
        obtain ⟨ad', e, hc⟩ := hB.cell j hj
        cases e
        rw [List.getElem_range]
        exact hc) (by simp [cbs]; omega) (fun v hv => by
        simp only [List.mem_map] at hv
        obtain ⟨x, _, rfl⟩ := hv
        rfl)
    rw [splice_cbs n off g bs nb hle] at hrun
    unfold Oper.wp
    simp [execOp, ho, resolve, invoke, builtin, hd, hs, hrun, Result.andThen]
    exact h

end Go.Proofs.Ytigebmidfddbcaa
