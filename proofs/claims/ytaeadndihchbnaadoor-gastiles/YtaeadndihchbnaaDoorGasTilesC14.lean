/-
  Code without memory, reckoned.
-/
import Derived.Test.YtaeadndihchbnaaDoorGasTilesC05
namespace Go.Proofs.YtaeadndihchbnaaDoor
open Go.RowKit Go.Shelf

def evO (L : List Value) : Operand → Option Value
  | .tmp s => L[s]?
  | .const v => some v
  | _ => none

def bin2 : BinOp → Value → Value → Option Value
  | .eql, .int .u8 a, .int .u8 b => some (.bool (a == b))
  | .add, .int .i64 a, .int .i64 b => some (.int .i64 (IntKind.i64.wrap (a + b)))
  | .mul, .int .i64 a, .int .i64 b => some (.int .i64 (IntKind.i64.wrap (a * b)))
  | .lss, .int .i64 a, .int .i64 b => some (.bool (decide (a < b)))
  | _, _, _ => none

abbrev Orc := Nat → List Value → Option Value

def evAll (L : List Value) : List Operand → Option (List Value)
  | [] => some []
  | x :: r => match evO L x, evAll L r with
    | some v, some vs => some (v :: vs)
    | _, _ => none

def opV (T : Orc) (L : List Value) : Op → Option Value
  | .move x => evO L x
  | .assign x => evO L x
  | .binOp op _ x y _ => match evO L x, evO L y with
    | some a, some b => bin2 op a b
    | _, _ => none
  | .extract x i => match evO L x with
    | some (.tuple vs) => vs[i]?
    | _ => none
  | .slice t x (some lo) (some hi) none => match evO L x, evO L lo, evO L hi with
    | some (.string s), some (.int .i64 a), some (.int .i64 b) => if t = 9 ∧ 0 ≤ a ∧ a ≤ b ∧ b ≤ s.size then some (.string (s.extract a.toNat b.toNat)) else none
    | _, _, _ => none
  | .call { callee := .value (.func f), args := xs, argTypes := _ } => match evAll L xs.toList with
    | some vs => T f vs
    | none => none
  | _ => none

def evOps (T : Orc) (L : List Value) : List Oper → Option (List Value)
  | [] => some L
  | o :: r => match o.guard, o.dst, opV T L o.op with
    | none, some d, some v => evOps T (L.set d v) r
    | _, _, _ => none

/-- How code ends, and its slots then. -/
def evC (T : Orc) : Nat → Code → List Value → Option (Exit × List Value)
  | 0, _, _ => none
  | f + 1, c, L => match c with
    | .skip => some (.normal, L)
    | .ret => some (.ret, L)
    | .exit id => some (.exit id, L)
    | .region _ ops false => match evOps T L ops.toList with
      | some L' => some (.normal, L')
      | none => none
    | .seq x y => match evC T f x L with
      | some (.normal, L') => evC T f y L'
      | some (.exit i, L') => some (.exit i, L')
      | some (.ret, L') => some (.ret, L')
      | _ => none
    | .cond (.tmp s) x y => match L[s]? with
      | some (.bool true) => evC T f x L
      | some (.bool false) => evC T f y L
      | _ => none
    | .block id x => match evC T f x L with
      | some (.exit i, L') => if i = id then some (.normal, L') else some (.exit i, L')
      | some (.normal, L') => some (.normal, L')
      | some (.ret, L') => some (.ret, L')
      | _ => none
    | _ => none

theorem evO_eval {L : List Value} {x : Operand} {v : Value} (h : evO L x = some v) : Act.eval { tmps := L.toArray, defers := [] } x = v := by
  cases x with
  | tmp s =>
    have h' : L[s]? = some v := h
    show L.toArray.getD s undef = v
    simp [Array.getD_eq_getD_getElem?, h']
  | const u => cases h; rfl
  | global g => cases h
  | func f => cases h

theorem evAll_eval {L : List Value} : ∀ {xs : List Operand} {vs : List Value}, evAll L xs = some vs → xs.map (Act.eval { tmps := L.toArray, defers := [] }) = vs
  | [], vs, h => by cases h; rfl
  | x :: r, vs, h => by
    unfold evAll at h
    split at h
    · rename_i v us h1 h2
      cases h
      rw [List.map_cons, evO_eval h1, evAll_eval h2]
    · cases h

def StrOK (P : Program) : Prop := ∀ (s : ByteArray) (a b : Nat) (w : World), a ≤ b → b ≤ s.size → (Instr.sliceAt 9 (.string s) (some (.int .i64 a)) (some (.int .i64 b)) none).run P w = .ok (.string (s.extract a b)) w

theorem str_ok : StrOK Tryd.prog := by
  intro s a b w h1 h2
  have g1 : (a : Int) ≤ (b : Int) := by omega
  have g2 : (b : Int) ≤ (s.size : Int) := by omega
  go_simp

/-- What calls answer that touch nothing. -/
def OrcOK (P : Program) (T : Orc) : Prop := (∀ f vs v, T f vs = some v → (∀ w, (callFunc f vs.toArray).run P w = .ok (.enter f vs.toArray) w) ∧ ∀ w, Calls P f vs.toArray w fun e w' => e = .returned v ∧ w' = w) ∧ StrOK P

theorem opV_run {P : Program} {T : Orc} {L : List Value} {o : Oper} {v : Value} {K : Act → World → Prop} {Q : Exit → Act → World → Prop} (w : World) (hT : OrcOK P T) (h : opV T L o.op = some v) (hk : K (Act.put { tmps := L.toArray, defers := [] } o.dst v) w) : o.wp P { tmps := L.toArray, defers := [] } w K Q := by
  have fin : (execOp (Act.eval { tmps := L.toArray, defers := [] }) o).run P w = .ok (.value v) w → o.wp P { tmps := L.toArray, defers := [] } w K Q := fun e => by
    unfold Oper.wp
    rw [e]
    exact hk
  cases hop : o.op <;> rw [hop] at h <;> simp only [opV, reduceCtorEq] at h
  case move x => refine fin ?_; unfold execOp; rw [hop]; dsimp only; rw [evO_eval h]; rfl
  case assign x => refine fin ?_; unfold execOp; rw [hop]; dsimp only; rw [evO_eval h]; rfl
  case extract x i =>
    refine fin ?_
    unfold execOp
    rw [hop]
    dsimp only
    split at h
    · rename_i vs h1
      rw [evO_eval h1]
      go_simp
    · cases h
  case slice t x lo hi mx =>
    refine fin ?_
    unfold execOp
    rw [hop]
    cases lo <;> cases hi <;> cases mx <;> try (cases h; done)
    rename_i lo hi
    dsimp only [Option.map]
    simp only at h
    split at h
    · rename_i s a b h1 h2 h3
      split at h
      · rename_i hc
        cases h
        rw [evO_eval h1, evO_eval h2, evO_eval h3]
        obtain ⟨rfl, k1, k2, k3⟩ := hc
        obtain ⟨a, rfl⟩ : ∃ n : Nat, a = n := ⟨a.toNat, by omega⟩
        obtain ⟨b, rfl⟩ : ∃ n : Nat, b = n := ⟨b.toNat, by omega⟩
        have := hT.2 s a b w (by omega) (by omega)
        simp only [Sem.run_bind, this, Result.andThen, Int.toNat_natCast]
        rfl
      · cases h
    · cases h
  case call c =>
    obtain ⟨cal, xs, tys⟩ := c
    cases cal with
    | value x =>
      cases x with
      | func f =>
        simp only at h
        split at h
        · rename_i vs h1
          obtain ⟨h2, h3⟩ := hT.1 f vs v h
          unfold Oper.wp
          have e : (execOp (Act.eval { tmps := L.toArray, defers := [] }) o).run P w = .ok (.enter f vs.toArray) w := by
            unfold execOp
            rw [hop]
            dsimp only
            have hm := evAll_eval h1
            have hm2 : xs.map (Act.eval { tmps := L.toArray, defers := [] }) = vs.toArray := by
              rw [← hm]
              apply Array.toList_inj.1
              simp
            simp [resolve, invoke, go_sem, h2, hm2]
          rw [e]
          refine (h3 w).mono ?_
          rintro e w' ⟨rfl, rfl⟩
          exact hk
        · cases h
      | _ => cases h
    | _ => cases h
  case binOp op t x y t2 =>
    refine fin ?_
    unfold execOp
    rw [hop]
    cases hx : evO L x with
    | none => rw [hx] at h; cases h
    | some a =>
      cases hy : evO L y with
      | none => rw [hx, hy] at h; cases h
      | some b =>
        rw [hx, hy] at h
        simp only at h
        dsimp only
        rw [evO_eval hx, evO_eval hy]
        unfold bin2 at h
        split at h
        · cases h
          go_simp
        · cases h
          go_simp
        · cases h
          go_simp
        · cases h
          go_simp
        · cases h

theorem evOps_wp {P : Program} {T : Orc} (hT : OrcOK P T) {ops : Array Oper} {Q : Exit → Act → World → Prop} {w : World} : ∀ (l : List Oper) (L L' : List Value), evOps T L l = some L' → Q .normal { tmps := L'.toArray, defers := [] } w → wpList P ops Q l { tmps := L.toArray, defers := [] } w
  | [], L, L', h, hq => by cases h; exact hq
  | o :: r, L, L', h, hq => by
    unfold evOps at h
    split at h
    · rename_i d v hg hd hv
      refine wpList_plain hg fun K hK => opV_run w hT hv ?_
      rw [hd, put_list]
      exact hK _ _ (evOps_wp hT r _ _ h hq)
    · cases h

theorem evC_wp {P : Program} {T : Orc} (hT : OrcOK P T) : ∀ (f : Nat) (c : Code) (L : List Value) (e : Exit) (L' : List Value), evC T f c L = some (e, L') → ∀ (Q : Exit → Act → World → Prop) (w : World), Q e { tmps := L'.toArray, defers := [] } w → c.wp P Q { tmps := L.toArray, defers := [] } w
  | 0, _, _, _, _, h, _, _, _ => by cases h
  | f + 1, c, L, e, L', h, Q, w, hq => by
    cases c with
    | skip => cases h; exact wp_skip hq
    | ret => cases h; exact wp_ret hq
    | exit id => cases h; exact wp_exit hq
    | region id ops b =>
      cases b with
      | true => cases h
      | false =>
        simp only [evC] at h
        split at h
        · rename_i L1 h1
          cases h
          exact wp_region_list (evOps_wp hT _ _ _ h1 hq)
        · cases h
    | seq x y =>
      simp only [evC] at h
      refine wp_seq ?_
      split at h
      · rename_i L1 h1
        exact evC_wp hT f x L _ _ h1 _ w (evC_wp hT f y L1 _ _ h Q w hq)
      · rename_i i L1 h1
        cases h
        exact evC_wp hT f x L _ _ h1 _ w hq
      · rename_i L1 h1
        cases h
        exact evC_wp hT f x L _ _ h1 _ w hq
      · cases h
    | cond s x y =>
      cases s with
      | tmp s =>
        simp only [evC] at h
        split at h
        · rename_i h1
          exact wp_cond_true (evO_eval (x := .tmp s) h1) (evC_wp hT f x L _ _ h Q w hq)
        · rename_i h1
          exact wp_cond_false (evO_eval (x := .tmp s) h1) (evC_wp hT f y L _ _ h Q w hq)
        · cases h
      | const v => cases h
      | global v => cases h
      | func v => cases h
    | block id x =>
      simp only [evC] at h
      refine wp_block ?_
      split at h
      · rename_i i L1 h1
        split at h
        · rename_i hi
          cases h
          exact evC_wp hT f x L _ _ h1 _ w (by simpa only [Exit.inBlock, hi, if_true] using hq)
        · rename_i hi
          cases h
          exact evC_wp hT f x L _ _ h1 _ w (by simpa only [Exit.inBlock, hi, if_false] using hq)
      · rename_i L1 h1
        cases h
        exact evC_wp hT f x L _ _ h1 _ w hq
      · rename_i L1 h1
        cases h
        exact evC_wp hT f x L _ _ h1 _ w hq
      · cases h
    | _ => cases h

end Go.Proofs.YtaeadndihchbnaaDoor
