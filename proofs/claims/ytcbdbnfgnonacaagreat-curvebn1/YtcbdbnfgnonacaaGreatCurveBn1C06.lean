/-
 Code of exact values, reckoned: elements are terms, boxes are rows of pieces.
-/
import Derived.Test.YtcbdbnfgnonacaaGreatCurveBn1C05
namespace Go.Proofs.YtcbdbnfgnonacaaGreat
open Go.RowKit Go.Shelf
abbrev Bxs := List (Nat × Array Value × TypeId)
inductive GD where
 | ex (v : Value)
 | nb (C : Array Value) (t : TypeId)
def GD.pd (N : Nat) : GD → PD
 | .ex v => .ex v
 | .nb C t => .pr (NB N C t)
def GDs (N : Nat) (Gs : List GD) : List PD := Gs.map (GD.pd N)
theorem ZcJ (N : Nat) : ∀ Gs : List GD, StabD (GDs N Gs)
 | [] => trivial
 | .ex _ :: Gs => ZcJ N Gs
 | .nb _ _ :: Gs => ⟨ZaH _ _ _, ZcJ N Gs⟩
theorem ZdM (N : Nat) (Gs : List GD) : (GDs N Gs).length = Gs.length := by simp [GDs]
structure GS (w W : World) (L : List Value) (n : Nat) (kn : List (Nat × Value)) (bl : Bxs) : Prop where
 up : Up w W
 len : L.length = n
 ks : KS L kn
 bx : BXs W bl
 nw : ∀ x ∈ bl, w.heap.size ≤ x.1
structure GT (w W : World) (L : List Value) (n : Nat) (nk : List Nat → List (Nat × Value)) (bl : Bxs) : Prop where
 up : Up w W
 len : L.length = n
 ks : ∀ live, KS L (nk live)
 bx : BXs W bl
 nw : ∀ x ∈ bl, w.heap.size ≤ x.1
def EndG (w V : World) (n : Nat) (nk : List Value → List Nat → List (Nat × Value)) (R : List Value → Prop) : List GD → List Value → Bxs → Prop
 | [], vals, bl => ∀ L, GT w V L n (nk vals.reverse) bl → R L
 | .ex v :: Gs, vals, bl => EndG w V n nk R Gs (v :: vals) bl
 | .nb C t :: Gs, vals, bl => ∀ B, EndG w V n nk R Gs (pv B 0 :: vals) ((B, C, t) :: bl)
def alB (ops : Array Oper) : Nat → List GD → Bool
 | _, [] => true
 | i, .ex _ :: Gs => alB ops (i + 1) Gs
 | i, .nb _ _ :: Gs => isAl ops i && alB ops (i + 1) Gs
structure GI (V : World) (N : Nat) (ops : Array Oper) (acc : List Value) (nbl : List (Nat × Nat × Array Value × TypeId)) : Prop where
 all : ∀ x ∈ nbl, BX V x.2.1 x.2.2.1 x.2.2.2 ∧ N ≤ x.2.1 ∧ isAl ops x.1 = true ∧ x.1 < acc.length ∧ acc.reverse[x.1]? = some (pv x.2.1 0)
 nd : (nbl.map (·.1)).Nodup
theorem GI.more {V : World} {N : Nat} {ops : Array Oper} {acc : List Value} {nbl : List (Nat × Nat × Array Value × TypeId)} (h : GI V N ops acc nbl) (v : Value) : GI V N ops (v :: acc) nbl := ⟨fun x hx => by
 obtain ⟨h1, h2, h3, h4, h5⟩ := h.all x hx
 exact ⟨h1, h2, h3, by simp; omega, by rw [List.reverse_cons, List.getElem?_append_left (by simpa using h4)]; exact h5⟩, h.nd⟩
theorem EndG.to {w W V : World} {ops : Array Oper} {n M : Nat} {nk : List Value → List Nat → List (Nat × Value)} {R : List Value → Prop} {bl : Bxs} (hup : Up w V) (hV : Up W V) (hw : w.heap.size ≤ W.heap.size) (hbx : BXs W bl) (hnw : ∀ x ∈ bl, w.heap.size ≤ x.1) :
  ∀ (Gs : List GD) (acc : List Value) (nbl : List (Nat × Nat × Array Value × TypeId)), acc.length + Gs.length = M → alB ops acc.length Gs = true → GI V W.heap.size ops acc nbl → EndG w V n nk R Gs acc (nbl.map (·.2) ++ bl) →
   EndP V (PDs (GDs W.heap.size Gs)) (fun vs => Apt ops M (acc.reverse ++ vs) → ∀ L, L.length = n → (∀ live, KS L (nk (acc.reverse ++ vs) live)) → R L)
 | [], acc, nbl, hM, _, hI, h => fun hA L hl hk => by
  rw [List.append_nil] at hA hk
  refine h L ⟨hup, hl, hk, ⟨fun j b C t hj => ?_, ?_⟩, fun x hx => ?_⟩
  ·
   rcases List.mem_append.1 (List.mem_of_getElem? hj) with hm | hm
   ·
    obtain ⟨x, hx, e⟩ := List.mem_map.1 hm
    have := (hI.all x hx).1
    rw [e] at this
    exact this
   ·
    obtain ⟨j', hj'⟩ := List.mem_iff_getElem?.1 hm
    exact (hbx.all j' b C t hj').moved hV
  ·
   rw [List.map_append, List.nodup_append]
   refine ⟨?_, hbx.nd, ?_⟩
   ·
    rw [List.map_map]
    unfold List.Nodup
    rw [List.pairwise_map]
    have := hI.nd
    unfold List.Nodup at this
    rw [List.pairwise_map] at this
    refine this.imp_of_mem fun {x y} hx hy hne e => ?_
    obtain ⟨_, _, h3, h4, h5⟩ := hI.all x hx
    obtain ⟨_, _, g3, g4, g5⟩ := hI.all y hy
    have e' : x.2.1 = y.2.1 := e
    refine hA x.1 y.1 ?_ (by rw [h5, g5, e'])
    simp only [List.length_nil, Nat.add_zero] at hM
    simp [h3, g3, hne, ← hM, h4, g4]
   ·
    intro a ha b hb e
    obtain ⟨x, hx, rfl⟩ := List.mem_map.1 ha
    obtain ⟨z, hz, rfl⟩ := List.mem_map.1 hx
    obtain ⟨y, hy, rfl⟩ := List.mem_map.1 hb
    obtain ⟨j, hj⟩ := List.mem_iff_getElem?.1 hy
    have h1 := Zab (hbx.all j y.1 y.2.1 y.2.2 hj).heap
    have h2 := (hI.all z hz).2.1
    omega
  ·
   rcases List.mem_append.1 hx with hm | hm
   ·
    obtain ⟨z, hz, rfl⟩ := List.mem_map.1 hm
    have h2 := (hI.all z hz).2.1
    omega
   ·
    exact hnw x hm
 | .ex v :: Gs, acc, nbl, hM, ha, hI, h => by
  rintro _ rfl
  refine EndP.mono (EndG.to (M := M) hup hV hw hbx hnw Gs (v :: acc) nbl (by simp at hM ⊢; omega) ha (hI.more v) h) fun vs hk => ?_
  rw [List.reverse_cons, List.append_assoc] at hk
  exact hk
 | .nb C t :: Gs, acc, nbl, hM, ha, hI, h => by
  rintro _ ⟨b, rfl, hle, hb⟩
  simp only [alB, Bool.and_eq_true] at ha
  have hI' := hI.more (pv b 0)
  refine EndP.mono (EndG.to (M := M) hup hV hw hbx hnw Gs (pv b 0 :: acc) ((acc.length, b, C, t) :: nbl) (by simp at hM ⊢; omega) ha.2 ⟨fun x hx => ?_, ?_⟩ (h b)) fun vs hk => ?_
  ·
   rcases List.mem_cons.1 hx with rfl | hx
   ·
    exact ⟨hb, hle, ha.1, by simp, by simp⟩
   ·
    exact hI'.all x hx
  ·
   rw [List.map_cons, List.nodup_cons]
   refine ⟨fun hm => ?_, hI.nd⟩
   obtain ⟨x, hx, e⟩ := List.mem_map.1 hm
   have := (hI.all x hx).2.2.2.1
   omega
  ·
   rw [List.reverse_cons, List.append_assoc] at hk
   exact hk
section
variable {P : Program} {id : Nat} {ops : Array Oper} {b : Bool} {Q : Exit → Act → World → Prop} {c : Code} {w W : World} {L : List Value} {n : Nat} {kn : List (Nat × Value)} {bl : Bxs}
def nkOf (ops : Array Oper) (k : Nat) (kn : List (Nat × Value)) (vals : List Value) (live : List Nat) : List (Nat × Value) := nextK ((List.range k).map (dOf ops)) vals kn live
abbrev Tm (L : List Value) : Act := { tmps := L.toArray, defers := [] }
theorem GS.last {V : World} {R : List Value → Prop} {Gs : List GD} (S : GS w W L n kn bl) (hV : Up W V) (ha : alB ops 0 Gs = true) (hc : chkD .any ops Gs.length n = true) (h : EndG w V n (nkOf ops Gs.length kn) R Gs [] bl) :
  EndP V (PDs (GDs W.heap.size Gs)) (fun vl => Apt ops Gs.length vl → ∀ l', l' = TV ((List.range Gs.length).map (dOf ops)) vl L → R l') := by
 obtain ⟨h1, h2⟩ := ZbN hc
 have hk := S.ks
 refine EndP.mono (EndG.to (ops := ops) (M := Gs.length) (S.up.trans (hV.mono S.up.size)) hV S.up.size S.bx S.nw Gs [] [] (by simp) ha ⟨fun _ h => (by cases h), List.nodup_nil⟩ h) fun vs hk' hA l' e => ?_
 subst e
 exact hk' hA _ (by rw [ZdK, S.len]) fun live => hk.next h1 (by rw [S.len]; exact h2) live
end
section
variable {P : Program} {ops : List Oper} {Q : Exit → Act → World → Prop} {w W : World} {Gs : List GD} {kn : List (Nat × Value)} {L : List Value} {n i : Nat} {bl : Bxs} (S : GS w W L n kn bl)
include S
end
def offB (ops : List Oper) (Ds : List PD) (i : Nat) : Bool := match ops[i]? with
 | some o => o.dst.isSome && !isAlO o && (match o.guard with
  | none => false
  | some (g, b) => decide (g < Ds.length) && wts ops i g && (match Ds[g]? with | some (.ex (.bool c)) => c != b | _ => false) && (match ops[g]? with | some og => og.dst.isSome | none => false))
 | none => false
theorem Zdk {P : Program} {ops : List Oper} {Q : Exit → Act → World → Prop} {I : World → Prop} {Ds : List PD} {L : List Value} {ds : List Deferred} {i : Nat} (hc : offB ops Ds i = true := by kernel_rfl) (hpd : Ds[i]? = some (.ex undef) := by rfl) : OpOK P .any ops.toArray Q I (PDs Ds) L ds i := by
 intro T V K hI hO hW hK
 unfold offB at hc
 cases ho : ops[i]? with
 | none => rw [ho] at hc; cases hc
 | some o =>
  rw [ho] at hc
  simp only [Bool.and_eq_true] at hc
  obtain ⟨⟨hd, ha⟩, hg⟩ := hc
  obtain ⟨d, hd⟩ := Option.isSome_iff_exists.1 hd
  cases hgd : o.guard with
  | none => rw [hgd] at hg; cases hg
  | some gb =>
   obtain ⟨g, b⟩ := gb
   rw [hgd] at hg
   simp only [Bool.and_eq_true, decide_eq_true_eq] at hg
   obtain ⟨⟨⟨h1, h2⟩, h3⟩, h4⟩ := hg
   cases hog : ops[g]? with
   | none => rw [hog] at h4; cases h4
   | some og =>
    rw [hog] at h4
    obtain ⟨dg, hdg⟩ := Option.isSome_iff_exists.1 h4
    obtain ⟨v, hv, hp⟩ := hW g (by rw [Zbg, ZfI]; simp [h1, h2])
    have hdo : dOf ops.toArray g = dg := by
     unfold dOf
     rw [List.getElem?_toArray, hog]
     simp [hdg]
    rw [hdo] at hv
    split at h3
    ·
     rename_i c hc
     rw [ZcH hc] at hp
     have e : Value.bool c = v := hp
     subst e
     have hcb : c ≠ b := by simpa using h3
     have hw : Region.wanted o (yielded ops.toArray T.toArray) = false := by
      unfold Region.wanted
      rw [hgd]
      simp [yielded, hog, hdg, hv, hcb]
     refine ZaE ho (fun K' hK' => ?_)
     rw [if_neg (by rw [hw]; exact Bool.false_ne_true)]
     have hdd : dOf ops.toArray i = d := by
      unfold dOf
      rw [List.getElem?_toArray, ho]
      simp [hd]
     show K' (Act.put _ o.dst undef) V
     rw [hd, Zaa]
     have := hK undef V (Below.refl _ _) (by rw [ZcH hpd]; rfl) (fun h => by
      unfold isAl at h
      rw [List.getElem?_toArray, ho] at h
      have h' : isAlO o = true := h
      rw [h'] at ha
      cases ha)
     rw [hdd] at this
     exact hK' _ _ this
    ·
     cases h3
inductive EX where
 | v (i : Nat)
 | c (k : Nat)
 | u (k : Nat) (a : EX)
 | b (k : Nat) (a b : EX)
def EX.beq : EX → EX → Bool
 | .v i, .v j => i == j
 | .c i, .c j => i == j
 | .u k x, .u l y => k == l && EX.beq x y
 | .b k x y, .b l z t => k == l && (EX.beq x z && EX.beq y t)
 | _, _ => false
theorem EX.of_beq : ∀ {a b : EX}, EX.beq a b = true → a = b
 | .v i, .v j, h => by simp only [EX.beq, beq_iff_eq] at h; rw [h]
 | .c i, .c j, h => by simp only [EX.beq, beq_iff_eq] at h; rw [h]
 | .u k x, .u l y, h => by
  simp only [EX.beq, Bool.and_eq_true, beq_iff_eq] at h
  rw [h.1, EX.of_beq h.2]
 | .b k x y, .b l z t, h => by
  simp only [EX.beq, Bool.and_eq_true, beq_iff_eq] at h
  rw [h.1, EX.of_beq h.2.1, EX.of_beq h.2.2]
 | .v _, .c _, h | .v _, .u _ _, h | .v _, .b _ _ _, h | .c _, .v _, h | .c _, .u _ _, h | .c _, .b _ _ _, h | .u _ _, .v _, h | .u _ _, .c _, h | .u _ _, .b _ _ _, h | .b _ _ _, .v _, h | .b _ _ _, .c _, h | .b _ _ _, .u _ _, h => by simp [EX.beq] at h
inductive CX where
 | lit (b : Bool)
 | at_ (i : Nat)
 | lk (k : Nat) (x y : EX)
 | no (x : CX)
 | an (x y : CX)
def CX.beq : CX → CX → Bool
 | .lit a, .lit b => a == b
 | .at_ i, .at_ j => i == j
 | .lk k x y, .lk l z u => k == l && (EX.beq x z && EX.beq y u)
 | .no x, .no y => CX.beq x y
 | .an x y, .an z u => CX.beq x z && CX.beq y u
 | _, _ => false
theorem CX.of_beq : ∀ (a b : CX), CX.beq a b = true → a = b := by
 intro a
 induction a with
 | lit x => intro b h; cases b <;> simp_all [CX.beq]
 | at_ x => intro b h; cases b <;> simp_all [CX.beq]
 | lk k x y =>
  intro b h
  cases b <;> simp only [CX.beq, Bool.false_eq_true] at h
  simp only [Bool.and_eq_true, beq_iff_eq] at h
  rw [h.1, EX.of_beq h.2.1, EX.of_beq h.2.2]
 | no x ih =>
  intro b h
  cases b <;> simp only [CX.beq, Bool.false_eq_true] at h
  rw [ih _ h]
 | an x y ih1 ih2 =>
  intro b h
  cases b <;> simp only [CX.beq, Bool.false_eq_true] at h
  simp only [Bool.and_eq_true] at h
  rw [ih1 _ h.1, ih2 _ h.2]
inductive SC where
 | v (x : Value)
 | cx (x : CX)
 | xp (i o : Nat)
 | bp (j o : Nat)
 | ov (i : Nat)
inductive Ch where
 | e (k : Nat) (x : EX)
 | s (x : SC)
inductive SV where
 | row (l : List Ch)
 | one (x : SC)
 | tup (x y : SV)
 | mf (s : String) (i : Nat)
structure Al (sz : Nat → Nat) where
 K : Type
 v : Nat → K
 c : Nat → K
 u : Nat → K → K
 b : Nat → K → K → K
 cells : Nat → K → Array Value
 hs : ∀ k x, (cells k x).size = sz k
 h1 : ∀ k x, (cells k x).all (·.oneCell') = true
 lk : Nat → K → K → Bool
 bo : Nat → Bool
 xb : Nat → Nat
 ov : Nat → Value
 ho : ∀ i, (ov i).cells = #[ov i] ∧ (ov i).oneCell' = true
section
variable {sz : Nat → Nat} (A : Al sz)
def Al.d : EX → A.K
 | .v i => A.v i
 | .c i => A.c i
 | .u k x => A.u k (Al.d x)
 | .b k x y => A.b k (Al.d x) (Al.d y)
def Al.cx : CX → Bool
 | .lit b => b
 | .at_ i => A.bo i
 | .lk k x y => A.lk k (A.d x) (A.d y)
 | .no x => !Al.cx x
 | .an x y => Al.cx x && Al.cx y
def Al.sc (β : Nat → Nat) : SC → Value
 | .v x => x
 | .cx x => .bool (A.cx x)
 | .xp i o => .pointer (some ⟨A.xb i, o, none⟩)
 | .bp j o => .pointer (some ⟨β j, o, none⟩)
 | .ov i => A.ov i
def Al.ch (β : Nat → Nat) : Ch → List Value
 | .e k x => (A.cells k (A.d x)).toList
 | .s x => [A.sc β x]
def Al.rw (β : Nat → Nat) : List Ch → List Value
 | [] => []
 | c :: l => A.ch β c ++ Al.rw β l
def Al.sv (β : Nat → Nat) : SV → Value
 | .row l => .agg (A.rw β l).toArray
 | .one x => A.sc β x
 | .tup x y => .tuple #[Al.sv β x, Al.sv β y]
 | .mf s i => .func (.method s) #[A.ov i] #[]
end
def chN (sz : Nat → Nat) : Ch → Nat
 | .e k _ => sz k
 | .s _ => 1
def rwN (sz : Nat → Nat) : List Ch → Nat
 | [] => 0
 | c :: l => chN sz c + rwN sz l
section
variable {sz : Nat → Nat} {A : Al sz} {β : Nat → Nat}
theorem ZfN (c : Ch) : (A.ch β c).length = chN sz c := by
 cases c with
 | e k x => simp [Al.ch, chN, A.hs]
 | s x => rfl
theorem Zdl : ∀ (l : List Ch), (A.rw β l).length = rwN sz l
 | [] => rfl
 | c :: l => by simp [Al.rw, rwN, ZfN, Zdl l]
theorem Ze3 : ∀ (l m : List Ch), A.rw β (l ++ m) = A.rw β l ++ A.rw β m
 | [], _ => rfl
 | c :: l, m => by simp [Al.rw, Ze3 l m]
end
def dropC (sz : Nat → Nat) : List Ch → Nat → Option (List Ch)
 | [], 0 => some []
 | [], _ + 1 => none
 | c :: l, 0 => some (c :: l)
 | c :: l, n + 1 => if chN sz c ≤ n + 1 then dropC sz l (n + 1 - chN sz c) else none
def takeC (sz : Nat → Nat) : List Ch → Nat → Option (List Ch)
 | [], 0 => some []
 | [], _ + 1 => none
 | _ :: _, 0 => some []
 | c :: l, n + 1 => if chN sz c ≤ n + 1 then (takeC sz l (n + 1 - chN sz c)).map (c :: ·) else none
def cutC (sz : Nat → Nat) (l : List Ch) (o n : Nat) : Option (List Ch) := (dropC sz l o).bind (takeC sz · n)
section
variable {sz : Nat → Nat} {A : Al sz} {β : Nat → Nat}
theorem Zdw : ∀ {l l' : List Ch} {n : Nat}, dropC sz l n = some l' → A.rw β l' = (A.rw β l).drop n
 | [], _, 0, h => by cases h; rfl
 | [], _, n + 1, h => by cases h
 | c :: l, _, 0, h => by cases h; rfl
 | c :: l, l', n + 1, h => by
  unfold dropC at h
  split at h
  ·
   rename_i hc
   have e : (A.ch β c).drop (n + 1) = [] := List.drop_eq_nil_of_le (by rw [ZfN]; exact hc)
   rw [Zdw h, Al.rw, List.drop_append, ZfN, e, List.nil_append]
  ·
   cases h
theorem Zdx : ∀ {l l' : List Ch} {n : Nat}, takeC sz l n = some l' → A.rw β l' = (A.rw β l).take n ∧ rwN sz l' = n
 | [], _, 0, h => by cases h; exact ⟨rfl, rfl⟩
 | [], _, n + 1, h => by cases h
 | c :: l, _, 0, h => by cases h; exact ⟨rfl, rfl⟩
 | c :: l, l', n + 1, h => by
  unfold takeC at h
  split at h
  ·
   rename_i hc
   cases hl : takeC sz l (n + 1 - chN sz c) with
   | none => rw [hl] at h; cases h
   | some m =>
    rw [hl] at h
    cases h
    obtain ⟨h1, h2⟩ := Zdx hl
    refine ⟨?_, by rw [rwN, h2]; omega⟩
    have e : (A.ch β c).take (n + 1) = A.ch β c := List.take_of_length_le (by rw [ZfN]; exact hc)
    rw [Al.rw, h1, Al.rw, List.take_append, ZfN, e]
  ·
   cases h
theorem ZeZ {l l' : List Ch} {o n : Nat} (h : cutC sz l o n = some l') : A.rw β l' = ((A.rw β l).drop o).take n ∧ rwN sz l' = n := by
 unfold cutC at h
 cases hd : dropC sz l o with
 | none => rw [hd] at h; cases h
 | some m =>
  rw [hd] at h
  have h : takeC sz m n = some l' := h
  obtain ⟨h1, h2⟩ := Zdx (A := A) (β := β) h
  exact ⟨by rw [h1, Zdw hd], h2⟩
theorem rw_one {l : List Ch} (h : ∀ x ∈ l, ∀ y, x = .s y → (A.sc β y).oneCell' = true) : ∀ v ∈ A.rw β l, v.oneCell' = true := by
 induction l with
 | nil => intro v hv; cases hv
 | cons c l ih =>
  intro v hv
  rw [Al.rw] at hv
  rcases List.mem_append.1 hv with h1 | h1
  ·
   cases c with
   | e k x => exact List.all_eq_true.1 (by rw [Array.all_toList]; exact A.h1 k (A.d x)) v h1
   | s x =>
    have e : v = A.sc β x := by simpa [Al.ch] using h1
    rw [e]
    exact h _ (List.mem_cons_self) _ rfl
  ·
   exact ih (fun x hx => h x (List.mem_cons_of_mem _ hx)) v h1
end
def isAg (P : Program) (t : TypeId) : Option Bool := (P.underlying t).map TypeDesc.isRow
def szT (P : Program) (t : TypeId) : Option Nat := (P.info? t).map (·.size)
def ldC (P : Program) (sz : Nat → Nat) (l : List Ch) (o : Nat) (t : TypeId) : Option SV := match isAg P t, szT P t with
 | some true, some n => (cutC sz l o n).map .row
 | some false, some _ => match cutC sz l o 1 with
  | some [.s x] => some (.one x)
  | _ => none
 | _, _ => none
theorem Za2 {sz : Nat → Nat} {A : Al sz} {β : Nat → Nat} {l m : List Ch} {b o k : Nat} {V : World} (hr : V.rangeAt b 0 (A.rw β l)) (hm : cutC sz l o k = some m) : V.rangeAt b o (A.rw β m) := fun j v hv => by
 have h1 := (ZeZ (A := A) (β := β) hm).1
 rw [h1] at hv
 have hj := (List.getElem?_eq_some_iff.1 hv).1
 rw [List.length_take] at hj
 rw [List.getElem?_take_of_lt (by omega), List.getElem?_drop] at hv
 have := hr _ _ hv
 rwa [Nat.zero_add] at this
theorem Zi3 {P : Program} {sz : Nat → Nat} {A : Al sz} {β : Nat → Nat} {l : List Ch} {o b : Nat} {t : TypeId} {y : SV} {V : World} (h : ldC P sz l o t = some y) (hr : V.rangeAt b 0 (A.rw β l)) : (loadVar t ⟨b, o, none⟩).run P V = .ok (A.sv β y) V := by
 have hcut : ∀ {m : List Ch} {k : Nat}, cutC sz l o k = some m → V.rangeAt b o (A.rw β m) := fun hm => Za2 hr hm
 unfold ldC at h
 split at h
 ·
  rename_i n h1 h2
  cases hc : cutC sz l o n with
  | none => rw [hc] at h; cases h
  | some m =>
   rw [hc] at h
   cases h
   unfold isAg at h1
   obtain ⟨d, hd, hrow⟩ := Option.map_eq_some_iff.1 h1
   exact run_loadVar_mid V b o t _ d (hcut hc) hd hrow (by rw [Zdl, (ZeZ (A := A) (β := β) hc).2]; exact h2)
 ·
  rename_i n h1 h2
  split at h
  ·
   rename_i x hc
   cases h
   unfold isAg at h1
   obtain ⟨d, hd, hrow⟩ := Option.map_eq_some_iff.1 h1
   have hA : (isAgg t).run P V = .ok false V := by
    unfold isAgg
    rw [Sem.run_bind, run_underlying hd V]
    cases d <;> simp_all [TypeDesc.isRow, Result.andThen, Sem.run_pure]
   refine ld1 hA ?_
   have := hcut hc 0 (A.sc β x) rfl
   exact this
  ·
   cases h
 ·
  cases h
def SC.wf (n : Nat) : SC → Bool
 | .bp j _ => decide (j < n)
 | _ => true
def Ch.wf (n : Nat) : Ch → Bool
 | .s x => x.wf n
 | _ => true
def SV.wf (n : Nat) : SV → Bool
 | .row l => l.all (Ch.wf n)
 | .one x => x.wf n
 | .tup x y => SV.wf n x && SV.wf n y
 | .mf _ _ => true
abbrev SB := List (List Ch × TypeId)
structure SSt where
 kn : List (Nat × SV)
 bl : SB
def SSt.wf (s : SSt) : Bool := (s.kn.all fun p => p.2.wf s.bl.length) && (s.bl.all fun p => p.1.all (Ch.wf s.bl.length))
section
variable {sz : Nat → Nat} {A : Al sz} {β β' : Nat → Nat} {n : Nat}
theorem Zl2 (e : ∀ j, j < n → β j = β' j) {x : SC} (h : x.wf n = true) : A.sc β x = A.sc β' x := by
 cases x with
 | bp j o => simp only [SC.wf, decide_eq_true_eq] at h; simp only [Al.sc, e j h]
 | _ => rfl
theorem Ze4 (e : ∀ j, j < n → β j = β' j) : ∀ {l : List Ch}, l.all (Ch.wf n) = true → A.rw β l = A.rw β' l
 | [], _ => rfl
 | c :: l, h => by
  simp only [List.all_cons, Bool.and_eq_true] at h
  rw [Al.rw, Al.rw, Ze4 e h.2]
  cases c with
  | e k x => rfl
  | s x => simp only [Al.ch, Zl2 e (x := x) h.1]
theorem Ze5 (e : ∀ j, j < n → β j = β' j) : ∀ {x : SV}, x.wf n = true → A.sv β x = A.sv β' x
 | .row l, h => by simp only [Al.sv, Ze4 e (l := l) h]
 | .one x, h => Zl2 e (x := x) h
 | .tup x y, h => by
  simp only [SV.wf, Bool.and_eq_true] at h
  simp only [Al.sv, Ze5 e h.1, Ze5 e h.2]
 | .mf _ _, _ => rfl
end
def knD {sz : Nat → Nat} (A : Al sz) (β : Nat → Nat) (kn : List (Nat × SV)) : List (Nat × Value) := kn.map fun p => (p.1, A.sv β p.2)
def blD {sz : Nat → Nat} (A : Al sz) (β : Nat → Nat) : SB → List (Nat × Array Value × TypeId)
 | [] => []
 | (l, t) :: r => (β r.length, (A.rw β l).toArray, t) :: blD A β r
def bxAt (bl : SB) (j : Nat) : Option (List Ch × TypeId) := if j < bl.length then bl[bl.length - 1 - j]? else none
section
variable {sz : Nat → Nat} {A : Al sz} {β β' : Nat → Nat}
theorem Zbk {s : Nat} : ∀ {kn : List (Nat × SV)}, (knD A β kn).lookup s = (kn.lookup s).map (A.sv β)
 | [] => rfl
 | p :: r => by
  unfold knD
  rw [List.map_cons, List.lookup_cons, List.lookup_cons]
  by_cases h : s == p.1
  ·
   rw [h]; rfl
  ·
   rw [Bool.not_eq_true] at h
   rw [h]
   exact Zbk
theorem Zg1 {n : Nat} (e : ∀ j, j < n → β j = β' j) : ∀ {kn : List (Nat × SV)}, (kn.all fun p => p.2.wf n) = true → knD A β kn = knD A β' kn
 | [], _ => rfl
 | p :: r, h => by
  simp only [List.all_cons, Bool.and_eq_true] at h
  have := Zg1 e (kn := r) h.2
  unfold knD at this ⊢
  rw [List.map_cons, List.map_cons, this, Ze5 e h.1]
theorem Zl3 : ∀ {bl : SB} {p : Nat} {l : List Ch} {t : TypeId}, bl[p]? = some (l, t) → (blD A β bl)[p]? = some (β (bl.length - 1 - p), (A.rw β l).toArray, t)
 | [], _, _, _, h => by cases h
 | (l, t) :: r, 0, _, _, h => by cases h; simp [blD]
 | (l, t) :: r, p + 1, _, _, h => by
  have := Zl3 (bl := r) (p := p) (by simpa using h)
  rw [blD, List.getElem?_cons_succ, this, List.length_cons]
  congr 3
  omega
theorem ZcW {bl : SB} {j : Nat} {l : List Ch} {t : TypeId} (h : bxAt bl j = some (l, t)) : j < bl.length ∧ bl[bl.length - 1 - j]? = some (l, t) ∧ (blD A β bl)[bl.length - 1 - j]? = some (β j, (A.rw β l).toArray, t) := by
 unfold bxAt at h
 split at h
 ·
  rename_i hj
  refine ⟨hj, h, ?_⟩
  have := Zl3 (A := A) (β := β) h
  rwa [show bl.length - 1 - (bl.length - 1 - j) = j by omega] at this
 ·
  cases h
theorem Zg2 {n : Nat} (e : ∀ j, j < n → β j = β' j) : ∀ {bl : SB}, bl.length ≤ n → (bl.all fun p => p.1.all (Ch.wf n)) = true → blD A β bl = blD A β' bl
 | [], _, _ => rfl
 | (l, t) :: r, hl, h => by
  simp only [List.all_cons, Bool.and_eq_true, List.length_cons] at h hl
  rw [blD, blD, Zg2 e (bl := r) (by omega) h.2, Ze4 e h.1, e r.length (by omega)]
end
structure Env where
 T : Nat → List SV → Option SV
 I : String → List SV → Option SV
 X : Nat → Nat → TypeId → Option SV
 Z : TypeId → Option (List Ch)
 E : TypeId → List Ch → List Ch → Option CX
 G : List (CX × Bool)
 F : String → Nat → Bool
def lookC (G : List (CX × Bool)) (x : CX) : CX := match G.find? (fun p => CX.beq p.1 x) with
 | some p => .lit p.2
 | none => x
def simC (G : List (CX × Bool)) : CX → CX
 | .lit b => .lit b
 | .no x => match simC G x with
  | .lit b => .lit (!b)
  | y => .no y
 | .an x y => match simC G x, simC G y with
  | .lit true, z => z
  | .lit false, _ => .lit false
  | _, .lit false => .lit false
  | z, .lit true => z
  | z, t => lookC G (.an z t)
 | x => lookC G x
theorem Zfa {sz : Nat → Nat} {A : Al sz} {G : List (CX × Bool)} (hG : ∀ p ∈ G, A.cx p.1 = p.2) (x : CX) : A.cx (lookC G x) = A.cx x := by
 unfold lookC
 split
 ·
  rename_i p hp
  have h1 := List.find?_some hp
  rw [← CX.of_beq _ _ h1]
  exact (hG p (List.mem_of_find?_eq_some hp)).symm
 ·
  rfl
theorem Zc8 {sz : Nat → Nat} {A : Al sz} {G : List (CX × Bool)} (hG : ∀ p ∈ G, A.cx p.1 = p.2) : ∀ (x : CX), A.cx (simC G x) = A.cx x := by
 intro x
 induction x with
 | lit b => rfl
 | at_ i => exact Zfa hG (.at_ i)
 | lk k a b => exact Zfa hG (.lk k a b)
 | no x ih =>
  unfold simC
  split
  ·
   rename_i b hb
   rw [hb] at ih
   simp only [Al.cx] at ih ⊢
   rw [← ih]
  ·
   simp only [Al.cx, ih]
 | an x y ih1 ih2 =>
  unfold simC
  split
  ·
   rename_i hx
   rw [hx] at ih1
   simp only [Al.cx] at ih1 ⊢
   rw [ih2, ← ih1, Bool.true_and]
  ·
   rename_i hx
   rw [hx] at ih1
   simp only [Al.cx] at ih1 ⊢
   rw [← ih1, Bool.false_and]
  ·
   have hy := ‹simC G y = .lit false›
   rw [hy] at ih2
   simp only [Al.cx] at ih2 ⊢
   rw [← ih2, Bool.and_false]
  ·
   have hy := ‹simC G y = .lit true›
   rw [hy] at ih2
   simp only [Al.cx] at ih2 ⊢
   rw [ih1, ← ih2, Bool.and_true]
  ·
   rw [Zfa hG]
   simp only [Al.cx, ih1, ih2]
def fOff (P : Program) (s : TypeId) (k : Nat) : Option (Nat × TypeId) := match P.underlying s with
 | some (.struct fs) => match fs[k]? with
  | some f => match szT P f.type with
   | some 0 => none
   | some _ => some (f.offset, f.type)
   | none => none
  | none => none
 | _ => none
def isPt (P : Program) (t : TypeId) : Bool := match P.underlying t with
 | some (.pointer _) => true
 | _ => false
def binQ (P : Program) (E : Env) : BinOp → TypeId → SV → SV → Option SV
 | .eql, t, .row l, .row m => (E.E t l m).map fun c => .one (.cx (simC E.G c))
 | .neq, t, .row l, .row m => (E.E t l m).map fun c => .one (.cx (simC E.G (.no c)))
 | .eql, t, .one (.xp _ _), .one (.v (.pointer none)) => if isPt P t then some (.one (.cx (.lit false))) else none
 | .neq, t, .one (.xp _ _), .one (.v (.pointer none)) => if isPt P t then some (.one (.cx (.lit true))) else none
 | .eql, _, .one (.v (.int k a)), .one (.v (.int l b)) => if k = l then some (.one (.cx (.lit (a == b)))) else none
 | .neq, _, .one (.v (.int k a)), .one (.v (.int l b)) => if k = l then some (.one (.cx (.lit (a != b)))) else none
 | _, _, _, _ => none
def chOf : SV → Option (List Ch)
 | .row l => some l
 | .one x => some [.s x]
 | _ => none
def oneB : Value → Bool
 | .int _ _ => true
 | .bool _ => true
 | .pointer _ => true
 | .slice _ _ _ => true
 | _ => false
theorem Zg3 {x : Value} (h : oneB x = true) : x.cells = #[x] ∧ x.oneCell' = true := by
 cases x <;> simp only [oneB, Bool.false_eq_true] at h
 all_goals exact ⟨rfl, rfl⟩
def okCh : Ch → Bool
 | .s (.v x) => oneB x
 | _ => true
section
variable {sz : Nat → Nat} {A : Al sz} {β : Nat → Nat}
theorem Zg4 {v : SV} {m : List Ch} (h : chOf v = some m) (hok : m.all okCh = true) : (A.sv β v).cells = (A.rw β m).toArray := by
 cases v with
 | row l => cases h; rfl
 | one x =>
  cases h
  cases x with
  | v y =>
   simp only [List.all_cons, List.all_nil, okCh, Bool.and_true] at hok
   exact (Zg3 hok).1
  | cx y => rfl
  | xp i o => rfl
  | bp j o => rfl
  | ov i => exact (A.ho i).1
 | tup x y => cases h
 | mf x y => cases h
theorem Zk5 {m : List Ch} (hok : m.all okCh = true) : (A.rw β m).toArray.all (·.oneCell') = true := by
 have := rw_one (A := A) (β := β) (l := m) (fun x hx y e => by
  subst e
  have h := List.all_eq_true.1 hok _ hx
  cases y with
  | v z => exact (Zg3 h).2
  | cx z => rfl
  | xp i o => rfl
  | bp j o => rfl
  | ov i => exact (A.ho i).2)
 rw [Array.all_eq_true_iff_forall_mem]
 intro v hv
 exact this v (by simpa using hv)
end
def plcs (P : Program) : List Field → Option (List (Nat × Nat))
 | [] => some []
 | f :: r => match szT P f.type, plcs P r with
  | some n, some l => some ((f.offset, n) :: l)
  | _, _ => none
def plc (P : Program) (t : TypeId) : Option (Nat → Option (Nat × Nat)) := match P.underlying t with
 | some (.struct fs) => (plcs P fs.toList).map fun l i => l[i]?
 | some (.array _ e) => (szT P e).map fun n i => some (i * n, n)
 | _ => none
def bdL (sz : Nat → Nat) (p : Nat → Option (Nat × Nat)) : Nat → List Ch → List (Nat × SV) → Option (List Ch)
 | _, z, [] => some z
 | o, z, (i, x) :: r => match p i, chOf x with
  | some (q, n), some l => if decide (o ≤ q) && (n == rwN sz l && l.all okCh) then (match takeC sz z (q - o), dropC sz z (q - o) with
   | some z1, some z2 => (match takeC sz z2 n, dropC sz z2 n with
    | some _, some z3 => (bdL sz p (q + n) z3 r).map fun m => z1 ++ (l ++ m)
    | _, _ => none)
   | _, _ => none) else none
  | _, _ => none
def zc : Value → Ch
 | .bool b => .s (.cx (.lit b))
 | x => .s (.v x)
def zeR (P : Program) (t : TypeId) : Option (List Ch) := match P.info? t with
 | some i => i.zero.map fun z => z.cells.toList.map zc
 | none => none
def zeQ (P : Program) (E : Env) (t : TypeId) : Option (List Ch) := match E.Z t with
 | some z => some z
 | none => zeR P t
def bdQ (P : Program) (sz : Nat → Nat) (E : Env) (t : TypeId) (ks : List Nat) (xs : List SV) : Option SV := match plc P t with
 | some p => if ks.length == xs.length then (match (zeQ P E t).bind fun z => bdL sz p 0 z (ks.zip xs) with
  | some r => some (.row r)
  | none => ((zeR P t).bind fun z => bdL sz p 0 z (ks.zip xs)).map .row) else none
 | none => none
def ixO (P : Program) (t : TypeId) (k : Int) : Option Nat := match P.underlying t with
 | some (.array n e) => match szT P e with
  | some m => if decide (0 ≤ k) && decide (k < (n : Int)) then some (k.toNat * m) else none
  | none => none
 | _ => none
def opQ (P : Program) (sz : Nat → Nat) (E : Env) (bl : SB) : Op → List SV → Option SV
 | .move _, [x] => some x
 | .assign _, [x] => some x
 | .pick _ _ _, [.one (.cx (.lit true)), a, _] => some a
 | .pick _ _ _, [.one (.cx (.lit false)), _, b] => some b
 | .unOp .not _ _, [.one (.cx c)] => some (.one (.cx (simC E.G (.no c))))
 | .fieldAddr s _ k, [.one (.xp i q)] => (fOff P s k).map fun x => .one (.xp i (q + x.1))
 | .fieldAddr s _ k, [.one (.bp j q)] => (fOff P s k).map fun x => .one (.bp j (q + x.1))
 | .indexAddr t _ _, [.one (.bp j q), .one (.v (.int .i64 k))] => (ixO P t k).map fun o => .one (.bp j (q + o))
 | .field t _ k, [.row l] => match fOff P t k with
  | some (o, ft) => ldC P sz l o ft
  | none => none
 | .load t _, [.one (.xp i q)] => E.X i q t
 | .load t _, [.one (.bp j q)] => match bxAt bl j with
  | some (l, _) => ldC P sz l q t
  | none => none
 | .binOp op t _ _ _, [x, y] => binQ P E op t x y
 | .nilCheck _, [.one (.xp i q)] => some (.one (.xp i q))
 | .nilCheck _, [.one (.ov i)] => if E.F "Add" i then some (.one (.ov i)) else none
 | .nilCheck _, [.mf s i] => if E.F s i then some (.mf s i) else none
 | .makeFunc (.method s) fs cs, [.one (.ov i)] => if fs.size == 1 && cs.size == 0 then some (.mf s i) else none
 | .build t ps, xs => bdQ P sz E t (ps.toList.map (·.1)) xs
 | .extract _ 0, [.tup x _] => some x
 | .extract _ 1, [.tup _ y] => some y
 | _, _ => none
structure EnvOK (P : Program) {sz : Nat → Nat} (A : Al sz) (E : Env) (w : World) : Prop where
 G : ∀ p ∈ E.G, A.cx p.1 = p.2
 F : ∀ s i, E.F s i = true → ∃ t x, A.ov i = .iface t x ∧ ∀ V, (nilAhead (P.types.size + Made.depth) t x s).run P V = .ok (some false) V
 T : ∀ f xs y β V, E.T f xs = some y → Below w.heap.size w V → (∀ av W, (callFunc f av).run P W = .ok (.enter f av) W) ∧ Calls P f (xs.map (A.sv β)).toArray V fun e w' => e = .returned (A.sv β y) ∧ Below V.heap.size V w'
 I : ∀ s xs y β V, E.I s xs = some y → Below w.heap.size w V → ∃ f av, (callMethod ((xs.map (A.sv β)).headD undef) s (xs.map (A.sv β)).tail.toArray).run P V = .ok (.enter f av) V ∧ Calls P f av V fun e w' => e = .returned (A.sv β y) ∧ Below V.heap.size V w'
 X : ∀ i q t y β V, E.X i q t = some y → Below w.heap.size w V → (loadVar t ⟨A.xb i, q, none⟩).run P V = .ok (A.sv β y) V
 Z : ∀ t l β V, E.Z t = some l → ∃ z, (zeroValue t).run P V = .ok z V ∧ z.cells = (A.rw β l).toArray
 E : ∀ t l m c β V, E.E t l m = some c → P.eqGuardType P.depth t = false ∧ (Op.equalIn 10000 t (.agg (A.rw β l).toArray) (.agg (A.rw β m).toArray)).run P V = .ok (A.cx c) V
section
variable {P : Program} {sz : Nat → Nat} {A : Al sz} {E : Env} {w V : World} {β : Nat → Nat} {bl : SB}
theorem Zfb {s : TypeId} {k o : Nat} {ft : TypeId} (h : fOff P s k = some (o, ft)) : ∃ fs f, P.underlying s = some (.struct fs) ∧ fs[k]? = some f ∧ f.offset = o ∧ f.type = ft ∧ ∃ n, szT P ft = some n ∧ n ≠ 0 := by
 unfold fOff at h
 split at h
 ·
  rename_i fs hu
  split at h
  ·
   rename_i f hf
   split at h
   ·
    cases h
   ·
    rename_i n hn hs
    cases h
    exact ⟨fs, f, hu, hf, rfl, rfl, n, hs, hn⟩
   ·
    cases h
  ·
   cases h
 ·
  cases h
theorem Zbp {t : TypeId} {n : Nat} (h : szT P t = some n) (V : World) : (sizeOf t).run P V = .ok n V := by
 unfold szT at h
 obtain ⟨i, hi, rfl⟩ := Option.map_eq_some_iff.1 h
 simp [sizeOf, typeInfo, hi, Sem.run_bind]
theorem Zc9 {s : TypeId} {k o q b : Nat} {ft : TypeId} (h : fOff P s k = some (o, ft)) (V : World) : (Instr.fieldAt s (.pointer (some ⟨b, q, none⟩)) k).run P V = .ok (.pointer (some ⟨b, q + o, none⟩)) V := by
 obtain ⟨fs, f, hu, hf, rfl, rfl, n, hn, h0⟩ := Zfb h
 unfold Instr.fieldAt
 rw [Sem.run_bind, run_underlying hu V]
 simp only [Result.andThen, hf, Instr.sureAddr, Sem.run_bind, Sem.run_pure, fieldPlace, Zbp hn, if_neg h0, Addr.add_mid]
theorem Zi4 {t : TypeId} {k o : Nat} {ft : TypeId} {l : List Ch} {y : SV} (h : fOff P t k = some (o, ft)) (hy : ldC P sz l o ft = some y) (V : World) : (Instr.field t (.agg (A.rw β l).toArray) k).run P V = .ok (A.sv β y) V := by
 obtain ⟨fs, f, hu, hf, rfl, rfl, n, hn, h0⟩ := Zfb h
 unfold Instr.field
 rw [Sem.run_bind, run_underlying hu V]
 simp only [Result.andThen, hf, asAgg, Sem.run_bind, Sem.run_pure]
 unfold part
 unfold ldC at hy
 split at hy
 ·
  rename_i m h1 h2
  cases hc : cutC sz l f.offset m with
  | none => rw [hc] at hy; cases hy
  | some z =>
   rw [hc] at hy
   cases hy
   unfold isAg at h1
   obtain ⟨d, hd, hrow⟩ := Option.map_eq_some_iff.1 h1
   have hA : (isAgg f.type).run P V = .ok true V := by
    unfold isAgg
    rw [Sem.run_bind, run_underlying hd V]
    cases d <;> simp_all
   rw [Sem.run_bind, hA]
   simp only [Result.andThen, if_true, Sem.run_bind, Zbp h2, Sem.run_pure, Al.sv]
   rw [(ZeZ (A := A) (β := β) hc).1]
   congr 2
   apply Array.toList_inj.1
   simp
 ·
  rename_i m h1 h2
  split at hy
  ·
   rename_i x hc
   cases hy
   unfold isAg at h1
   obtain ⟨d, hd, hrow⟩ := Option.map_eq_some_iff.1 h1
   have hA : (isAgg f.type).run P V = .ok false V := by
    unfold isAgg
    rw [Sem.run_bind, run_underlying hd V]
    cases d <;> simp_all
   rw [Sem.run_bind, hA]
   have h3 := (ZeZ (A := A) (β := β) hc).1
   have h4 : (A.rw β l).toArray[f.offset]? = some (A.sc β x) := by
    have : ((A.rw β l).drop f.offset).take 1 = [A.sc β x] := h3.symm
    rw [List.getElem?_toArray]
    have h5 := congrArg (·[0]?) this
    simpa [List.getElem?_take, List.getElem?_drop] using h5
   simp only [Result.andThen, if_false, Bool.false_eq_true, h4, Sem.run_pure, Al.sv]
  ·
   cases hy
 ·
  cases hy
theorem Zfc : ∀ {fs : List Field} {l : List (Nat × Nat)}, plcs P fs = some l → ∀ V, (fs.mapM fun f => do pure (f.offset, ← sizeOf f.type) : Sem (List (Nat × Nat))).run P V = .ok l V
 | [], _, h, V => by
  cases h
  simp [Sem.run_pure]
 | f :: r, l, h, V => by
  unfold plcs at h
  split at h
  ·
   rename_i n m h1 h2
   cases h
   simp only [List.mapM_cons, Sem.run_bind, Zbp h1, Result.andThen, Sem.run_pure, Zfc h2 V]
  ·
   cases h
theorem Zi5 {p : Nat → Option (Nat × Nat)} : ∀ {xs : List (Nat × SV)} {o : Nat} {z r : List Ch} {pre : Array Value}, bdL sz p o z xs = some r → pre.size = o → Instr.fill p (pre ++ (A.rw β z).toArray) (xs.map fun x => (x.1, A.sv β x.2)) = some (pre ++ (A.rw β r).toArray)
 | [], _, _, _, _, h, _ => by cases h; rfl
 | (i, x) :: xs, o, z, r, pre, h, hp => by
  unfold bdL at h
  split at h
  ·
   rename_i q n l hi hl
   split at h
   ·
    rename_i hc
    simp only [Bool.and_eq_true, beq_iff_eq, decide_eq_true_eq] at hc
    obtain ⟨hq, hn, hok⟩ := hc
    split at h
    ·
     rename_i z1 z2 e1 e2
     split at h
     ·
      rename_i zn z3 e3 e4
      obtain ⟨m, hm, rfl⟩ := Option.map_eq_some_iff.1 h
      have d1 := Zdx (A := A) (β := β) e1
      have d2 := Zdw (A := A) (β := β) e2
      have d3 := Zdx (A := A) (β := β) e3
      have d4 := Zdw (A := A) (β := β) e4
      have ez : pre ++ (A.rw β z).toArray = (pre ++ (A.rw β z1).toArray) ++ ((A.rw β zn).toArray ++ (A.rw β z3).toArray) := by
       apply Array.toList_inj.1
       simp only [Array.toList_append, List.append_assoc]
       rw [d1.1, d3.1, d4, d2, List.take_append_drop, List.take_append_drop]
      rw [ez, List.map_cons, Zb6 (X := (A.rw β l).toArray) (Zg4 hl hok) (off := q) (size := n) hi (by simp [Zdl, hn]) (by simp [Zdl, d1.2, hp]; omega) (by simp [Zdl, d3.2]), ← Array.append_assoc, Zi5 hm (by simp [Zdl, d1.2, hp]; omega)]
      congr 1
      apply Array.toList_inj.1
      simp [Ze3]
     ·
      cases h
    ·
     cases h
   ·
    cases h
  ·
   cases h
theorem zc_ok (β : Nat → Nat) : ∀ (l : List Value), A.rw β (l.map zc) = l
 | [] => rfl
 | x :: l => by
  rw [List.map_cons, Al.rw, zc_ok β l]
  cases x <;> rfl
theorem Zl4 {t : TypeId} {z : List Ch} (h : zeR P t = some z) (β : Nat → Nat) (V : World) : ∃ v, (zeroValue t).run P V = .ok v V ∧ v.cells = (A.rw β z).toArray := by
 unfold zeR at h
 split at h
 ·
  rename_i i hi
  obtain ⟨v, hv, rfl⟩ := Option.map_eq_some_iff.1 h
  exact ⟨v, by simp [zeroValue, typeInfo, hi, hv, Sem.run_bind], by rw [zc_ok]⟩
 ·
  cases h
theorem Zl5 (hE : EnvOK P A E w) {t : TypeId} {z : List Ch} (h : zeQ P E t = some z) (β : Nat → Nat) (V : World) : ∃ v, (zeroValue t).run P V = .ok v V ∧ v.cells = (A.rw β z).toArray := by
 unfold zeQ at h
 split at h
 ·
  rename_i y hy
  cases h
  exact hE.Z t z β V hy
 ·
  exact Zl4 h β V
theorem Zi6 {t : TypeId} {p : Nat → Option (Nat × Nat)} (hp : plc P t = some p) {z r : List Ch} {ks : List Nat} {xs : List SV} {V : World} (hz : ∃ v, (zeroValue t).run P V = .ok v V ∧ v.cells = (A.rw β z).toArray) (hr : bdL sz p 0 z (ks.zip xs) = some r) : (Instr.build t (ks.zip (xs.map (A.sv β))).toArray).run P V = .ok (A.sv β (.row r)) V := by
 obtain ⟨zv, h1, h2⟩ := hz
 have hf := Zi5 (A := A) (β := β) (pre := #[]) hr rfl
 rw [Array.empty_append, Array.empty_append, ← h2] at hf
 have ez : ((ks.zip xs).map fun x => (x.1, A.sv β x.2)) = ks.zip (xs.map (A.sv β)) := by
  rw [List.zip_map_right]
  rfl
 rw [ez] at hf
 unfold plc at hp
 split at hp
 ·
  rename_i fs hu
  obtain ⟨l, hl, rfl⟩ := Option.map_eq_some_iff.1 hp
  have hm := Zfc hl V
  obtain ⟨fs⟩ := fs
  have hp : (Array.mapM (fun f : Field => do pure (f.offset, ← sizeOf f.type) : Field → Sem (Nat × Nat)) ⟨fs⟩).run P V = .ok l.toArray V := by
   rw [List.mapM_toArray, map_eq_pure_bind, Sem.run_bind, hm]
   rfl
  unfold Instr.build
  simp only [Sem.run_bind, h1, run_underlying hu, Result.andThen, hp]
  rw [show (fun x => l.toArray[x]?) = fun i => l[i]? from funext fun i => by simp, hf]
  rfl
 ·
  rename_i n e hu
  obtain ⟨k, hk, rfl⟩ := Option.map_eq_some_iff.1 hp
  unfold Instr.build
  simp only [Sem.run_bind, h1, run_underlying hu, Result.andThen, Zbp hk]
  rw [hf]
  rfl
 ·
  cases hp
theorem Zmv (hE : EnvOK P A E w) {t : TypeId} {ks : List Nat} {xs : List SV} {y : SV} (h : bdQ P sz E t ks xs = some y) (V : World) : (Instr.build t (ks.zip (xs.map (A.sv β))).toArray).run P V = .ok (A.sv β y) V := by
 unfold bdQ at h
 split at h
 ·
  rename_i p hp
  split at h
  ·
   split at h
   ·
    rename_i r hr
    cases h
    obtain ⟨z, hz, hr⟩ := Option.bind_eq_some_iff.1 hr
    exact Zi6 hp (Zl5 hE hz β V) hr
   ·
    obtain ⟨r, hr, rfl⟩ := Option.map_eq_some_iff.1 h
    obtain ⟨z, hz, hr⟩ := Option.bind_eq_some_iff.1 hr
    exact Zi6 hp (Zl4 hz β V) hr
  ·
   cases h
 ·
  cases h
theorem Zi7 {o : Oper} {ρ : Operand → Value} {t : TypeId} {ps : Array (Nat × Operand)} {xs : List SV} {y : SV} (hE : EnvOK P A E w) (ho : o.op = .build t ps) (hρ : (ps.toList.map (·.2)).map ρ = xs.map (A.sv β)) (h : bdQ P sz E t (ps.toList.map (·.1)) xs = some y) (V : World) : (execOp ρ o).run P V = .ok (.value (A.sv β y)) V := by
 refine Zcu ho ?_ (Zmv hE h V)
 rw [← hρ]
 apply Array.toList_inj.1
 rw [Array.toList_map, List.map_map]
 generalize ps.toList = l
 induction l with
 | nil => rfl
 | cons a l ih => simp [ih]
theorem ZfO (hE : EnvOK P A E w) {t : TypeId} {l : List Ch} (h : zeQ P E t = some l) (β : Nat → Nat) (V : World) : (Instr.alloc t true (.tuple #[])).run P V = .ok (.pointer (some ⟨V.heap.size, 0, none⟩)) (V.alloc (.cells (A.rw β l).toArray t (0, 0))) := by
 obtain ⟨z, h1, h2⟩ := Zl5 hE h β V
 unfold Instr.alloc
 rw [Sem.run_bind, h1]
 simp only [Result.andThen, newVar, newRow, h2]
 rfl
theorem ix_run {t : TypeId} {k : Int} {o q b : Nat} (h : ixO P t k = some o) (V : World) : (Instr.indexAt t (.pointer (some ⟨b, q, none⟩)) (.int .i64 k)).run P V = .ok (.pointer (some ⟨b, q + o, none⟩)) V := by
 unfold ixO at h
 split at h
 ·
  rename_i n e hu
  split at h
  ·
   rename_i m hm
   split at h
   ·
    rename_i hc
    cases h
    rw [Bool.and_eq_true, decide_eq_true_eq, decide_eq_true_eq] at hc
    unfold Instr.indexAt
    simp only [asIntOf, Sem.run_bind, Sem.run_pure, Result.andThen, run_underlying hu, Instr.sureAddr, if_pos hc, Zbp hm, Addr.add_mid]
   ·
    cases h
  ·
   cases h
 ·
  cases h
theorem Zi8 {t : TypeId} (h : isPt P t = true) : ∃ e, P.underlying t = some (.pointer e) := by
 unfold isPt at h
 split at h
 ·
  rename_i e he
  exact ⟨e, he⟩
 ·
  cases h
theorem Zl6 {t e : TypeId} (he : P.underlying t = some (.pointer e)) (a : Addr) (V : World) : (Op.equalIn 10000 t (.pointer (some a)) (.pointer none)).run P V = .ok false V := by
 show (Op.equalIn (9999 + 1) t (.pointer (some a)) (.pointer none)).run P V = .ok false V
 unfold Op.equalIn
 rw [Sem.run_bind, run_underlying he V]
 rfl
theorem Zi9 {o : Oper} {rs : List Operand} {xs : List SV} {y : SV} {ρ : Operand → Value} (hE : EnvOK P A E w) (hV : Below w.heap.size w V) (hb : ∀ j l t, bxAt bl j = some (l, t) → V.rangeAt (β j) 0 (A.rw β l)) (hr : Zbm o.op = some rs) (hρ : rs.map ρ = xs.map (A.sv β)) (h : opQ P sz E bl o.op xs = some y) : (execOp ρ o).run P V = .ok (.value (A.sv β y)) V := by
 unfold opQ at h
 split at h
 ·
  rename_i ho
  rw [ho] at hr
  cases hr
  simp only [List.map_cons, List.map_nil, List.cons.injEq, and_true] at hρ
  cases h
  exact ZdG ho hρ
 ·
  rename_i ho
  rw [ho] at hr
  cases hr
  simp only [List.map_cons, List.map_nil, List.cons.injEq, and_true] at hρ
  cases h
  exact Zbl ho hρ
 ·
  rename_i ho
  rw [ho] at hr
  cases hr
  simp only [List.map_cons, List.map_nil, List.cons.injEq, and_true] at hρ
  cases h
  unfold execOp
  simp only [ho, hρ.1, hρ.2.1, Al.sv, Al.sc, Al.cx, asBool, Sem.run_bind, Sem.run_pure, Result.andThen, if_true]
 ·
  rename_i ho
  rw [ho] at hr
  cases hr
  simp only [List.map_cons, List.map_nil, List.cons.injEq, and_true] at hρ
  cases h
  unfold execOp
  simp only [ho, hρ.1, hρ.2.2, Al.sv, Al.sc, Al.cx, asBool, Sem.run_bind, Sem.run_pure, Result.andThen, if_false, Bool.false_eq_true]
 ·
  rename_i ho
  rw [ho] at hr
  cases hr
  simp only [List.map_cons, List.map_nil, List.cons.injEq, and_true] at hρ
  cases h
  refine ex_un ho hρ ?_
  simp only [Al.sv, Al.sc, Zc8 hE.G]
  rfl
 ·
  rename_i ho
  rw [ho] at hr
  cases hr
  simp only [List.map_cons, List.map_nil, List.cons.injEq, and_true] at hρ
  obtain ⟨x, hx, rfl⟩ := Option.map_eq_some_iff.1 h
  exact Zmt ho hρ (Zc9 (ft := x.2) hx V)
 ·
  rename_i ho
  rw [ho] at hr
  cases hr
  simp only [List.map_cons, List.map_nil, List.cons.injEq, and_true] at hρ
  obtain ⟨x, hx, rfl⟩ := Option.map_eq_some_iff.1 h
  exact Zmt ho hρ (Zc9 (ft := x.2) hx V)
 ·
  rename_i ho
  rw [ho] at hr
  cases hr
  simp only [List.map_cons, List.map_nil, List.cons.injEq, and_true] at hρ
  obtain ⟨x, hx, rfl⟩ := Option.map_eq_some_iff.1 h
  exact ex_ia ho hρ.1 hρ.2 (ix_run hx V)
 ·
  rename_i ho
  rw [ho] at hr
  cases hr
  simp only [List.map_cons, List.map_nil, List.cons.injEq, and_true] at hρ
  split at h
  ·
   rename_i hf
   unfold execOp
   simp only [ho, hρ, Al.sv, Sem.run_bind, Zi4 (β := β) hf h V, Result.andThen, Sem.run_pure]
  ·
   cases h
 ·
  rename_i ho
  rw [ho] at hr
  cases hr
  simp only [List.map_cons, List.map_nil, List.cons.injEq, and_true] at hρ
  exact ZaB ho hρ (hE.X _ _ _ _ β V h hV)
 ·
  rename_i ho
  rw [ho] at hr
  cases hr
  simp only [List.map_cons, List.map_nil, List.cons.injEq, and_true] at hρ
  split at h
  ·
   rename_i hbx
   exact ZaB ho hρ (Zi3 h (hb _ _ _ hbx))
  ·
   cases h
 ·
  rename_i ho
  rw [ho] at hr
  cases hr
  simp only [List.map_cons, List.map_nil, List.cons.injEq, and_true] at hρ
  unfold binQ at h
  split at h
  ·
   obtain ⟨c, hc, rfl⟩ := Option.map_eq_some_iff.1 h
   obtain ⟨h1, h2⟩ := hE.E _ _ _ c β V hc
   rw [show A.sv β (.one (.cx (simC E.G c))) = .bool (A.cx c) by simp only [Al.sv, Al.sc, Zc8 hE.G]]
   exact ZdL _ _ _ _ ho hρ.1 hρ.2 h1 V h2
  ·
   obtain ⟨c, hc, rfl⟩ := Option.map_eq_some_iff.1 h
   obtain ⟨h1, h2⟩ := hE.E _ _ _ c β V hc
   rw [show A.sv β (.one (.cx (simC E.G (.no c)))) = .bool (!A.cx c) by simp only [Al.sv, Al.sc, Zc8 hE.G, Al.cx]]
   exact Zi2 _ _ _ _ ho hρ.1 hρ.2 h1 V h2
  ·
   split at h
   ·
    rename_i hp
    cases h
    obtain ⟨e, he⟩ := Zi8 hp
    refine ZdH ho hρ.1 hρ.2 rfl ?_
    simp only [Al.sv, Al.sc, Al.cx, binOp, Op.equal, Op.maxDepth, Sem.run_bind, Zl6 he, Result.andThen, Sem.run_pure]
   ·
    cases h
  ·
   split at h
   ·
    rename_i hp
    cases h
    obtain ⟨e, he⟩ := Zi8 hp
    refine ZdH ho hρ.1 hρ.2 rfl ?_
    simp only [Al.sv, Al.sc, Al.cx, binOp, Op.equal, Op.maxDepth, Sem.run_bind, Zl6 he, Result.andThen, Sem.run_pure]
    rfl
   ·
    cases h
  ·
   split at h
   ·
    rename_i hk
    cases h
    subst hk
    refine ZdH ho hρ.1 hρ.2 rfl ?_
    simp [binOp, Op.intCmp, Al.sv, Al.sc, Al.cx]
   ·
    cases h
  ·
   split at h
   ·
    rename_i hk
    cases h
    subst hk
    refine ZdH ho hρ.1 hρ.2 rfl ?_
    simp [binOp, Op.intCmp, Al.sv, Al.sc, Al.cx]
   ·
    cases h
  ·
   cases h
 ·
  rename_i ho
  rw [ho] at hr
  cases hr
  simp only [List.map_cons, List.map_nil, List.cons.injEq, and_true] at hρ
  cases h
  unfold execOp
  simp only [ho, hρ, Al.sv, Al.sc]
  rfl
 ·
  rename_i ho
  rw [ho] at hr
  cases hr
  simp only [List.map_cons, List.map_nil, List.cons.injEq, and_true] at hρ
  split at h
  ·
   rename_i hF
   cases h
   obtain ⟨t, x, e1, e2⟩ := hE.F _ _ hF
   unfold execOp
   simp only [ho, hρ, Al.sv, Al.sc, e1]
   rfl
  ·
   cases h
 ·
  rename_i ho
  rw [ho] at hr
  cases hr
  simp only [List.map_cons, List.map_nil, List.cons.injEq, and_true] at hρ
  split at h
  ·
   rename_i hF
   cases h
   obtain ⟨t, x, e1, e2⟩ := hE.F _ _ hF
   unfold execOp
   simp only [ho, hρ, Al.sv, e1]
   simp only [List.getElem?_toArray, List.getElem?_cons_zero, Sem.run_bind, show (program : Sem Program).run P V = .ok P V from rfl, Result.andThen, e2]
   rfl
  ·
   cases h
 ·
  rename_i fs cs _ ho
  rw [ho] at hr
  cases hr
  split at h
  ·
   rename_i hc
   cases h
   simp only [Bool.and_eq_true, beq_iff_eq] at hc
   obtain ⟨fs⟩ := fs
   obtain ⟨cs⟩ := cs
   match fs, cs, hc with
   | [a], [], _ =>
    simp only [List.append_nil, List.map_cons, List.map_nil, List.cons.injEq, and_true] at hρ
    unfold execOp
    simp only [ho, Instr.makeFunc, Sem.run_bind, Sem.run_pure, Result.andThen, Al.sv]
    simp [hρ, Al.sv, Al.sc]
  ·
   cases h
 ·
  rename_i ps ho
  rw [ho] at hr
  cases hr
  exact Zi7 hE ho hρ h V
 ·
  rename_i ho
  rw [ho] at hr
  cases hr
  simp only [List.map_cons, List.map_nil, List.cons.injEq, and_true] at hρ
  cases h
  unfold execOp
  simp only [ho, hρ, Al.sv, Instr.extract, Sem.run_bind, Sem.run_pure, Result.andThen]
  rfl
 ·
  rename_i ho
  rw [ho] at hr
  cases hr
  simp only [List.map_cons, List.map_nil, List.cons.injEq, and_true] at hρ
  cases h
  unfold execOp
  simp only [ho, hρ, Al.sv, Instr.extract, Sem.run_bind, Sem.run_pure, Result.andThen]
  rfl
 ·
  cases h
end
end Go.Proofs.YtcbdbnfgnonacaaGreat
