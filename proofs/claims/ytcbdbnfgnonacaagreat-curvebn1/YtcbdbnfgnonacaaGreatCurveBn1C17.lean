/-
  The document's products.
-/
import Derived.Test.YtcbdbnfgnonacaaGreatCurveBn1C16
set_option maxHeartbeats 4000000
set_option maxRecDepth 100000
namespace Go.Proofs.YtcbdbnfgnonacaaGreat
open Go.RowKit Go.Shelf
abbrev alD (n M : Nat) (v : Nat → Nat) (bo : Nat → Bool) : Al (fun _ => 0) where
  K := Nat
  v := fun i => if i = 100 then M else if i = 101 then 18446744073709551616 ^ n * 18446744073709551616 ^ n % M else v i
  c := fun k => k
  u := fun _ x => x ^ (M - 2) % M
  b := fun k x y => match k with
    | 0 => (x + y) % M
    | 1 => (x + (M - y)) % M
    | _ => x * y % M
  cells := fun _ _ => #[]
  hs := fun _ _ => rfl
  h1 := fun _ _ => by simp
  lk := fun k x y => match k with
    | 0 => decide (x = y)
    | _ => decide (x < y)
  bo := bo
  xb := fun _ => 0
  ov := fun _ => .bool false
  ho := fun _ => ⟨rfl, rfl⟩
def lpD (n : Nat) : Nat → List Nat → World → Value → Prop
  | 0, [x], w, v => LW w v n (limb x)
  | 1, xs, w, v => LL w v n xs
  | 2, [x], w, v => ∃ g o u, v = .pointer (some ⟨g, o, none⟩) ∧ g < w.heap.size ∧ w.cell? ⟨g, o, none⟩ = some u ∧ LW w u n (limb x)
  | 5, [M], _, v => ∃ fo : Nat, v = .int .u64 (fo : Int) ∧ (M % 18446744073709551616 * fo + 1) % 18446744073709551616 = 0
  | 6, [], _, v => v.cells = #[v] ∧ v.oneCell' = true
  | 8, [x], w, v => LW w v 4 (limb x)
  | _, _, _, _ => False
abbrev dD (n M : Nat) (v : Nat → Nat) (bo : Nat → Bool) (x : EX) : Nat := (alD n M v bo).d x
def bD (n : Nat) (hn : 2 ≤ n) (M : Nat) (v : Nat → Nat) (bo : Nat → Bool) : Bl where
  A := alD n M v bo
  lp := lpD n
  st := fun {k xs w w' v} h hb => by
    unfold lpD at h ⊢
    split at h
    · exact h.moved hb
    · exact h.moved hb
    · obtain ⟨g, o, u, e, hg, hc, hl⟩ := h
      exact ⟨g, o, u, e, Nat.lt_of_lt_of_le hg hb.size, (hb.cell (p := ⟨g, o, none⟩) hg).trans hc, hl.moved hb⟩
    · exact h
    · exact h
    · exact h.moved hb
    · exact h
  one := fun {k xs w v} h => by
    unfold lpD at h
    split at h
    · exact ⟨h.isSlice, h.oneC⟩
    · exact ⟨h.isSlice, h.oneC⟩
    · obtain ⟨g, o, u, rfl, _⟩ := h
      exact ⟨rfl, rfl⟩
    · obtain ⟨fo, rfl, _⟩ := h
      exact ⟨rfl, rfl⟩
    · exact h
    · exact ⟨h.isSlice, h.oneC⟩
    · exact h.elim
  bt := fun C => okB C 0 C.size
  bs := fun {k xs w w' v b C D t} h hok hs hC hb hx => by
    have hsafe : Safe w w' := Zca (k := 0) (D := D.toList) hC (by rw [Array.length_toList, ← hs]; exact hok) hb (by rw [Zck hs]; exact hx)
    unfold lpD at h ⊢
    split at h
    · exact h.safe hn hsafe
    · exact h.safe hn hsafe
    · obtain ⟨g, o, u, e, hg, hc, hl⟩ := h
      refine ⟨g, o, u, e, Nat.lt_of_lt_of_le hg hsafe.size, hsafe.sl _ _ _ hc ?_, hl.safe hn hsafe⟩
      obtain ⟨_, _, _, rfl, _⟩ := hl.ex
      rfl
    · exact h
    · exact h
    · exact h.safe (by decide) hsafe
    · exact h
theorem ZgP : (Tryz.prog.info? 37).map (fun i => (i.zero, i.size, i.bytes)) = some (some (.slice none 0 0), 1, 24) := by kernel_rfl
theorem undL40 : Tryz.prog.underlying 40 = some (.slice 37) := by kernel_rfl
theorem ZgQ {V : World} {u : Value} {n : Nat} {xs : List Nat} (ty : TypeId) (h0 : 0 < xs.length) (h8 : xs.length ≤ 8) (h : LL V u n xs) : ∃ v' w', (Builtin.append_ #[40, 40] ty #[.slice none 0 0, u]).run Tryz.prog V = .ok v' w' ∧ Below V.heap.size V w' ∧ LL w' v' n xs := by
  obtain ⟨g, o, c, rfl, hc1, hcm, hg, hcell⟩ := h.ex
  obtain ⟨i0, hi, hz0, hz1, hz2⟩ := info_parts ZgP
  have hex : ∀ j, ∃ u : Value, ∀ x, xs[j]? = some x → V.cell? ⟨g, o + j, none⟩ = some u ∧ LW V u n (limb x) := fun j => by
    cases hx : xs[j]? with
    | none => exact ⟨undef, fun x e => by cases e⟩
    | some x =>
      obtain ⟨u, h1, h2⟩ := hcell j x hx
      exact ⟨u, fun y e => by cases e; exact ⟨h1, h2⟩⟩
  obtain ⟨us, hus⟩ := Classical.axiomOfChoice hex
  have hlen : ((List.range xs.length).map us).length = xs.length := by simp
  have hat : ∀ j, j < xs.length → ((List.range xs.length).map us)[j]? = some (us j) := fun j hj => by simp [hj]
  have hown : V.ownsRow V.heap.size 37 1 (.slice none 0 0) 0 [] := ⟨rfl, Or.inl ⟨rfl, rfl⟩⟩
  obtain ⟨v', w', hr, hO, hgr, _⟩ := run_append_own_wide (P := Tryz.prog) V V.heap.size 40 ty 37 i0 (.slice none 0 0) 1 24 undL40 hi hz0 hz1 hz2 rfl (by omega) _ 0 [] hown ⟨g, o, none⟩ xs.length c ((List.range xs.length).map us) (by rw [hlen]; omega) (fun j v hv => by
    have hj : j < xs.length := by have := (List.getElem?_eq_some_iff.1 hv).1; rwa [hlen] at this
    rw [hat j hj] at hv
    cases hv
    rw [Addr.add_mid]
    exact (hus j _ (List.getElem?_eq_getElem hj)).1) (fun v hv => by
    obtain ⟨j, hj, rfl⟩ := List.mem_map.1 hv
    exact (hus j _ (List.getElem?_eq_getElem (List.mem_range.1 hj))).2.oneC) (by unfold maxLen; omega) (by omega) (Nat.le_refl _)
  have hB : Below V.heap.size V w' := (Below.refl _ _).grown hgr (Nat.le_refl _) (fun x hx => (hown.lt x hx).1)
  refine ⟨v', w', hr, hB, ?_⟩
  rcases hO with ⟨_, ⟨rfl, h9⟩ | ⟨g', cap', cur, rfl, h1, h2, h3, h4, h5, h6⟩⟩
  · omega
  · rw [Nat.zero_add] at h3 h6 ⊢
    refine ⟨g', 0, cap', rfl, h3, h4, Zab h2, fun j x hx => ?_⟩
    have hj : j < xs.length := (List.getElem?_eq_some_iff.1 hx).1
    refine ⟨us j, ?_, ((hus j x hx).2).moved hB⟩
    refine Zac h2 ?_
    rw [Nat.mul_one, List.nil_append] at h6
    rw [Nat.zero_add]
    have e : cur[j]? = (cur.toList.take xs.length)[j]? := by
      rw [List.getElem?_take, if_pos hj, Array.getElem?_toList]
    rw [e, h6, hat j hj]
def red (fl : Nat → Bool) : EX → Bool
  | .v i => fl i && (i != 100 && i != 101)
  | .c k => decide (k < 3)
  | .u _ _ => true
  | .b _ _ _ => true
abbrev nmE (x : EX) : YV := .one (.nm 0 [x])
abbrev lsE (ts : List EX) : YV := .one (.nm 1 ts)
abbrev fdE : List YC := [.nm 0 [.v 100], .nm 5 [.v 100], .nm 0 [.v 101]]
def tD (fl : Nat → Bool) (f : Nat) (xs : List YV) : Option YV := match xs with
  | [.row [.nm 0 [.v 100], .nm 5 [.v 100], .nm 0 [.v 101]], .one (.nm 0 [x]), .one (.nm 0 [y])] => if f = 165 ∧ red fl x = true ∧ red fl y = true then some (nmE (.b 2 x y)) else none
  | [.row [.nm 0 [.v 100], .nm 5 [.v 100], .nm 0 [.v 101]], .one (.nm 0 [x])] => if f = 167 ∧ red fl x = true then some (nmE (.u 0 x)) else none
  | [.row [.nm 0 [.v 100], .nm 5 [.v 100], .nm 0 [.v 101]], .one (.v (.int .u64 k))] => if f = 88 ∧ 0 ≤ k ∧ k < 3 then some (nmE (.c k.toNat)) else none
  | [.one (.nm 0 [x]), .one (.nm 0 [y]), .one (.nm 0 [.v 100])] => if f = 166 ∧ red fl x = true ∧ red fl y = true then some (nmE (.b 0 x y)) else if f = 143 ∧ red fl x = true ∧ red fl y = true then some (nmE (.b 1 x y)) else none
  | _ => none
def qD : Op → List YV → Option YV
  | .indexAddr t _ _, [.one (.nm 1 ts), .one (.v (.int .i64 k))] => if t = 40 ∧ 0 ≤ k then (ts[k.toNat]?).map fun x => .one (.nm 2 [x]) else none
  | .load t _, [.one (.nm 2 [x])] => if t = 37 then some (nmE x) else none
  | .call ⟨.builtin .len, args, ts⟩, [.one (.nm 1 xs)] => if args.size = 1 ∧ ts = #[40] then some (.one (.v (.int .i64 xs.length))) else none
  | .call ⟨.builtin .append, args, ts⟩, [.one (.v (.slice none 0 0)), .one (.nm 1 us)] => if args.size = 2 ∧ ts = #[40, 40] ∧ 0 < us.length ∧ us.length ≤ 8 then some (lsE us) else none
  | .buildSlice t n ps, [.one (.nm 0 [x])] => if t = 40 ∧ n = 1 ∧ ps.toList.map (·.1) = [0] then some (lsE [x]) else none
  | .buildSlice t n ps, [.one (.nm 0 [x]), .one (.nm 0 [y])] => if t = 40 ∧ n = 2 ∧ ps.toList.map (·.1) = [0, 1] then some (lsE [x, y]) else none
  | _, _ => none
def envD (G : List (CX × Bool)) (fl : Nat → Bool) (T : Nat → List YV → Option YV) : Env2 := ⟨aheadY (tD fl) T, qD, G, fun C => okB C 0 C.size⟩
section
variable {n M : Nat} {hn : 2 ≤ n} (hM : FM n M) {v : Nat → Nat} {bo : Nat → Bool} {fl : Nat → Bool} {G : List (CX × Bool)} {w : World}
include hM
theorem Zdp (hv : ∀ i, fl i = true → v i < M) {x : EX} (h : red fl x = true) : dD n M v bo x < M := by
  cases x with
  | v i =>
    simp only [red, Bool.and_eq_true, bne_iff_ne, ne_eq] at h
    show (if i = 100 then M else if i = 101 then _ else v i) < M
    rw [if_neg h.2.1, if_neg h.2.2]
    exact hv i h.1
  | c k =>
    simp only [red, decide_eq_true_eq] at h
    have := hM.ge
    show k < M
    omega
  | u k x => exact Nat.mod_lt _ hM.pos
  | b k x y =>
    match k with
    | 0 => exact Nat.mod_lt _ hM.pos
    | 1 => exact Nat.mod_lt _ hM.pos
    | _ + 2 => exact Nat.mod_lt _ hM.pos
omit hM in
theorem ZmO {β : Nat → Nat} {V : World} {u : Value} (h : (bD n hn M v bo).vd β V (.row fdE) u) : FF V u n M := by
  obtain ⟨vs, rfl, h⟩ := h
  match vs, h with
  | [a, b, c], ⟨h1, h2, h3, _⟩ =>
    obtain ⟨fo, rfl, hfo⟩ := h2
    exact ⟨a, fo, c, rfl, h1, h3, hfo⟩
theorem tD_ok (hv : ∀ i, fl i = true → v i < M) : TOK2 Tryz.prog (bD n hn M v bo) (tD fl) w := fun f xs y h => by
  unfold tD at h
  split at h
  · rename_i x y
    split at h
    · rename_i e
      obtain ⟨rfl, hx, hy⟩ := e
      cases h
      refine ⟨en Tryz.func165, fun β V vs hV hvs => ?_⟩
      match vs, hvs with
      | [a, b, c], ⟨h1, h2, h3, _⟩ => exact (ZdF hM _ _ (Zdp hM hv hx) (Zdp hM hv hy) V a b c (ZmO h1) h2 h3).mono fun e w' h => h
    · cases h
  · rename_i x
    split at h
    · rename_i e
      obtain ⟨rfl, hx⟩ := e
      cases h
      refine ⟨en Tryz.func167, fun β V vs hV hvs => ?_⟩
      match vs, hvs with
      | [a, b], ⟨h1, h2, _⟩ => exact (Zh5 hM _ (Zdp hM hv hx) V a b (ZmO h1) h2).mono fun e w' h => h
    · cases h
  · rename_i k
    split at h
    · rename_i e
      obtain ⟨rfl, h0, h3⟩ := e
      cases h
      refine ⟨en Tryz.func88, fun β V vs hV hvs => ?_⟩
      match vs, hvs with
      | [a, b], ⟨h1, h2, _⟩ =>
        obtain ⟨j, rfl⟩ := Int.eq_ofNat_of_zero_le h0
        have e : b = .int .u64 (j : Int) := h2
        subst e
        exact (Zct hM j (by omega) V a (ZmO h1)).mono fun e w' h => h
    · cases h
  · rename_i x y
    split at h
    · rename_i e
      obtain ⟨rfl, hx, hy⟩ := e
      cases h
      refine ⟨en Tryz.func166, fun β V vs hV hvs => ?_⟩
      match vs, hvs with
      | [a, b, c], ⟨h1, h2, h3, _⟩ => exact (Zgx hM.n8 _ _ M (Zdp hM hv hx) (Zdp hM hv hy) hM.lt V a b c h1 h2 h3).mono fun e w' h => h
    · split at h
      · rename_i e
        obtain ⟨rfl, hx, hy⟩ := e
        cases h
        refine ⟨en Tryz.func143, fun β V vs hV hvs => ?_⟩
        match vs, hvs with
        | [a, b, c], ⟨h1, h2, h3, _⟩ => exact (Zgy hM.n8 _ _ M (Zdp hM hv hx) (Zdp hM hv hy) hM.lt V a b c h1 h2 h3).mono fun e w' h => h
      · cases h
  · cases h
omit hM in
theorem qD_ok (o : Oper) (rs : List Operand) (xs : List YV) (y : YV) (hr : Zbm o.op = some rs) (h : qD o.op xs = some y) : isAlO o = false ∧ ∀ β V (ρ : Operand → Value), Below w.heap.size w V → (bD n hn M v bo).vds β V xs (rs.map ρ) → ∃ u w', (execOp ρ o).run Tryz.prog V = .ok (.value u) w' ∧ Below V.heap.size V w' ∧ (bD n hn M v bo).vd β w' y u := by
  unfold qD at h
  split at h
  · rename_i t a b ts k ho
    rw [ho] at hr
    cases hr
    split at h
    · rename_i e
      obtain ⟨rfl, h0⟩ := e
      obtain ⟨x, hx, rfl⟩ := Option.map_eq_some_iff.1 h
      refine ⟨by unfold isAlO; rw [ho], fun β V ρ hV hρ => ?_⟩
      obtain ⟨j, rfl⟩ := Int.eq_ofNat_of_zero_le h0
      have h1 : LL V (ρ a) n (ts.map (dD n M v bo)) := hρ.1
      have h2 : ρ b = .int .i64 (j : Int) := hρ.2.1
      obtain ⟨g, o', c, e1, hc, _, hg, hcell⟩ := h1.ex
      have hj : j < ts.length := (List.getElem?_eq_some_iff.1 hx).1
      obtain ⟨u, hu, hl⟩ := hcell j (dD n M v bo x) (by rw [List.getElem?_map]; simp at hx; rw [hx]; rfl)
      refine ⟨_, V, ex_ia ho e1 h2 (ixL g o' _ c j (by rw [List.length_map]; exact hj) V), Below.refl _ _, g, o' + j, u, rfl, hg, hu, hl⟩
    · cases h
  · rename_i t a x ho
    rw [ho] at hr
    cases hr
    split at h
    · rename_i e
      subst e
      cases h
      refine ⟨by unfold isAlO; rw [ho], fun β V ρ hV hρ => ?_⟩
      obtain ⟨g, o', u, e1, hg, hc, hl⟩ := hρ.1
      exact ⟨u, V, ZaB ho e1 (ld1 (by kernel_rfl) hc), Below.refl _ _, hl⟩
    · cases h
  · rename_i args ts xs ho
    rw [ho] at hr
    cases hr
    split at h
    · rename_i e
      obtain ⟨hs, rfl⟩ := e
      cases h
      refine ⟨by unfold isAlO; rw [ho], fun β V ρ hV hρ => ?_⟩
      obtain ⟨args⟩ := args
      match args, hs with
      | [a], _ =>
        have h1 : LL V (ρ a) n (xs.map (dD n M v bo)) := hρ.1
        obtain ⟨g, o', c, e1, _⟩ := h1.ex
        refine ⟨_, V, ex_len ho e1 ?_, Below.refl _ _, rfl⟩
        have hu : Tryz.prog.underlying 40 = some (.slice 37) := by kernel_rfl
        simp [Builtin.len_, Sem.run_bind, run_underlying hu, goInt]
    · cases h
  · rename_i args ts us ho
    rw [ho] at hr
    cases hr
    split at h
    · rename_i e
      obtain ⟨hs, rfl, h0, h8⟩ := e
      cases h
      refine ⟨by unfold isAlO; rw [ho], fun β V ρ hV hρ => ?_⟩
      obtain ⟨args⟩ := args
      match args, hs with
      | [a, b], _ =>
        have h1 : ρ a = .slice none 0 0 := hρ.1
        have h2 : LL V (ρ b) n (us.map (dD n M v bo)) := hρ.2.1
        obtain ⟨v', w', e1, hb, hl⟩ := ZgQ o.type (by rw [List.length_map]; exact h0) (by rw [List.length_map]; exact h8) h2
        exact ⟨v', w', Ziw ho h1 rfl e1, hb, hl⟩
    · cases h
  · rename_i t m ps x ho
    rw [ho] at hr
    cases hr
    split at h
    · rename_i e
      obtain ⟨rfl, rfl, hps⟩ := e
      cases h
      refine ⟨by unfold isAlO; rw [ho], fun β V ρ hV hρ => ?_⟩
      obtain ⟨ps⟩ := ps
      match ps, hps with
      | [(_, a)], rfl =>
        have h1 : LW V (ρ a) n (limb (dD n M v bo x)) := hρ.1
        exact ⟨_, _, ZeX (vs := #[(0, ρ a)]) ho (by simp) (bs1 V h1.isSlice), Zaq _ _, LL.mk1 h1⟩
    · cases h
  · rename_i t m ps x z ho
    rw [ho] at hr
    cases hr
    split at h
    · rename_i e
      obtain ⟨rfl, rfl, hps⟩ := e
      cases h
      refine ⟨by unfold isAlO; rw [ho], fun β V ρ hV hρ => ?_⟩
      obtain ⟨ps⟩ := ps
      match ps, hps with
      | [(_, a), (_, b)], rfl =>
        have h1 : LW V (ρ a) n (limb (dD n M v bo x)) := hρ.1
        have h2 : LW V (ρ b) n (limb (dD n M v bo z)) := hρ.2.1
        exact ⟨_, _, ZeX (vs := #[(0, ρ a), (1, ρ b)]) ho (by simp) (bs2 V h1.isSlice h2.isSlice), Zaq _ _, LL.mk2 h1 h2⟩
    · cases h
  · cases h
theorem Zj4 (hv : ∀ i, fl i = true → v i < M) (hG : ∀ x ∈ G, (alD n M v bo).cx x.1 = x.2) {T : Nat → List YV → Option YV} (hT : TOK2 Tryz.prog (bD n hn M v bo) T w) : EnvOK2 Tryz.prog (bD n hn M v bo) (envD G fl T) w where
  G := hG
  T := ZbA (tD_ok hM hv) hT
  Q := qD_ok
  S := fun _ h => h
end
def noY : Nat → List YV → Option YV := fun _ _ => none
theorem Zdq {P : Program} {B : Bl} (w : World) : TOK2 P B noY w := fun _ _ _ h => by cases h
abbrev ccE (d : Int) (bs xs ys : List EX) : YV := .row [.nm 0 [.v 100], .nm 5 [.v 100], .nm 0 [.v 101], .v (.int .i64 d), .nm 1 bs, .nm 8 [.v 110], .nm 1 xs, .nm 1 ys, .cx (.lit false)]
def flD : Nat → Bool := fun i => decide (i < 50) || i == 102 || i == 103 || i == 111 || i == 112 || i == 113 || i == 114
set_option maxRecDepth 100000
theorem mixedY : Tryz.prog.follows .mixedOrders = true := by kernel_rfl
noncomputable def ensY : List (TEn Tryz.prog) := [⟨92, Tryz.f92, Tryz.func92, enters_of Tryz.func92 (by kernel_rfl) rfl⟩,
  ⟨93, Tryz.f93, Tryz.func93, enters_of Tryz.func93 (by kernel_rfl) rfl⟩,
  ⟨115, Tryz.f115, Tryz.func115, enters_of Tryz.func115 (by kernel_rfl) rfl⟩,
  ⟨120, Tryz.f120, Tryz.func120, enters_of Tryz.func120 (by kernel_rfl) rfl⟩,
  ⟨121, Tryz.f121, Tryz.func121, enters_of Tryz.func121 (by kernel_rfl) rfl⟩,
  ⟨175, Tryz.f175, Tryz.func175, enters_of Tryz.func175 (by kernel_rfl) rfl⟩,
  ⟨140, Tryz.f140, Tryz.func140, enters_of Tryz.func140 (by kernel_rfl) rfl⟩,
  ⟨176, Tryz.f176, Tryz.func176, enters_of Tryz.func176 (by kernel_rfl) rfl⟩,
  ⟨177, Tryz.f177, Tryz.func177, enters_of Tryz.func177 (by kernel_rfl) rfl⟩,
  ⟨118, Tryz.f118, Tryz.func118, enters_of Tryz.func118 (by kernel_rfl) rfl⟩]
noncomputable def tabY : Nat → Option Func := tabL ensY
noncomputable abbrev runD (G : List (CX × Bool)) (X : Nat → List YV → Option YV) (fn : Func) (args : List YV) : Option YV := runY Tryz.prog (envD G flD (aheadY X (TkY Tryz.prog (fun T => envD G flD (aheadY X T)) tabY 6))) fn 200 args
theorem Zh7 {n M : Nat} (hn : 2 ≤ n) (hM : FM n M) {v : Nat → Nat} {bo : Nat → Bool} (hv : ∀ i, flD i = true → v i < M) (G : List (CX × Bool)) (hG : ∀ x ∈ G, (alD n M v bo).cx x.1 = x.2) {w : World} {X : Nat → List YV → Option YV} (hX : TOK2 Tryz.prog (bD n hn M v bo) X w) {f : Nat} {fn : Func} (hf : Tryz.prog.funcs[f]? = some fn) {args : List YV} {y : YV} (h : runD G X fn args = some y) {vs : List Value} (hvs : (bD n hn M v bo).vds (fun _ => 0) w args vs) :
    Calls Tryz.prog f vs.toArray w fun e w' => (∃ u, e = .returned u ∧ (bD n hn M v bo).vd (fun _ => 0) w' y u) ∧ Below w.heap.size w w' :=
  run_Y mixedY (Zj4 hM hv hG (ZbA hX (ZlU mixedY (Zg8 ensY) (fun _ _ hV hT => Zj4 hM hv hG (ZbA (hX.mono hV) hT)) 6 w (Below.refl _ _)))) hf h hvs
noncomputable abbrev K1 := ccE 1 [.v 102] [.v 111] [.v 113]
theorem Zj5 {n X : Nat} (hX : X < 18446744073709551616 ^ n) (h : ∀ j, j < n → limb X j = 0) : X = 0 := by
  have := ZbL hX n 0 (by omega) (fun j _ hj => h j hj)
  rw [Nat.pow_zero] at this
  omega
theorem Zei {n : Nat} (hn : n ≤ 8) (X : Nat) (hX : X < 18446744073709551616 ^ n) (w : World) (u : Value) (hu : LW w u n (limb X)) : Calls Tryz.prog 113 #[u] w fun r w' => r = .returned (.bool (decide (X = 0))) ∧ Below w.heap.size w w' := by
  obtain ⟨g1, o1, c1, rfl, _, _, l1, h1⟩ := hu.ex
  have H1 := hideP h1
  have HX := hideP hX
  have HN := hideP hn
  clear h1 hu hX hn
  go_enter Tryz.func113, Tryz.ntmps113
  go_wp2_with fail
  go_loopw [7] (fun i wr => ∃ k : Nat, k ≤ n ∧ i = .int .i64 k ∧ (∀ j, j < k → limb X j = 0) ∧ Below w.heap.size w wr) (fun i _ => n - (intOf i).toNat)
  case atStart => exact ⟨0, Nat.zero_le _, rfl, fun j h => absurd h (by omega), Below.refl _ _⟩
  case round =>
    obtain ⟨k, hk, rfl, heq, hb⟩ := hrel
    have hn := HN.out
    by_cases hlt : k < n
    · have ca : wr.cell? ⟨g1, o1 + k, none⟩ = some (.int .u64 (limb X k)) := (hb.cell (p := ⟨g1, o1 + k, none⟩) l1).trans (H1.out _ hlt)
      have HB := hideP hb
      have hlt' : (k : Int) < n := by omega
      have e4 : IntKind.i64.wrap ((k : Int) + 1) = (k : Int) + 1 := by rw [IntKind.wrap_i64]; omega
      have HKS : Hid (k + 1 ≤ n) := hlt
      by_cases hz : limb X k = 0
      · have HE : Hid (∀ j, j < k + 1 → limb X j = 0) := fun j h => by
          by_cases h3 : j = k
          · rw [h3]; exact hz
          · exact heq j (by omega)
        rw [hz] at ca
        clear heq hb hz hk hlt hn
        go_wp2_with fail
        refine ⟨⟨k + 1, HKS.out, by go_num, HE.out, by first | exact HB.out | exact HB.out.drew⟩, ?_⟩
        have := HKS.out
        simp [intOf] <;> omega
      · have HR : Hid (X ≠ 0) := fun e => hz (by rw [e]; exact ZcG (n := 0) (by decide) (Nat.zero_le _))
        have hne2 : ¬ ((limb X k : Int) = 0) := by omega
        generalize limb X k = x at *
        clear heq hb hz hk hlt hn
        go_wp2_with fail
        go_ret
        exact ⟨by rw [decide_eq_false HR.out] <;> rfl, by first | exact HB.out | exact HB.out.drew⟩
    · have hnl : ¬ (k : Int) < n := by omega
      have HB := hideP hb
      have HE : Hid (X = 0) := Zj5 HX.out (fun j h => heq j (by omega))
      clear heq hb hk hlt hn
      go_wp2
      go_ret
      exact ⟨by rw [decide_eq_true HE.out] <;> rfl, HB.out⟩
theorem ZgR {n X Y : Nat} (hX : X < 18446744073709551616 ^ n) (hY : Y < 18446744073709551616 ^ n) (h : ∀ j, j < n → limb X j = limb Y j) : X = Y := by
  rw [← Zal hX, ← Zal hY]
  exact Za0 _ (fun j hj => h j hj)
theorem Zfw {n : Nat} (hn : n ≤ 8) (xs ys : List Nat) (hl : xs.length ≤ 8) (hlen : ys.length = xs.length) (hX : ∀ x, x ∈ xs → x < 18446744073709551616 ^ n) (hY : ∀ x, x ∈ ys → x < 18446744073709551616 ^ n) (w : World) (u v : Value) (hu : LL w u n xs) (hv : LL w v n ys) : Calls Tryz.prog 114 #[u, v] w fun r w' => r = .returned (.bool (decide (xs = ys))) ∧ Below w.heap.size w w' := by
  obtain ⟨g1, o1, c1, rfl, _, _, l1, h1⟩ := hu.ex
  obtain ⟨g2, o2, c2, rfl, _, _, l2, h2⟩ := hv.ex
  have H1 := hideP h1
  have H2 := hideP h2
  have HX := hideP hX
  have HY := hideP hY
  have HN := hideP hn
  have HL := hideP hl
  have HLE := hideP hlen
  clear h1 h2 hu hv hX hY hn hl
  rw [hlen]
  clear hlen
  generalize hL : xs.length = L at *
  go_enter Tryz.func114, Tryz.ntmps114
  go_wp2_with fail
  go_loopw [9] (fun i wr => ∃ k : Nat, k ≤ L ∧ i = .int .i64 k ∧ (∀ j, j < k → xs[j]? = ys[j]?) ∧ Below w.heap.size w wr) (fun i _ => L - (intOf i).toNat)
  case atStart => exact ⟨0, Nat.zero_le _, rfl, fun j h => absurd h (by omega), Below.refl _ _⟩
  case round =>
    obtain ⟨k, hk, rfl, heq, hb⟩ := hrel
    by_cases hlt : k < L
    · have hx := List.getElem?_eq_getElem (l := xs) (i := k) (by omega)
      have hy := List.getElem?_eq_getElem (l := ys) (i := k) (by have := HLE.out; omega)
      obtain ⟨u1, cu, LU⟩ := H1.out k _ hx
      obtain ⟨v1, cv, LV⟩ := H2.out k _ hy
      have mx := HX.out _ (List.getElem_mem (l := xs) (n := k) (by omega))
      have my := HY.out _ (List.getElem_mem (l := ys) (n := k) (by have := HLE.out; omega))
      generalize xs[k]'(by omega) = X at *
      generalize ys[k]'(by have := HLE.out; omega) = Y at *
      obtain ⟨g3, o3, c3, rfl, _, _, l3, h3⟩ := LU.ex
      obtain ⟨g4, o4, c4, rfl, _, _, l4, h4⟩ := LV.ex
      have H3 := hideP h3
      have H4 := hideP h4
      have MXY : Hid (X < 18446744073709551616 ^ n ∧ Y < 18446744073709551616 ^ n) := ⟨mx, my⟩
      have HXS := hideP hx
      have HYS := hideP hy
      have HB := hideP hb
      have HE := hideP heq
      have ca := (hb.cell (p := ⟨g1, o1 + k, none⟩) l1).trans cu
      have cb := (hb.cell (p := ⟨g2, o2 + k, none⟩) l2).trans cv
      have CA := hideP cu
      have CB := hideP cv
      have hlt' : (k : Int) < L := by omega
      have e4 : IntKind.i64.wrap ((k : Int) + 1) = (k : Int) + 1 := by rw [IntKind.wrap_i64]; have := HL.out; omega
      have HKS : Hid (k + 1 ≤ L) := hlt
      clear h3 h4 LU LV hx hy mx my hb heq hlt hk cu cv
      go_wp2_with fail
      go_loopw [17] (fun i wq => ∃ j : Nat, j ≤ n ∧ i = .int .i64 j ∧ (∀ i, i < j → limb X i = limb Y i) ∧ Below w.heap.size w wq) (fun i _ => n - (intOf i).toNat)
      case atStart => exact ⟨0, Nat.zero_le _, rfl, fun j h => absurd h (by omega), by first | exact HB.out | exact HB.out.drew⟩
      case round =>
        obtain ⟨j, hj, rfl, heq, hb⟩ := hrel
        have hn := HN.out
        have ca : wr.cell? ⟨g1, o1 + k, none⟩ = some _ := (hb.cell (p := ⟨g1, o1 + k, none⟩) l1).trans CA.out
        have cb : wr.cell? ⟨g2, o2 + k, none⟩ = some _ := (hb.cell (p := ⟨g2, o2 + k, none⟩) l2).trans CB.out
        by_cases hjn : j < n
        · have cc : wr.cell? ⟨g3, o3 + j, none⟩ = some _ := (hb.cell (p := ⟨g3, o3 + j, none⟩) l3).trans (H3.out _ hjn)
          have cd : wr.cell? ⟨g4, o4 + j, none⟩ = some _ := (hb.cell (p := ⟨g4, o4 + j, none⟩) l4).trans (H4.out _ hjn)
          have HB2 := hideP hb
          have hjn' : (j : Int) < n := by omega
          have e5 : IntKind.i64.wrap ((j : Int) + 1) = (j : Int) + 1 := by rw [IntKind.wrap_i64]; omega
          have HKJ : Hid (j + 1 ≤ n) := hjn
          by_cases hz : limb X j = limb Y j
          · have HE2 : Hid (∀ i, i < j + 1 → limb X i = limb Y i) := fun i h => by
              by_cases h3 : i = j
              · rw [h3]; exact hz
              · exact heq i (by omega)
            rw [hz] at cc
            generalize limb Y j = y at *
            generalize limb X j = x at *
            clear heq hb hz hj hjn hn
            go_wp2_with fail
            go_region
            go_wp2_with fail
            refine ⟨⟨j + 1, HKJ.out, by go_num, HE2.out, by first | exact HB2.out.drew | exact HB2.out⟩, ?_⟩
            have := HKJ.out
            simp [intOf] <;> omega
          · have HR : Hid (xs ≠ ys) := fun e => hz (by have e1 := HXS.out; rw [e, HYS.out] at e1; cases e1; rfl)
            have hne2 : ¬ ((limb X j : Int) = (limb Y j : Int)) := by omega
            generalize limb Y j = y at *
            generalize limb X j = x at *
            clear heq hb hz hj hjn hn
            go_wp2_with fail
            go_region
            go_wp2_with fail
            go_ret
            exact ⟨by rw [decide_eq_false HR.out] <;> rfl, by first | exact HB2.out.drew | exact HB2.out⟩
        · have hnl : ¬ (j : Int) < n := by omega
          have HB2 := hideP hb
          have HXY : Hid (X = Y) := ZgR MXY.out.1 MXY.out.2 (fun i h => heq i (by omega))
          have HE2 : Hid (∀ j, j < k + 1 → xs[j]? = ys[j]?) := fun i h => by
            by_cases h3 : i = k
            · rw [h3, HXS.out, HYS.out, HXY.out]
            · exact HE.out i (by omega)
          clear heq hb hj hjn hn
          go_wp2_with fail
          refine ⟨⟨k + 1, HKS.out, by go_num, HE2.out, HB2.out⟩, ?_⟩
          have := HKS.out
          simp [intOf] <;> omega
    · have hnl : ¬ (k : Int) < L := by omega
      have HB := hideP hb
      have HE : Hid (xs = ys) := List.ext_getElem? fun j => by
        by_cases h : j < L
        · exact heq j (by omega)
        · rw [List.getElem?_eq_none (by omega), List.getElem?_eq_none (by have := HLE.out; omega)]
      clear heq hb hk hlt
      go_wp2
      go_ret
      exact ⟨by rw [decide_eq_true HE.out] <;> rfl, HB.out⟩
def tZ (G : List (CX × Bool)) (fl : Nat → Bool) (f : Nat) (xs : List YV) : Option YV := match xs with
  | [.one (.nm 0 [x])] => if f = 113 ∧ red fl x = true then some (.one (.cx (simC G (.lk 0 x (.c 0))))) else none
  | [.one (.nm 1 [x]), .one (.nm 1 [y])] => if f = 114 ∧ red fl x = true ∧ red fl y = true then some (.one (.cx (simC G (.lk 0 x y)))) else none
  | [.one (.nm 1 [x, a]), .one (.nm 1 [y, b])] => if f = 114 ∧ (red fl x = true ∧ red fl a = true) ∧ red fl y = true ∧ red fl b = true then some (.one (.cx (simC G (.an (.lk 0 x y) (.lk 0 a b))))) else none
  | _ => none
theorem ZmP {n M : Nat} {hn : 2 ≤ n} (hM : FM n M) {v : Nat → Nat} {bo : Nat → Bool} {fl : Nat → Bool} {G : List (CX × Bool)} {w : World} (hv : ∀ i, fl i = true → v i < M) (hG : ∀ x ∈ G, (alD n M v bo).cx x.1 = x.2) : TOK2 Tryz.prog (bD n hn M v bo) (tZ G fl) w := fun f xs y h => by
  have lt : ∀ {x : EX}, red fl x = true → dD n M v bo x < 18446744073709551616 ^ n := fun hx => Nat.lt_trans (Zdp hM hv hx) hM.lt
  unfold tZ at h
  split at h
  · rename_i x
    split at h
    · rename_i e
      obtain ⟨rfl, hx⟩ := e
      cases h
      refine ⟨en Tryz.func113, fun β V vs hV hvs => ?_⟩
      match vs, hvs with
      | [a], ⟨h1, _⟩ =>
        refine (Zei hM.n8 _ (lt hx) V a h1).mono fun e w' h => ⟨⟨_, h.1, ?_⟩, h.2⟩
        show _ = Value.bool ((alD n M v bo).cx (simC G (.lk 0 x (.c 0))))
        rw [Zc8 hG]
        rfl
    · cases h
  · rename_i x y
    split at h
    · rename_i e
      obtain ⟨rfl, hx, hy⟩ := e
      cases h
      refine ⟨en Tryz.func114, fun β V vs hV hvs => ?_⟩
      match vs, hvs with
      | [a, b], ⟨h1, h2, _⟩ =>
        refine (Zfw hM.n8 [dD n M v bo x] [dD n M v bo y] (by simp) rfl (fun z hz => by cases List.mem_singleton.1 hz; exact lt hx) (fun z hz => by cases List.mem_singleton.1 hz; exact lt hy) V a b h1 h2).mono fun e w' h => ⟨⟨_, h.1, ?_⟩, h.2⟩
        show _ = Value.bool ((alD n M v bo).cx (simC G (.lk 0 x y)))
        rw [Zc8 hG]
        simp [Al.cx, dD]
    · cases h
  · rename_i x a y b
    split at h
    · rename_i e
      obtain ⟨rfl, ⟨hx, ha⟩, hy, hb⟩ := e
      cases h
      refine ⟨en Tryz.func114, fun β V vs hV hvs => ?_⟩
      match vs, hvs with
      | [p, q], ⟨h1, h2, _⟩ =>
        refine (Zfw hM.n8 [dD n M v bo x, dD n M v bo a] [dD n M v bo y, dD n M v bo b] (by simp) rfl (fun z hz => by rcases List.mem_cons.1 hz with rfl | hz; exact lt hx; cases List.mem_singleton.1 hz; exact lt ha) (fun z hz => by rcases List.mem_cons.1 hz with rfl | hz; exact lt hy; cases List.mem_singleton.1 hz; exact lt hb) V p q h1 h2).mono fun e w' h => ⟨⟨_, h.1, ?_⟩, h.2⟩
        show _ = Value.bool ((alD n M v bo).cx (simC G (.an (.lk 0 x y) (.lk 0 a b))))
        rw [Zc8 hG]
        simp [Al.cx, dD]
    · cases h
  · cases h
noncomputable abbrev runZ (G : List (CX × Bool)) (fn : Func) (args : List YV) : Option YV := runD G (tZ G flD) fn args
theorem Zga {n M : Nat} (hn : 2 ≤ n) (hM : FM n M) {v : Nat → Nat} {bo : Nat → Bool} (hv : ∀ i, flD i = true → v i < M) (G : List (CX × Bool)) (hG : ∀ x ∈ G, (alD n M v bo).cx x.1 = x.2) {w : World} {f : Nat} {fn : Func} (hf : Tryz.prog.funcs[f]? = some fn) {args : List YV} {y : YV} (h : runZ G fn args = some y) {vs : List Value} (hvs : (bD n hn M v bo).vds (fun _ => 0) w args vs) :
    Calls Tryz.prog f vs.toArray w fun e w' => (∃ u, e = .returned u ∧ (bD n hn M v bo).vd (fun _ => 0) w' y u) ∧ Below w.heap.size w w' :=
  Zh7 hn hM hv G hG (ZmP hM hv hG) hf h hvs
abbrev mE : EX → EX → EX := .b 2
abbrev aE : EX → EX → EX := .b 0
abbrev sbE : EX → EX → EX := .b 1
abbrev zrE (x : EX) : CX := .lk 0 x (.c 0)
abbrev jE (x y z : EX) : YV := .row [.nm 1 [x], .nm 1 [y], .nm 1 [z]]
abbrev ptE (x y : EX) (i : CX) : YV := .row [.nm 1 [x], .nm 1 [y], .cx i]
abbrev twD : EX := aE (aE (mE (.v 0) (mE (.v 1) (.v 1))) (mE (.v 0) (mE (.v 1) (.v 1)))) (aE (mE (.v 0) (mE (.v 1) (.v 1))) (mE (.v 0) (mE (.v 1) (.v 1))))
abbrev twE : EX := aE (aE (mE (.v 0) (.v 0)) (mE (.v 0) (.v 0))) (mE (.v 0) (.v 0))
abbrev twX : EX := sbE (mE twE twE) (aE twD twD)
abbrev twF1 : EX := aE (mE (mE (.v 1) (.v 1)) (mE (.v 1) (.v 1))) (mE (mE (.v 1) (.v 1)) (mE (.v 1) (.v 1)))
abbrev twF2 : EX := aE twF1 twF1
abbrev twF : EX := aE twF2 twF2
abbrev twY : EX := sbE (mE twE (sbE twD twX)) twF
abbrev twZ : EX := aE (mE (.v 1) (.v 2)) (mE (.v 1) (.v 2))
theorem ZgS : runZ [(zrE (.v 2), true)] Tryz.f176 [K1, jE (.v 0) (.v 1) (.v 2)] = some (jE (.v 0) (.v 1) (.c 0)) := by kernel_rfl
theorem ZgT : runZ [(zrE (.v 2), false), (zrE (.v 1), true)] Tryz.f176 [K1, jE (.v 0) (.v 1) (.v 2)] = some (jE (.v 0) (.v 1) (.c 0)) := by kernel_rfl
theorem ZhP : runZ [(zrE (.v 2), false), (zrE (.v 1), false)] Tryz.f176 [K1, jE (.v 0) (.v 1) (.v 2)] = some (jE twX twY twZ) := by kernel_rfl
abbrev plH : EX := sbE (mE (.v 3) (mE (.v 2) (.v 2))) (.v 0)
abbrev plR : EX := sbE (mE (.v 4) (mE (mE (.v 2) (.v 2)) (.v 2))) (.v 1)
abbrev plHH : EX := mE plH plH
abbrev plV : EX := mE (.v 0) plHH
abbrev plX : EX := sbE (sbE (mE plR plR) (mE plHH plH)) (aE plV plV)
abbrev plY : EX := sbE (mE plR (sbE plV plX)) (mE (.v 1) (mE plHH plH))
abbrev jP : YV := jE (.v 0) (.v 1) (.v 2)
abbrev Q0 : YV := ptE (.v 3) (.v 4) (.lit false)
theorem ZhQ : runZ [(zrE (.v 2), false), (zrE plH, true), (zrE plR, false)] Tryz.f177 [K1, jP, Q0] = some (jE (.v 0) (.v 1) (.c 0)) := by kernel_rfl
theorem ZgU : runZ [(zrE (.v 2), false), (zrE plH, true), (zrE plR, true), (zrE (.v 1), true)] Tryz.f177 [K1, jP, Q0] = some (jE (.v 0) (.v 1) (.c 0)) := by kernel_rfl
theorem ZhR : runZ [(zrE (.v 2), false), (zrE plH, true), (zrE plR, true), (zrE (.v 1), false)] Tryz.f177 [K1, jP, Q0] = some (jE twX twY twZ) := by kernel_rfl
theorem Zj6 : runZ [(zrE (.v 2), false), (zrE plH, false)] Tryz.f177 [K1, jP, Q0] = some (jE plX plY (mE (.v 2) plH)) := by kernel_rfl
theorem ZgV {V : World} {u : Value} {n x : Nat} (ty : TypeId) {g0 c0 : Nat} (hg : V.cell? ⟨g0, 0, none⟩ = some u) (hu : LW V u n (limb x)) : ∃ g c w', (Builtin.append_ #[40, 40] ty #[.slice none 0 0, .slice (some ⟨g0, 0, none⟩) 1 c0]).run Tryz.prog V = .ok (.slice (some ⟨g, 0, none⟩) 1 c) w' ∧ Below V.heap.size V w' ∧ V.heap.size ≤ g ∧ 1 ≤ c ∧ c ≤ maxLen ∧ ∃ cur, w'.heap[g]? = some (.cells cur 37 (0, 0)) ∧ cur[0]? = some u := by
  obtain ⟨i0, hi, hz0, hz1, hz2⟩ := info_parts ZgP
  have hown : V.ownsRow V.heap.size 37 1 (.slice none 0 0) 0 [] := ⟨rfl, Or.inl ⟨rfl, rfl⟩⟩
  obtain ⟨v', w', hr, hO, hgr, _⟩ := run_append_own_wide (P := Tryz.prog) V V.heap.size 40 ty 37 i0 (.slice none 0 0) 1 24 undL40 hi hz0 hz1 hz2 rfl (by omega) _ 0 [] hown ⟨g0, 0, none⟩ 1 c0 [u] rfl (fun j v hv => by
    cases j with
    | zero => cases hv; exact hg
    | succ j => simp at hv) (fun v hv => by cases List.mem_singleton.1 hv; exact hu.oneC) (by unfold maxLen; omega) (by omega) (Nat.le_refl _)
  have hB : Below V.heap.size V w' := (Below.refl _ _).grown hgr (Nat.le_refl _) (fun x hx => (hown.lt x hx).1)
  rcases hO with ⟨_, ⟨rfl, h9⟩ | ⟨g', cap', cur, rfl, h1, h2, h3, h4, h5, h6⟩⟩
  · omega
  · rw [Nat.zero_add] at h3 h6 hr
    refine ⟨g', cap', w', hr, hB, h1, h3, h4, cur, h2, ?_⟩
    rw [Nat.mul_one, List.nil_append] at h6
    have e : cur[0]? = (cur.toList.take 1)[0]? := by
      rw [List.getElem?_take, if_pos (by decide), Array.getElem?_toList]
    rw [e, h6]
    rfl
theorem Zfx {n M : Nat} (hM : FM n M) (w : World) (cv : Value) (hC : CF w cv n M 1) :
    Calls Tryz.prog 121 #[cv] w fun r w' => (∃ g c cur u, r = .returned (.slice (some ⟨g, 0, none⟩) 1 c) ∧ w.heap.size ≤ g ∧ 1 ≤ c ∧ c ≤ maxLen ∧ w'.heap[g]? = some (.cells cur 37 (0, 0)) ∧ cur[0]? = some u ∧ LW w' u n (limb 0)) ∧ Below w.heap.size w w' := by
  have HM := hideP hM
  obtain ⟨mv, fo, tv, x4, x5, x6, x7, x8, rfl, hF, hm⟩ := hC.ex
  have HF := hideP hF
  clear hM hC hF hm
  rw [show ((1 : Nat) : Int) = 1 from rfl]
  go_enter Tryz.func121, Tryz.ntmps121
  go_wp2_with fail
  refine Zaj (fun W0 hW0 => ?_)
  have hB0 : W0.heap[w.heap.size]? = some (.cells #[mv, .int .u64 fo, tv, .int .i64 1, x4, x5, x6, x7, x8] 44 (0, 0)) := by
    rw [hW0]
    exact Zaf _ _
  have HBW : Hid (Below w.heap.size w W0) := by
    show Below _ _ _
    rw [hW0]
    repeat first | exact Below.refl _ _ | (refine Below.alloc ?_ (by simp <;> omega) _)
  have HB0 := hideP hB0
  clear hW0 hB0
  go_loopw [3, 4] (fun v i wr => (v = .slice none 0 0 ∧ i = .int .i64 0 ∧ Below W0.heap.size W0 wr) ∨ (i = .int .i64 1 ∧ Below W0.heap.size W0 wr ∧ ∃ g c cur u, v = .slice (some ⟨g, 0, none⟩) 1 c ∧ w.heap.size ≤ g ∧ 1 ≤ c ∧ c ≤ maxLen ∧ wr.heap[g]? = some (.cells cur 37 (0, 0)) ∧ cur[0]? = some u ∧ LW wr u n (limb 0))) (fun _ i _ => 1 - (intOf i).toNat)
  case atStart => exact Or.inl ⟨rfl, rfl, Below.refl _ _⟩
  case round =>
    rcases hrel with ⟨rfl, rfl, hb⟩ | ⟨rfl, hb, g, c, cur, u, rfl, hR⟩
    · have hr0 : wr.heap[w.heap.size]? = some (.cells #[mv, .int .u64 fo, tv, .int .i64 1, x4, x5, x6, x7, x8] 44 (0, 0)) := (hb.block _ (Zab HB0.out)).trans HB0.out
      have c0 : wr.cell? ⟨w.heap.size, 0, none⟩ = some mv := Zac hr0 rfl
      have c1 : wr.cell? ⟨w.heap.size, 1, none⟩ = some (.int .u64 fo) := Zac hr0 rfl
      have c2 : wr.cell? ⟨w.heap.size, 2, none⟩ = some tv := Zac hr0 rfl
      have c3 : wr.cell? ⟨w.heap.size, 3, none⟩ = some (.int .i64 1) := Zac hr0 rfl
      have HB := hideP hb
      have HN := hideP (Zct HM.out 0 (by decide) wr _ (HF.out.moved (HBW.out.trans (hb.mono HBW.out.size))))
      clear hr0 hb
      go_wp2_with (first | (go_at_call 88; refine HN.out.mono ?_; rintro e w1 ⟨⟨v1, rfl, hl⟩, hb1⟩; have HL1 := hideP hl; have HB1 := hideP hb1; obtain ⟨g0, o0, cc0, rfl, -, -, -, -⟩ := hl.ex; clear hl hb1) | (at_builtin; obtain ⟨g, c, w9, hr9, hb9, k1, k2, k3, cur, k4, k5⟩ := ZgV (V := w1.alloc (.cells #[.slice (some ⟨g0, o0, none⟩) n cc0] 37)) (g0 := w1.heap.size) (c0 := 1) 40 (Zac (Zaf w1 _) rfl) (HL1.out.moved ((Below.refl _ _).alloc (Nat.le_refl _) _)); have H9 := hideP (And.intro hb9 (And.intro k1 (And.intro k2 (And.intro k3 (And.intro k4 k5))))); clear hb9 k1 k2 k3 k4 k5; refine ZaQ rfl _ _ 40 rfl rfl rfl rfl hr9 ?_; clear hr9))
      have hb1 : Below W0.heap.size W0 (w1.alloc (.cells #[.slice (some ⟨g0, o0, none⟩) n cc0] 37)) := (HB.out.trans (HB1.out.mono HB.out.size)).trans (((Below.refl _ _).alloc (Nat.le_refl _) _).mono (HB.out.trans (HB1.out.mono HB.out.size)).size)
      have hb9 := hb1.trans (H9.out.1.mono hb1.size)
      have := hb1.size
      have := HBW.out.size
      have := H9.out.2.1
      exact ⟨Or.inr ⟨rfl, hb9, g, c, cur, _, rfl, by omega, H9.out.2.2.1, H9.out.2.2.2.1, H9.out.2.2.2.2.1, H9.out.2.2.2.2.2, (HL1.out.moved ((Below.refl _ _).alloc (Nat.le_refl _) _)).moved H9.out.1⟩, by simp [intOf]⟩
    · have hr0 : wr.heap[w.heap.size]? = some (.cells #[mv, .int .u64 fo, tv, .int .i64 1, x4, x5, x6, x7, x8] 44 (0, 0)) := (hb.block _ (Zab HB0.out)).trans HB0.out
      have c3 : wr.cell? ⟨w.heap.size, 3, none⟩ = some (.int .i64 1) := Zac hr0 rfl
      have HB := hideP hb
      have HR := hideP hR
      clear hr0 hb hR
      go_wp2
      go_ret
      exact ⟨⟨g, c, cur, u, rfl, HR.out⟩, HBW.out.trans (HB.out.mono HBW.out.size)⟩
theorem LW.setOther {w : World} {v : Value} {n : Nat} {f : Nat → Nat} (h : LW w v n f) {p : Addr} {a : Option Addr} {l c : Nat} (hp : w.cell? p = some (.slice a l c)) (x : Value) : LW (w.setCell p x) v n f := by
  obtain ⟨g, o, c', e, h1, h2, hg, hc⟩ := h.ex
  refine ⟨g, o, c', e, h1, h2, by rw [World.size_setCell]; exact hg, fun j hj => ?_⟩
  rw [World.cell?_setCell_other _ _ _ _ (fun e => ?_)]
  · exact hc j hj
  · rw [e] at hp
    rw [hc j hj] at hp
    cases hp
theorem ZmQ {n M : Nat} (hM : FM n M) (w : World) (cv : Value) (hC : CF w cv n M 1) :
    Calls Tryz.prog 237 #[cv] w fun r w' => (∃ v', r = .returned v' ∧ LL w' v' n [1]) ∧ Below w.heap.size w w' := by
  have HM := hideP hM
  have HCF := hideP hC
  obtain ⟨mv, fo, tv, x4, x5, x6, x7, x8, rfl, hF, hm⟩ := hC.ex
  have HF := hideP hF
  clear hM hC hF hm
  rw [show ((1 : Nat) : Int) = 1 from rfl] at HCF ⊢
  go_enter Tryz.func237, Tryz.ntmps237
  refine Zae (fun K0 HK0 => ?_)
  go_wp2_with fail
  refine HK0.out _ _ ?_
  refine Zaj (fun W0 hW0 => ?_)
  have hB0 : W0.heap[w.heap.size]? = some (.cells #[mv, .int .u64 fo, tv, .int .i64 1, x4, x5, x6, x7, x8] 44 (0, 0)) := by
    rw [hW0]
    exact Zaf _ _
  have HBW : Hid (Below w.heap.size w W0) := by
    show Below _ _ _
    rw [hW0]
    repeat first | exact Below.refl _ _ | (refine Below.alloc ?_ (by simp <;> omega) _)
  have HB0 := hideP hB0
  clear hW0
  have c0 : W0.cell? ⟨w.heap.size, 0, none⟩ = some mv := Zac hB0 rfl
  have c1 : W0.cell? ⟨w.heap.size, 1, none⟩ = some (.int .u64 fo) := Zac hB0 rfl
  have c2 : W0.cell? ⟨w.heap.size, 2, none⟩ = some tv := Zac hB0 rfl
  have c3 : W0.cell? ⟨w.heap.size, 3, none⟩ = some (.int .i64 1) := Zac hB0 rfl
  have c4 : W0.cell? ⟨w.heap.size, 4, none⟩ = some x4 := Zac hB0 rfl
  have c5 : W0.cell? ⟨w.heap.size, 5, none⟩ = some x5 := Zac hB0 rfl
  have c6 : W0.cell? ⟨w.heap.size, 6, none⟩ = some x6 := Zac hB0 rfl
  have c7 : W0.cell? ⟨w.heap.size, 7, none⟩ = some x7 := Zac hB0 rfl
  have c8 : W0.cell? ⟨w.heap.size, 8, none⟩ = some x8 := Zac hB0 rfl
  have HN := hideP (Zfx HM.out W0 _ (HCF.out.moved HBW.out))
  clear hB0
  refine Zae (fun K1 HK1 => ?_)
  go_wp2_with (go_at_call 121; refine HN.out.mono ?_; rintro e w1 ⟨⟨g, c, cur, u, rfl, k1, k2, k3, k4, k5, k6⟩, hb1⟩; have HR1 := hideP (And.intro k1 (And.intro k2 (And.intro k3 (And.intro k4 (And.intro k5 k6))))); have HB1 := hideP hb1; clear k1 k2 k3 k4 k5 k6 hb1)
  refine HK1.out _ _ ?_
  have hr1 : w1.heap[w.heap.size]? = some (.cells #[mv, .int .u64 fo, tv, .int .i64 1, x4, x5, x6, x7, x8] 44 (0, 0)) := (HB1.out.block _ (Zab HB0.out)).trans HB0.out
  have d0 : w1.cell? ⟨w.heap.size, 0, none⟩ = some mv := Zac hr1 rfl
  have d1 : w1.cell? ⟨w.heap.size, 1, none⟩ = some (.int .u64 fo) := Zac hr1 rfl
  have d2 : w1.cell? ⟨w.heap.size, 2, none⟩ = some tv := Zac hr1 rfl
  have HN1 := hideP (Zct HM.out 1 (by decide) w1 _ (HF.out.moved (HBW.out.trans (HB1.out.mono HBW.out.size))))
  clear hr1 c0 c1 c2 c3 c4 c5 c6 c7 c8 HN
  refine Zae (fun K2 HK2 => ?_)
  have HR2 := hideP HR1.out.2.2.2
  go_wp2_with (go_at_call 88; refine HN1.out.mono ?_; rintro e w2 ⟨⟨v1, rfl, hl⟩, hb2⟩; have HL2 := hideP hl; have HB2 := hideP hb2; have hg := Zab HR2.out.1; have k2 := (hb2.block _ hg).trans HR2.out.1; obtain ⟨g0, o0, cc0, rfl, -, -, -, -⟩ := hl.ex; have ca := Zac (o := 0) k2 HR2.out.2.1; have fr : ∀ o, w2.frozen? ⟨g, o, none⟩ = false := fun o => Zap k2; have HK2' := hideP k2; clear hl hb2 k2 hg)
  refine HK2.out _ _ ?_
  have hb12 := HB1.out.trans (HB2.out.mono HB1.out.size)
  have hg := Zab HK2'.out
  have hL : LL (w2.setCell ⟨g, 0, none⟩ (.slice (some ⟨g0, o0, none⟩) n cc0)) (.slice (some ⟨g, 0, none⟩) 1 c) n [1] := by
    obtain ⟨_, _, _, hu, _⟩ := HR1.out.2.2.2.2.2.ex
    subst hu
    refine ⟨g, 0, c, rfl, HR1.out.2.1, HR1.out.2.2.1, by rw [World.size_setCell]; exact hg, fun j x hj => ?_⟩
    match j, hj with
    | 0, hj =>
      cases hj
      exact ⟨_, World.cell?_setCell_same _ _ _ ca, HL2.out.setOther ca _⟩
  have HE := hideP (And.intro hL (HBW.out.trans ((hb12.setCell (p := ⟨g, 0, none⟩) (Nat.le_trans (by first | exact HBW.out.size | exact Nat.le_refl _) (by have := HR1.out.1; omega)) (.slice (some ⟨g0, o0, none⟩) n cc0)).mono HBW.out.size)))
  clear hb12 hg hL ca fr
  go_wp2
  go_ret
  exact ⟨⟨_, rfl, HE.out.1⟩, HE.out.2⟩
def tO (f : Nat) (xs : List YV) : Option YV := match xs with
  | [.row [.nm 0 [.v 100], .nm 5 [.v 100], .nm 0 [.v 101], .v (.int .i64 1), _, _, _, _, _]] => if f = 237 then some (lsE [.c 1]) else none
  | _ => none
theorem tO_ok {n M : Nat} {hn : 2 ≤ n} (hM : FM n M) {v : Nat → Nat} {bo : Nat → Bool} {w : World} : TOK2 Tryz.prog (bD n hn M v bo) tO w := fun f xs y h => by
  unfold tO at h
  split at h
  · split at h
    · rename_i e
      subst e
      cases h
      refine ⟨en Tryz.func237, fun β V vs hV hvs => ?_⟩
      match vs, hvs with
      | [a], ⟨h1, _⟩ =>
        obtain ⟨l, rfl, h1⟩ := h1
        match l, h1 with
        | [a0, a1, a2, a3, a4, a5, a6, a7, a8], ⟨h0, h1, h2, h3, _⟩ =>
          obtain ⟨fo, rfl, hfo⟩ := h1
          have h3 : a3 = .int .i64 1 := h3
          subst h3
          exact (ZmQ hM V _ ⟨a0, fo, a2, a4, a5, a6, a7, a8, rfl, ⟨a0, fo, a2, rfl, h0, h2, hfo⟩, h0⟩).mono fun e w' h => h
    · cases h
  · cases h
noncomputable abbrev runO (G : List (CX × Bool)) (fn : Func) (args : List YV) : Option YV := runD G (aheadY (tZ G flD) tO) fn args
theorem call_O {n M : Nat} (hn : 2 ≤ n) (hM : FM n M) {v : Nat → Nat} {bo : Nat → Bool} (hv : ∀ i, flD i = true → v i < M) (G : List (CX × Bool)) (hG : ∀ x ∈ G, (alD n M v bo).cx x.1 = x.2) {w : World} {f : Nat} {fn : Func} (hf : Tryz.prog.funcs[f]? = some fn) {args : List YV} {y : YV} (h : runO G fn args = some y) {vs : List Value} (hvs : (bD n hn M v bo).vds (fun _ => 0) w args vs) :
    Calls Tryz.prog f vs.toArray w fun e w' => (∃ u, e = .returned u ∧ (bD n hn M v bo).vd (fun _ => 0) w' y u) ∧ Below w.heap.size w w' :=
  Zh7 hn hM hv G hG (ZbA (ZmP hM hv hG) (tO_ok hM)) hf h hvs
theorem ZhS : runO [(zrE (.v 2), true)] Tryz.f177 [K1, jP, Q0] = some (jE (.v 3) (.v 4) (.c 1)) := by kernel_rfl
abbrev suS : EX := mE (sbE (.v 4) (.v 1)) (.u 0 (sbE (.v 3) (.v 0)))
abbrev suX (s : EX) : EX := sbE (sbE (mE s s) (.v 0)) (.v 3)
abbrev suY (s : EX) : EX := sbE (mE s (sbE (.v 0) (suX s))) (.v 1)
abbrev suT : EX := mE (aE (aE (mE (.v 0) (.v 0)) (mE (.v 0) (.v 0))) (mE (.v 0) (.v 0))) (.u 0 (aE (.v 1) (.v 1)))
theorem Zej {n M d : Nat} (hM : FM n M) (x y : Nat) (hx : x < M) (hy : y < M) (w : World) (cv u v : Value) (hC : CF w cv n M d) (hu : LL w u n [x]) (hv : LL w v n [y]) : Calls Tryz.prog 92 #[cv, u, v] w fun r w' => (∃ v', r = .returned v' ∧ LL w' v' n ([x * y % M])) ∧ Below w.heap.size w w' := by
 have HM := hideP hM
 clear hM
 have HCF := hideP hC
 obtain ⟨mv, fo, tv, x4, x5, x6, x7, x8, rfl, hF, hm⟩ := hC.ex
 have HFF := hideP hF
 have HMV := hideP hm
 clear hC hF hm
 obtain ⟨gu, ou, cu, u0, rfl, -, -, ku, lu⟩ := hu.one
 have HKu0 := hideP ku
 have HLu0 := hideP lu
 have Hx := hideP hx
 clear hu ku lu hx
 obtain ⟨gv, ov, cv, v0, rfl, -, -, kv, lv⟩ := hv.one
 have HKv0 := hideP kv
 have HLv0 := hideP lv
 have Hy := hideP hy
 clear hv kv lv hy
 have HB : Hid (Up w w) := Below.refl _ _
 go_enter Tryz.func92, Tryz.ntmps92
 refine ZaW 69 [(0, .agg #[mv, .int .u64 (fo : Int), tv, .int .i64 (d : Int), x4, x5, x6, x7, x8]), (1, .slice (some ⟨gu, ou, none⟩) 1 cu), (2, .slice (some ⟨gv, ov, none⟩) 1 cv)] rfl ⟨rfl, rfl, rfl, trivial⟩ (fun L hL hK => ?_)
 refine Zae (fun K1 HK1 => ?_)
 have up : ∀ V, Up w V → Up w V := fun _ h => HB.out.trans (h.mono HB.out.size)
 refine ZaA [.pr (NB w.heap.size #[mv, .int .u64 (fo : Int), tv, .int .i64 (d : Int), x4, x5, x6, x7, x8] 44), .ex (.slice none 0 0)] [1, 2, 3, 6] hL hK ⟨ZaH _ _ _, trivial⟩
   ⟨ok_x [.ex (.agg #[mv, .int .u64 (fo : Int), tv, .int .i64 (d : Int), x4, x5, x6, x7, x8])] hK (fun V h => ⟨_, _, Zcl rfl rfl, Zaq _ _, _, rfl, h.size, ⟨Zaf _ _⟩⟩),
   ok_q hK,
   trivial⟩ ?_
 rintro W1 h _ ⟨B1, rfl, lB1, hB1⟩ L1 hL1 hK1
 have LB1 := hideP (Nat.le_trans HB.out.size lB1)
 clear lB1
 replace HB := hideP (up _ h)
 have HB1 := hideP hB1
 clear hB1
 have hK2 := hK1.to [(1, .slice (some ⟨gu, ou, none⟩) 1 cu), (2, .slice (some ⟨gv, ov, none⟩) 1 cv), (3, .pointer (some ⟨B1, 0, none⟩)), (6, .slice none 0 0)] (by kernel_rfl)
 clear up h hK1 hK hL L
 revert L1
 intro L hL hK
 refine HK1.out _ _ ?_
 clear HK1 K1
 refine Zae (fun K2 HK2 => ?_)
 refine Zae (fun K3 HK3 => ?_)
 have up : ∀ V, Up W1 V → Up w V := fun _ h => HB.out.trans (h.mono HB.out.size)
 refine ZaA [.ex (.slice (some ⟨gu, ou, none⟩) 1 cu), .ex (.int .i64 1), .ex (.bool true)] [1, 2, 3, 6, 11] hL hK trivial
   ⟨ok_q hK,
   ok_q hK,
   ok_q hK,
   trivial⟩ ?_
 rintro W2 h  L1 hL1 hK1
 replace HB := hideP (up _ h)
 replace HB1 := hideP (HB1.out.moved h)
 have hK2 := hK1.to [(1, .slice (some ⟨gu, ou, none⟩) 1 cu), (2, .slice (some ⟨gv, ov, none⟩) 1 cv), (3, .pointer (some ⟨B1, 0, none⟩)), (6, .slice none 0 0), (11, .bool true)] (by kernel_rfl)
 clear up h hK1 hK hL L
 revert L1
 intro L hL hK
 refine HK3.out _ _ ?_
 clear HK3 K3
 refine Ze2 hK ?_
 refine Zae (fun K4 HK4 => ?_)
 have up : ∀ V, Up W2 V → Up w V := fun _ h => HB.out.trans (h.mono HB.out.size)
 refine ZaA [.ex (.pointer (some ⟨B1, 0, none⟩)), .ex (.agg #[mv, .int .u64 (fo : Int), tv]), .ex (.slice (some ⟨gu, ou, none⟩) 1 cu), .ex (.pointer (some ⟨gu, ou + 0, none⟩)), .ex (u0), .ex (.slice (some ⟨gv, ov, none⟩) 1 cv), .ex (.pointer (some ⟨gv, ov + 0, none⟩)), .ex (v0), .pr (fun zv zw => LW zw zv (n) (limb ((x) * (y) % M))), .pr (fun zv zw => LL zw zv (n) ([(x) * (y) % M])), .pr (fun zv zw => LL zw zv (n) ([(x) * (y) % M]))] [6] hL hK ⟨ZbX _ _, Zbf _ _, Zbf _ _, trivial⟩
   ⟨ok_q hK,
   ZaM 0 hK (fun V h => HB1.out.moved h) Zdd info39,
   ok_q hK,
   ok_q hK,
   Zi0 hK (fun V h => (HKu0.out.moved (up V h))),
   ok_q hK,
   ok_q hK,
   Zi0 hK (fun V h => (HKv0.out.moved (up V h))),
   ok_c [.ex (.agg #[mv, .int .u64 (fo : Int), tv]), .ex (u0), .ex (v0)] (en Tryz.func165) hK (fun V h => ZdF HM.out (x) (y) Hx.out Hy.out _ _ _ _ (HFF.out.moved (up V h)) (HLu0.out.moved (up V h)) (HLv0.out.moved (up V h))),
   ok_x [.pr (fun zv zw => LW zw zv (n) (limb ((x) * (y) % M)))] hK (fun V h u1 q1 => ⟨_, _, ZeX (vs := #[(0, u1)]) rfl (by kernel_rfl) (bs1 _ (LW.isSlice q1)), Zaq _ _, LL.mk1 q1⟩),
   ok_x [.pr (fun zv zw => LL zw zv (n) ([(x) * (y) % M]))] hK (fun V h u q => ⟨_, _, Zbl rfl rfl, Below.refl _ _, q⟩),
   trivial⟩ ?_
 rintro W3 h v2 pv2 v3 pv3 v4 pv4 L1 hL1 hK1
 replace HB := hideP (up _ h)
 replace HB1 := hideP (HB1.out.moved h)
 have Fv2 := hideP pv2
 clear pv2
 have Fv3 := hideP pv3
 clear pv3
 have Fv4 := hideP pv4
 clear pv4
 have hK2 := hK1.to [(6, v4)] (by kernel_rfl)
 clear up h hK1 hK hL L
 revert L1
 intro L hL hK
 refine HK4.out _ _ ?_
 clear HK4 K4
 refine wp_ret ?_
 refine Zdz ?_
 exact ret2 hK ⟨⟨_, rfl, Fv4.out⟩, HB.out⟩
end Go.Proofs.YtcbdbnfgnonacaaGreat
