/-
  law's item: the item that nodes tell.
-/
import Derived.Test.YtigebmidfddbcaaRlpMeansC25
namespace Go.Proofs.Ytigebmidfddbcaa
open Go.RowKit Go.Shelf

/-- What law's item answers. -/
def ItemOut (w0 w w' : World) (t : Tree) (rest : List Nd) (e : Ending) : Prop :=
  ∃ v ao c, e = .returned (.tuple #[v, .slice ao rest.length c]) ∧ IsItem (cut w.heap.size w') t v ∧ NS w0 rest ao c

/-- A step that appends bytes to an empty row. -/
theorem step_fresh {ops : Array Oper} {o : Oper} {a : Act} {w : World} {K : Act → World → Prop} {Q : Exit → Act → World → Prop} {E : Prop} (hgd : o.guard = none) (s x : Operand)
    (ho : o.op = .call { callee := .builtin .append, args := #[s, x], argTypes := #[23, 23] }) {dd : Nat} (hdd : o.dst = some dd) {xa : Option Addr} {nb xc : Nat} {bs : Nat → Nat} (bo N : Nat) (hs : a.eval s = .slice (some ⟨bo, 0, none⟩) 0 0) (hx : a.eval x = .slice xa nb xc)
    (hn : nb ≤ 140737488355328) (hb : BS w xa nb xc bs) (hbo : N ≤ bo ∧ bo < w.heap.size)
    (h : ∀ so sc w', Own N w' (.slice so nb sc) nb bs → Below w.heap.size w w' → (∀ g, so = some ⟨g, 0, none⟩ → g = bo ∨ g = w.heap.size) → K (a.put (some dd) (.slice so nb sc)) w') :
    if Region.wanted o (yielded ops a.tmps) = true then Oper.wp Try.prog o a w K Q else E := by
  have hw : Region.wanted o (yielded ops a.tmps) = true := by simp [Region.wanted, hgd]
  obtain ⟨ao', cap, w', hrun, h1, h2, h3⟩ := append_fresh w o.type (some ⟨bo, 0, none⟩) xa nb xc hn bs hb.lt hb.cell hb.nil
  rw [if_pos hw]
  unfold Oper.wp
  simp [execOp, ho, resolve, invoke, builtin, hs, hx, hrun, Result.andThen]
  show K (a.put o.dst (.slice ao' nb cap)) w'
  rw [hdd]
  refine h ao' cap w' ?_ h3 ?_
  · rcases h1 with ⟨rfl, rfl, rfl, rfl⟩ | ⟨h0, rfl⟩
    · exact ⟨_, 0, rfl, BS.empty _ _ _ hb.lt, Or.inr ⟨_, rfl, hbo.1, hbo.2⟩⟩
    · have hB := h2 h0
      obtain ⟨ad, e, hc⟩ := hB.cell 0 h0
      cases e
      exact ⟨_, cap, rfl, hB, Or.inr ⟨_, rfl, by omega, by have := World.block_lt_of_cell? w' _ hc; simpa [Addr.add] using this⟩⟩
  · rintro g rfl
    rcases h1 with ⟨_, e, _⟩ | ⟨_, e⟩
    · cases e; exact Or.inl rfl
    · cases e; exact Or.inr rfl

theorem Own.lt {N : Nat} {w : World} {g n c : Nat} {bs : Nat → Nat} (h : Own N w (.slice (some ⟨g, 0, none⟩) n c) n bs) : g < w.heap.size := by
  obtain ⟨ao, cap, e, _, hg⟩ := h.ex
  cases e
  rcases hg with h | ⟨g', e, _, h2⟩
  · cases h
  · cases e; exact h2

set_option maxHeartbeats 8000000 in
set_option maxRecDepth 100000 in
theorem item_none (f deep : Nat) {ao : Option Addr} {c : Nat} (w0 w : World) :
    Calls Try.prog 48 #[.slice ao 0 c, .int .i64 deep] w fun e w' => ItemOut w0 w w' (itemT f [] deep).1 (itemT f [] deep).2 e ∧ Below w.heap.size w w' := by
  have hi : itemT f [] deep = (.node 0 [] [], []) := by cases f <;> rw [itemT]
  rw [hi]
  clear hi
  have HZ : ∀ W, Hid (IsItem W (.node 0 [] []) (.agg #[.int .i64 0, .slice none 0 0, .slice none 0 0])) := fun W => hideP (isItem_zero W)
  have HN : Hid (NS w0 [] none 0) := ⟨Nat.le_refl _, Nat.zero_le _, fun _ => rfl, fun j x h => by cases h⟩
  go_enter Try.func48, Try.ntmps48
  go_wp2_with fail
  refine bodyPost_ret (v := .tuple #[.agg #[.int .i64 0, .slice none 0 0, .slice none 0 0], .slice none 0 0]) (by simp [results, Try.results48, go_sem]) rfl ⟨⟨_, _, _, rfl, (HZ _).out, HN.out⟩, ?_⟩
  repeat first | exact Below.refl _ _ | (refine Below.setCell ?_ (by dsimp only <;> omega) _) | (refine Below.alloc ?_ (by simp <;> omega) _)

/-- Bytes of one's own, in another world. -/
theorem Own.into_at {N : Nat} {w V : World} {so : Option Addr} {n c : Nat} {bs : Nat → Nat} (h : Own N w (.slice so n c) n bs) (hc : ∀ a u, N ≤ a.block → so = some ⟨a.block, 0, none⟩ → w.cell? a = some u → V.cell? a = some u) : BS V so n c bs := by
  obtain ⟨ao, cap, e, hB, hg⟩ := h.ex
  cases e
  refine ⟨hB.lt, hB.le, hB.room, fun j hj => ?_, hB.nil⟩
  obtain ⟨ad, rfl, hv⟩ := hB.cell j hj
  rcases hg with h | ⟨g, e, h1, h2⟩
  · cases h
  · cases e
    exact ⟨_, rfl, hc _ _ (by rw [add_block]; exact h1) (by rw [add_block]) hv⟩

/-- How the kids stand, so many done. -/
structure LI (w0 w V : World) (B : Nat) (xl : Int) (s : Value) (f m : Nat) (r : List Nd) (deep : Nat) (k : Nat) (rest : List Nd) (ra : Option Addr) (rc : Nat) (wr : World) : Prop where
  row : ∃ pre kv, wr.heap[B]? = some (.cells #[.int .i64 xl, s, kv] 26 (0, 0)) ∧ KR V.heap.size wr kv pre ∧ pre.length = k ∧ ∃ f', 2 * rest.length + 1 ≤ f' ∧ kidsT f m r deep = (pre ++ (kidsT f' (m - k) rest deep).1, (kidsT f' (m - k) rest deep).2)
  keep : ∀ b, b < V.heap.size → b ≠ B → wr.heap[b]? = V.heap[b]?
  below : Below w.heap.size w wr
  size : V.heap.size ≤ wr.heap.size
  ns : NS w0 rest ra rc
  ok : NdOk rest
  len : k + rest.length ≤ r.length

set_option maxHeartbeats 8000000 in
set_option maxRecDepth 100000 in
theorem item_step (f deep : Nat) (hdeep : deep ≤ 200) (x : Nd) (r : List Nd)
    (IH : ∀ (f' : Nat) (ns : List Nd) (deep' : Nat) (ao : Option Addr) (c : Nat) (w0 W : World), ns.length ≤ r.length → 2 * ns.length ≤ f' → deep' ≤ 200 → Below w0.heap.size w0 W → NS w0 ns ao c → NdOk ns → ns.length ≤ 3518437208884 →
      Calls Try.prog 48 #[.slice ao ns.length c, .int .i64 deep'] W fun e w' => ItemOut w0 W w' (itemT f' ns deep').1 (itemT f' ns deep').2 e ∧ Below W.heap.size W w')
    {ao : Option Addr} {c : Nat} (w0 w : World) (hb00 : Below w0.heap.size w0 w) (h : NS w0 (x :: r) ao c) (hok : NdOk (x :: r)) (hlen : r.length + 1 ≤ 3518437208884) (hf : 2 * r.length + 1 ≤ f) :
    Calls Try.prog 48 #[.slice ao (r.length + 1) c, .int .i64 deep] w fun e w' => ItemOut w0 w w' (itemT (f + 1) (x :: r) deep).1 (itemT (f + 1) (x :: r) deep).2 e ∧ Below w.heap.size w w' := by
  rw [itemT]
  obtain ⟨xl, xb, xm⟩ := x
  obtain ⟨ad, xa, xc, rfl, c0, c1, c2, hB⟩ := (h.moved hb00).cell 0 _ rfl
  obtain ⟨ao', hT, hsl⟩ := h.tail
  rw [Nat.zero_mul, show ad.add 0 = ad from rfl] at c0
  rw [Nat.zero_mul, Nat.zero_add] at c1 c2
  have hxb := hok _ (List.mem_cons_self ..)
  dsimp only at c0 c1 c2 hB hxb ⊢
  have hi0 : (0 : Int) < (r.length : Int) + 1 := by omega
  generalize hn : r.length = n at *
  have hz : ((n : Int) + 1 == 0) = false := beq_eq_false_iff_ne.2 (by omega)
  have hadl : ad.block < (w.alloc (.cells #[.int .i64 0, .slice none 0 0, .slice none 0 0] 26)).heap.size := by
    have := World.block_lt_of_cell? _ _ c0
    simp
    omega
  have hb0 : Below w.heap.size w (w.alloc (.cells #[.int .i64 0, .slice none 0 0, .slice none 0 0] 26)) := (Below.refl _ w).alloc (Nat.le_refl _) _
  have hres := heap_new w (.cells #[.int .i64 0, .slice none 0 0, .slice none 0 0] 26)
  have c0 := (hb0.cell (p := ad) (World.block_lt_of_cell? _ _ c0)).trans c0
  have c1 := (hb0.cell (p := ad.add 1) (World.block_lt_of_cell? _ _ c1)).trans c1
  have hB := hB.moved hb0
  have hadl1 : (ad.add 1).block < (w.alloc (.cells #[.int .i64 0, .slice none 0 0, .slice none 0 0] 26)).heap.size := by rw [add_block]; exact hadl
  have HALL := hideP (And.intro hT (And.intro hsl (And.intro hok (And.intro hlen (And.intro hf (And.intro hn (And.intro h (And.intro c2 (And.intro hb0 (And.intro hB (And.intro hxb (And.intro hres (And.intro IH hb00)))))))))))))
  clear hT hsl hok hlen hf hn h c2 hb0 hB hxb hres IH hb00
  generalize hnb : xb.length = nb at *
  go_enter Try.func48, Try.ntmps48
  go_wp2_with fail
  generalize hW0 : w.alloc (.cells #[.int .i64 0, .slice none 0 0, .slice none 0 0] 26) = W0 at *
  rename_i Q1 K1 hK1
  have HREST : Hid (∀ (B : Nat) (v19 : Value) (so : Option Addr) (sc : Nat) (V : World), V.heap[B]? = some (.cells #[.int .i64 xl, .slice so nb sc, .slice none 0 0] 26 (0, 0)) → W0.heap.size ≤ B → Own W0.heap.size V (.slice so nb sc) nb (lb xb) → (∀ g, so = some ⟨g, 0, none⟩ → g ≠ B) → Below W0.heap.size W0 V →
      K1 { tmps := #[.slice (some ad) (n + 1) c, .int .i64 deep, undef, undef, .pointer (some ⟨w.heap.size, 0, none⟩), .slice none 0 0, .pointer (some ⟨B, 0, none⟩), undef, undef, undef, undef, .slice (some ad) (n + 1) c, .int .i64 ((n : Int) + 1), .bool false, undef,
        .slice (some ad) (n + 1) c, .pointer (some ad), .pointer (some ad), .int .i64 xl, v19, .slice (some ad) (n + 1) c, .pointer (some ad), .pointer (some ⟨ad.block, ad.off + 1, none⟩), .slice xa nb xc, .slice so nb sc, .agg #[.int .i64 xl, .slice so nb sc, .slice none 0 0], undef, undef, undef, undef, undef, undef, undef, undef, undef, undef, undef, undef, undef, undef, undef, undef, undef, undef, undef, undef, undef, undef, undef, undef, undef, undef, undef, undef, undef, undef, undef, undef, undef, undef, undef, undef], defers := [] } V) := by
    intro B v19 so sc V hbx hBl hO hat hbV
    obtain ⟨hT, hsl, hok, hlen, hf, hn, h, c2, hb0, hBx, hxb, hres, IH, hb00⟩ := HALL.out
    have hc2 : V.cell? ⟨ad.block, ad.off + 2, none⟩ = some (.int .i64 xm) := (hbV.cell (p := ad.add 2) (by rw [add_block]; exact hadl)).trans ((hb0.cell (p := ad.add 2) (World.block_lt_of_cell? _ _ c2)).trans c2)
    have HL := hideP (And.intro hbx (And.intro hBl (And.intro hO (And.intro hat (And.intro hbV (And.intro hT (And.intro hok (And.intro hlen (And.intro hf (And.intro hn (And.intro hb0 (And.intro hres (And.intro IH hb00)))))))))))))
    clear hbx hBl hO hat hbV hT hok hlen hf hn h c2 hb0 hBx hxb hres IH hb00 c0 c1 hB HALL
    refine hK1 _ _ ?_
    go_wp2_with fail
    have hI0 : LI w0 w V B xl (.slice so nb sc) f xm.toNat r deep 0 r ao' (c - 1) V := by
      obtain ⟨hbx, hBl, hO, hat, hbV, hT, hok, hlen, hf, hn, hb0, hres, IH, hb00⟩ := HL.out
      exact ⟨⟨[], _, hbx, KR.nil _ _, rfl, f, by omega, by simp⟩, fun _ _ _ => rfl, hb0.trans (hbV.mono hb0.size), Nat.le_refl _, hT, fun y hy => hok y (by simp [hy]), by omega⟩
    have HI0 := hideP hI0
    have HN : Hid (r.length = n) := hideP HL.out.2.2.2.2.2.2.2.2.2.1
    clear hI0 hc2 hsl
    go_loopw [0, 8] (fun l i wr => ∃ (k : Nat) (rest : List Nd) (ra : Option Addr) (rc : Nat), l = .slice ra rest.length rc ∧ i = .int .i64 (k : Int) ∧ Hid (LI w0 w V B xl (.slice so nb sc) f xm.toNat r deep k rest ra rc wr)) (fun _ i _ => n - (intOf i).toNat)
    case atStart => exact ⟨0, r, ao', c - 1, by rw [HN.out], rfl, HI0⟩
    case round =>
      obtain ⟨k, rest, ra, rc, rfl, rfl, hLI⟩ := hrel
      have hlenk := hLI.out.len
      rw [HN.out] at hlenk
      by_cases hgo : (k : Int) < xm ∧ 0 < rest.length ∧ deep < 200
      · obtain ⟨g1, g2n, g3n⟩ := hgo
        obtain ⟨pre, kv, hbx, hKR, hpl, f', hf', hspec⟩ := hLI.out.row
        obtain ⟨ka, kc, rfl⟩ := hKR.len
        obtain ⟨hbx0, hBl, hO, hat, hbV, hT, hok, hlen, hf, hn, hb0, hres, IH, hb00⟩ := HL.out
        cases f' with
        | zero => omega
        | succ f'' =>
        rw [kidsT, if_pos ⟨by omega, (fun e => by rw [e] at g2n; cases g2n), g3n⟩] at hspec
        have hrl := itemT_rest f'' rest (deep + 1) (fun e => by rw [e] at g2n; cases g2n)
        have hfit := itemT_fits f'' rest (deep + 1) hLI.out.ok (by omega)
        have hcall := IH f'' rest (deep + 1) ra rc w0 wr (by omega) (by omega) (by omega) (hb00.trans (hLI.out.below.mono hb00.size)) hLI.out.ns hLI.out.ok (by omega)
        generalize itemT f'' rest (deep + 1) = ir at *
        obtain ⟨it, rest'⟩ := ir
        dsimp only at hspec hrl hfit hcall
        have g2 : (0 : Int) < (rest.length : Int) := by omega
        have g2' : (rest.length : Int) > 0 := g2
        have g3 : (deep : Int) < 200 := by omega
        have e1 : IntKind.i64.wrap ((deep : Int) + 1) = ((deep + 1 : Nat) : Int) := by rw [IntKind.wrap_i64]; omega
        have e2 : IntKind.i64.wrap ((k : Int) + 1) = ((k + 1 : Nat) : Int) := by rw [IntKind.wrap_i64]; omega
        have HC := hideP hcall
        have HM := hideP (And.intro hbx (And.intro hKR (And.intro hpl (And.intro hf' (And.intro hspec (And.intro hrl (And.intro hfit (And.intro g2n (And.intro hlen (And.intro hlenk (And.intro hn hbV)))))))))))
        clear hcall hbx hKR hpl hf' hspec hrl hfit hbx0 hBl hO hat hbV hT hok hlen hf hn hb0 hres IH hb00 hlenk g2n g3n
        go_wp2_with fail
        refine HC.out.mono ?_
        rintro e W4 ⟨⟨v, ra', rc', rfl, hIt, hNS⟩, hb4⟩
        obtain ⟨hbx, hKR, hpl, hf', hspec, hrl, hfit, g2n, hlen, hlenk, hn, hbV⟩ := HM.out
        cases it with
        | node tl tb tk =>
        have hIt' := hIt
        obtain ⟨ta, tc, ta', tc', rfl, _, _, _⟩ := hIt'.form
        have hs4 := hb4.size
        have hVr := hLI.out.size
        have hBV : B < V.heap.size := lt_of_block HL.out.1
        have hb5 : Below W4.heap.size W4 (W4.alloc (.cells #[.int .i64 tl, .slice ta tb.length tc, .slice ta' tk.length tc'] 26)) := (Below.refl _ W4).alloc (Nat.le_refl _) _
        have hb6 : Below W4.heap.size W4 ((W4.alloc (.cells #[.int .i64 tl, .slice ta tb.length tc, .slice ta' tk.length tc'] 26)).alloc (.cells #[.int .i64 tl, .slice ta tb.length tc, .slice ta' tk.length tc'] 26)) := hb5.alloc (by simp) _
        have hbx4 := (hb4.block B (by omega)).trans hbx
        have hbx6 := (hb6.block B (by omega)).trans hbx4
        have hsz6 : ((W4.alloc (.cells #[.int .i64 tl, .slice ta tb.length tc, .slice ta' tk.length tc'] 26)).alloc (.cells #[.int .i64 tl, .slice ta tb.length tc, .slice ta' tk.length tc'] 26)).heap.size = W4.heap.size + 1 + 1 := by simp
        have hlit : ((W4.alloc (.cells #[.int .i64 tl, .slice ta tb.length tc, .slice ta' tk.length tc'] 26)).alloc (.cells #[.int .i64 tl, .slice ta tb.length tc, .slice ta' tk.length tc'] 26)).heap[W4.heap.size + 1]? = some (.cells #[.int .i64 tl, .slice ta tb.length tc, .slice ta' tk.length tc'] 26 (0, 0)) := by
          have := heap_new (W4.alloc (.cells #[.int .i64 tl, .slice ta tb.length tc, .slice ta' tk.length tc'] 26)) (.cells #[.int .i64 tl, .slice ta tb.length tc, .slice ta' tk.length tc'] 26)
          rwa [World.size_alloc] at this
        obtain ⟨n0, n1, n2⟩ := cells3 hlit
        have hgoK : ∀ b o, wr.heap[b]? = some o → ((W4.alloc (.cells #[.int .i64 tl, .slice ta tb.length tc, .slice ta' tk.length tc'] 26)).alloc (.cells #[.int .i64 tl, .slice ta tb.length tc, .slice ta' tk.length tc'] 26)).heap[b]? = some o := fun b o ho => by
          have h1 := (hb4.block b (lt_of_block ho)).trans ho
          exact (hb6.block b (lt_of_block h1)).trans h1
        have hKR6 : KR V.heap.size ((W4.alloc (.cells #[.int .i64 tl, .slice ta tb.length tc, .slice ta' tk.length tc'] 26)).alloc (.cells #[.int .i64 tl, .slice ta tb.length tc, .slice ta' tk.length tc'] 26)) (.slice ka pre.length kc) pre := hKR.same fun b o _ ho _ => hgoK b o ho
        have hit6 : IsItem (cutR V.heap.size (Value.slice ka pre.length kc).ownBlock ((W4.alloc (.cells #[.int .i64 tl, .slice ta tb.length tc, .slice ta' tk.length tc'] 26)).alloc (.cells #[.int .i64 tl, .slice ta tb.length tc, .slice ta' tk.length tc'] 26))) (.node tl tb tk) (.agg #[.int .i64 tl, .slice ta tb.length tc, .slice ta' tk.length tc']) := hIt.mono fun a u hc => by
          obtain ⟨h1, h2⟩ := cut_cell.1 hc
          exact cutR_cell.2 ⟨by omega, fun e => by have := (hKR.lt e).2; omega, (hb6.cell (p := a) (World.block_lt_of_cell? _ _ h2)).trans h2⟩
        obtain ⟨g, cap, W7, hrun, hKR7, hgr, hat7, hg7, hb7⟩ := hKR6.append (by omega) (by omega) hit6 ⟨W4.heap.size + 1, 0, none⟩ 1 24 n0 n1 n2
        have hBg : B ≠ g := by
          rcases hat7 with h | h
          · have := (hKR.lt h).1; omega
          · omega
        have hbx7 : W7.heap[B]? = some (.cells #[.int .i64 xl, .slice so nb sc, .slice ka pre.length kc] 26 (0, 0)) := (hb7.block B hBV).trans hbx6
        have hLI8 : LI w0 w V B xl (.slice so nb sc) f xm.toNat r deep (k + 1) rest' ra' rc' (W7.setCell ⟨B, 2, none⟩ (.slice (some ⟨g, 0, none⟩) (pre.length + 1) cap)) := by
          have hb68 : ∀ b, b < V.heap.size → b ≠ B → (W7.setCell ⟨B, 2, none⟩ (.slice (some ⟨g, 0, none⟩) (pre.length + 1) cap)).heap[b]? = wr.heap[b]? := fun b h1 h2 =>
            (Below.heap_setCell _ _ _ _ h2).trans ((hb7.block b h1).trans ((hb6.block b (by omega)).trans (hb4.block b (by omega))))
          refine ⟨⟨pre ++ [.node tl tb tk], _, blk_set hbx7 _, hKR7.same (fun b o h1 h2 _ => (Below.heap_setCell _ _ _ _ (by dsimp only; omega)).trans h2), by rw [List.length_append, hpl]; rfl, f'', by omega, ?_⟩, fun b h1 h2 => (hb68 b h1 h2).trans (hLI.out.keep b h1 h2), ?_, ?_, hNS, hfit.2, ?_⟩
          · rw [hspec, show xm.toNat - k - 1 = xm.toNat - (k + 1) by omega]
            simp
          · have hw := hLI.out.below.size
            have hwV : w.heap.size ≤ V.heap.size := by
              have := HL.out.2.2.2.2.1.size
              have h2 : W0.heap.size = w.heap.size + 1 := by rw [← hW0]; simp
              omega
            have hwB : w.heap.size ≤ B := by
              have h2 : W0.heap.size = w.heap.size + 1 := by rw [← hW0]; simp
              have := HL.out.2.1
              omega
            exact (((hLI.out.below.trans (hb4.mono hw)).trans (hb6.mono (by omega))).trans (hb7.mono hwV)).setCell hwB _
          · have := hb7.size
            simp
            omega
          · rw [hn]; omega
        have HLI8 := hideP hLI8
        have HKN : Hid (k + 1 ≤ n) := hideP (by omega)
        have HRUN := hideP hrun
        obtain ⟨p0, p1, p2⟩ := cells3 hbx4
        have q2 := blk_cell hbx7 (o := 2) rfl
        have qf : ∀ o, W7.frozen? ⟨B, o, none⟩ = false := fun o => blk_free hbx7
        have hkx := heap_new W4 (.cells #[.int .i64 tl, .slice ta tb.length tc, .slice ta' tk.length tc'] 26)
        obtain ⟨k0, k1, k2⟩ := cells3 hkx
        have hb5c := (hb5.cell (p := ⟨B, 2, none⟩) (by dsimp only; omega)).trans p2
        clear hbx hKR hpl hf' hspec hrl hfit g2n hlen hlenk hn hbV hIt hNS hb4 hIt' hs4 hVr hBV hb5 hb6 hbx4 hbx6 hsz6 hlit n0 n1 n2 hgoK hKR6 hit6 hrun hKR7 hgr hat7 hg7 hb7 hBg hbx7 hLI8 hkx HC HM hLI p0 p1
        generalize hnt : tb.length = nt at *
        generalize hnt' : tk.length = nt' at *
        generalize hpn : pre.length = pn at *
        clear hnt hnt' hpn
        go_wp2_with (at_builtin; refine wpList_append_run rfl _ _ 24 rfl rfl rfl rfl HRUN.out ?_)
        exact ⟨⟨k + 1, rest', ra', rc', rfl, rfl, HLI8⟩, by have := HKN.out; simp [intOf]; omega⟩
      · obtain ⟨pre, kv, hbx, hKR, hpl, f', hf', hspec⟩ := hLI.out.row
        obtain ⟨ka, kc, rfl⟩ := hKR.len
        have hex : kidsT f xm.toNat r deep = (pre, rest) := by
          rw [hspec]
          have : kidsT f' (xm.toNat - k) rest deep = ([], rest) := by
            cases f' with
            | zero => omega
            | succ f' =>
              rw [kidsT, if_neg]
              rintro ⟨h1, h2, h3⟩
              refine hgo ⟨by omega, ?_, h3⟩
              cases rest with
              | nil => exact absurd rfl h2
              | cons a b => simp
          rw [this]
          simp
        obtain ⟨hbx0, hBl, hO, hat, hbV, hT, hok, hlen, hf, hn, hb0, hres, IH, hb00⟩ := HL.out
        have hw0 : W0.heap.size = w.heap.size + 1 := by rw [← hW0]; simp
        have hVs := hbV.size
        have hres1 : wr.heap[w.heap.size]? = some (.cells #[.int .i64 0, .slice none 0 0, .slice none 0 0] 26 (0, 0)) := (hLI.out.keep _ (by omega) (by omega)).trans ((hbV.block _ (by omega)).trans hres)
        have hfin : IsItem (cut w.heap.size (((wr.setCell ⟨w.heap.size, 0, none⟩ (.int .i64 xl)).setCell ⟨w.heap.size, 1, none⟩ (.slice so nb sc)).setCell ⟨w.heap.size, 2, none⟩ (.slice ka pre.length kc))) (.node xl xb pre) (.agg #[.int .i64 xl, .slice so nb sc, .slice ka pre.length kc]) := by
          obtain ⟨ka', kc', ee, hk1, hk2⟩ := hKR.kids
          cases ee
          rw [← hnb] at hO ⊢
          refine item_of_parts (hO.into_at fun a u h1 hso h2 => ?_) ⟨hk1.le, hk1.room, hk1.at_⟩ (hk2.mono fun a u hc => ?_)
          · have hal := World.block_lt_of_cell? _ _ h2
            have hne : a.block ≠ w.heap.size := by omega
            have hB : a.block ≠ B := hat _ hso
            exact cut_cell.2 ⟨by omega, (cell_congr (Below.heap_setCell _ _ _ _ hne)).trans ((cell_congr (Below.heap_setCell _ _ _ _ hne)).trans ((cell_congr (Below.heap_setCell _ _ _ _ hne)).trans ((cell_congr (hLI.out.keep _ hal hB)).trans h2)))⟩
          · obtain ⟨h1, h2⟩ := cut_cell.1 hc
            have hne : a.block ≠ w.heap.size := by omega
            exact cut_cell.2 ⟨by omega, (cell_congr (Below.heap_setCell _ _ _ _ hne)).trans ((cell_congr (Below.heap_setCell _ _ _ _ hne)).trans ((cell_congr (Below.heap_setCell _ _ _ _ hne)).trans h2))⟩
        have HEND := hideP (And.intro hfin (And.intro hLI.out.ns (((hLI.out.below.setCell (p := ⟨w.heap.size, 0, none⟩) (Nat.le_refl _) (.int .i64 xl)).setCell (p := ⟨w.heap.size, 1, none⟩) (Nat.le_refl _) (.slice so nb sc)).setCell (p := ⟨w.heap.size, 2, none⟩) (Nat.le_refl _) (.slice ka pre.length kc))))
        have HEX := hideP hex
        obtain ⟨x0, x1, x2⟩ := cells3 hbx
        obtain ⟨y0, y1, y2⟩ := cells3 hres1
        have yf : ∀ o, wr.frozen? ⟨w.heap.size, o, none⟩ = false := fun o => blk_free hres1
        clear hfin hex hbx hKR hpl hspec hf' hbx0 hBl hO hat hbV hT hok hlen hf hn hb0 hres IH hb00 hw0 hVs hres1
        by_cases h1 : (k : Int) < xm
        · by_cases h2 : 0 < rest.length
          · have h3 : ¬ deep < 200 := fun h => hgo ⟨h1, h2, h⟩
            have g2 : (0 : Int) < (rest.length : Int) := by omega
            have g3 : ¬ (deep : Int) < 200 := by omega
            clear hgo h2 h3 hlenk hLI
            have g2' : (rest.length : Int) > 0 := g2
            go_wp2_with fail
            refine bodyPost_ret (v := .tuple #[.agg #[.int .i64 xl, .slice so nb sc, .slice ka pre.length kc], .slice ra rest.length rc]) (by simp [results, Try.results48, go_sem, y0, y1, y2, World.cell?_setCell_same]) rfl ?_
            rw [HEX.out]
            exact ⟨⟨_, _, _, rfl, HEND.out.1, HEND.out.2.1⟩, HEND.out.2.2⟩
          · have g2 : ¬ (0 : Int) < (rest.length : Int) := by omega
            have g2' : ¬ (rest.length : Int) > 0 := g2
            clear hgo h2 hlenk hLI
            go_wp2_with fail
            refine bodyPost_ret (v := .tuple #[.agg #[.int .i64 xl, .slice so nb sc, .slice ka pre.length kc], .slice ra rest.length rc]) (by simp [results, Try.results48, go_sem, y0, y1, y2, World.cell?_setCell_same]) rfl ?_
            rw [HEX.out]
            exact ⟨⟨_, _, _, rfl, HEND.out.1, HEND.out.2.1⟩, HEND.out.2.2⟩
        · clear hgo hlenk hLI
          go_wp2_with fail
          refine bodyPost_ret (v := .tuple #[.agg #[.int .i64 xl, .slice so nb sc, .slice ka pre.length kc], .slice ra rest.length rc]) (by simp [results, Try.results48, go_sem, y0, y1, y2, World.cell?_setCell_same]) rfl ?_
          rw [HEX.out]
          exact ⟨⟨_, _, _, rfl, HEND.out.1, HEND.out.2.1⟩, HEND.out.2.2⟩
  clear hK1
  refine region_lateK [] (fun V => Below W0.heap.size W0 V) (by kernel_rfl) (Below.refl _ W0).drew (fun hS => ?_)
  refine anyZ_take (i := 0) (g := 5) (v := ?_) rfl (by kernel_rfl) (by kernel_rfl) (by kernel_rfl) (by kernel_rfl) (by kernel_rfl) (fun _ _ _ h => h) (Or.inl ⟨by kernel_rfl, ?_⟩) hS ?_
  rotate_left
  · intro V hV
    go_simp
    (try with_reducible rfl)
  simp only [put_list, List.set_cons_succ, List.set_cons_zero]
  refine anyZ_take (i := 1) (g := 5) (v := ?_) rfl (by kernel_rfl) (by kernel_rfl) (by kernel_rfl) (by kernel_rfl) (by kernel_rfl) (fun _ _ _ h => h) (Or.inl ⟨by kernel_rfl, ?_⟩) hS ?_
  rotate_left
  · intro V hV
    go_simp
    (try with_reducible rfl)
  simp only [put_list, List.set_cons_succ, List.set_cons_zero]
  refine anyZ_take (i := 2) (g := 5) (v := ?_) rfl (by kernel_rfl) (by kernel_rfl) (by kernel_rfl) (by kernel_rfl) (by kernel_rfl) (fun _ _ _ h => h) (Or.inl ⟨by kernel_rfl, ?_⟩) hS ?_
  rotate_left
  · intro V hV
    go_simp
    (try with_reducible rfl)
  simp only [put_list, List.set_cons_succ, List.set_cons_zero]
  refine anyZ_take (i := 3) (g := 5) (v := ?_) rfl (by kernel_rfl) (by kernel_rfl) (by kernel_rfl) (by kernel_rfl) (by kernel_rfl) (fun _ _ _ h => h) (Or.inl ⟨by kernel_rfl, ?_⟩) hS ?_
  rotate_left
  · intro V hV
    have k0 := (hV.cell (p := ad) hadl).trans c0
    go_simp
    (try with_reducible rfl)
  simp only [put_list, List.set_cons_succ, List.set_cons_zero]
  refine anyZ_take (i := 5) (g := 5) (v := ?_) rfl (by kernel_rfl) (by kernel_rfl) (by kernel_rfl) (by kernel_rfl) (by kernel_rfl) (fun _ _ _ h => h) (Or.inl ⟨by kernel_rfl, ?_⟩) hS ?_
  rotate_left
  · intro V hV
    go_simp
    (try with_reducible rfl)
  simp only [put_list, List.set_cons_succ, List.set_cons_zero]
  refine anyZ_take (i := 6) (g := 5) (v := ?_) rfl (by kernel_rfl) (by kernel_rfl) (by kernel_rfl) (by kernel_rfl) (by kernel_rfl) (fun _ _ _ h => h) (Or.inl ⟨by kernel_rfl, ?_⟩) hS ?_
  rotate_left
  · intro V hV
    go_simp
    (try with_reducible rfl)
  simp only [put_list, List.set_cons_succ, List.set_cons_zero]
  refine anyZ_take (i := 7) (g := 5) (v := ?_) rfl (by kernel_rfl) (by kernel_rfl) (by kernel_rfl) (by kernel_rfl) (by kernel_rfl) (fun _ _ _ h => h) (Or.inl ⟨by kernel_rfl, ?_⟩) hS ?_
  rotate_left
  · intro V hV
    go_simp
    (try with_reducible rfl)
  simp only [put_list, List.set_cons_succ, List.set_cons_zero]
  refine anyZ_take (i := 8) (g := 5) (v := ?_) rfl (by kernel_rfl) (by kernel_rfl) (by kernel_rfl) (by kernel_rfl) (by kernel_rfl) (fun _ _ _ h => h) (Or.inl ⟨by kernel_rfl, ?_⟩) hS ?_
  rotate_left
  · intro V hV
    have k0 : V.cell? ⟨ad.block, ad.off + 1, none⟩ = some (.slice xa nb xc) := (hV.cell (p := ad.add 1) hadl1).trans c1
    go_simp
    (try with_reducible rfl)
  simp only [put_list, List.set_cons_succ, List.set_cons_zero]
  obtain ⟨hT, hsl, hok, hlen, hf, hn, h, c2, hb0, hBx, hxb, hres, IH, hb00⟩ := HALL.out
  have HBX := hideP hBx
  have HXB := hideP hxb
  clear hT hsl hok hlen hf hn h c2 hb0 hBx hxb hres hB hnb IH hb00
  refine anyZ_two (i := 4) (j := 11) (by kernel_rfl) rfl rfl (fun Kc hKc => ?_) (fun Kc hKc => ?_)
  · go_simp
    have hS : Below W0.heap.size W0 (W0.alloc (.cells #[] 5)).drew := ((Below.refl _ W0).alloc (Nat.le_refl _) _).drew
    have hS0 := hS
    refine hKc.out _ _ (fun _ => hS) ?_
    clear hKc Kc
    have hsz1 : (W0.alloc (.cells #[] 5)).drew.heap.size = W0.heap.size + 1 := by simp
    have HSZ1 := hideP hsz1
    clear hsz1
    generalize (W0.alloc (.cells #[] 5)).drew = W1 at *
    refine anyZ_two (i := 9) (j := 11) (by kernel_rfl) rfl rfl (fun Kc hKc => ?_) (fun Kc hKc => ?_)
    · refine step_fresh (dd := 24) rfl (.tmp 19) (.tmp 23) rfl rfl W0.heap.size W0.heap.size rfl rfl HXB.out (HBX.out.moved hS) ⟨Nat.le_refl _, by have := HSZ1.out; omega⟩ (fun so sc W2 hO hb2 hat => ?_)
      have hS := hS.trans (hb2.mono hS.size)
      refine hKc.out _ _ (fun _ => hS) ?_
      clear hKc Kc
      simp only [put_list, List.set_cons_succ, List.set_cons_zero]
      refine anyZ_take (i := 10) (g := 5) (v := ?_) rfl (by kernel_rfl) (by kernel_rfl) (by kernel_rfl) (by kernel_rfl) (by kernel_rfl) (fun _ _ _ h => h) (Or.inl ⟨by kernel_rfl, ?_⟩) hS ?_
      rotate_left
      · intro V hV
        go_simp
        (try with_reducible rfl)
      simp only [put_list, List.set_cons_succ, List.set_cons_zero]
      refine anyZ_one (i := 11) (by kernel_rfl) rfl (fun Kc hKc => ?_)
      go_simp
      have hS := hS.alloc hS.size (.cells #[.int .i64 0, .slice none 0 0, .slice none 0 0] 26)
      refine hKc.out _ _ (fun _ => hS) ?_
      clear hKc Kc
      refine anyZ_one (i := 12) (by kernel_rfl) rfl (fun Kc hKc => ?_)
      go_simp
      have hS4 : Below W0.heap.size W0 (W2.alloc (.cells #[.int .i64 xl, .slice so nb sc, .slice none 0 0] 26)) := (hS0.trans (hb2.mono hS0.size)).alloc (Nat.le_trans hS0.size hb2.size) _
      refine hKc.out _ _ (fun _ => hS4) ?_
      clear hKc Kc
      refine anyZ_done (by kernel_rfl) ?_ _
      have hs2 := hb2.size
      have hs1 := HSZ1.out
      refine HREST.out W2.heap.size _ so sc _ (heap_new W2 _) (by omega) ?_ (fun g e => by subst e; have := hO.lt; omega) hS4
      exact hO.same (fun b _ hb => heap_old W2 _ hb) (by simp) (Nat.le_refl _)
    · go_simp
      have hS := hS.alloc hS.size (.cells #[.int .i64 0, .slice none 0 0, .slice none 0 0] 26)
      refine hKc.out _ _ (fun _ => hS) ?_
      clear hKc Kc
      have hbox := heap_new W1 (.cells #[.int .i64 0, .slice none 0 0, .slice none 0 0] 26)
      have hsz2 : (W1.alloc (.cells #[.int .i64 0, .slice none 0 0, .slice none 0 0] 26)).heap.size = W1.heap.size + 1 := by simp
      have HSZ2 := hideP (And.intro hsz2 HSZ1.out)
      clear hsz2 HSZ1
      generalize hBXe : W1.heap.size = BX at *
      generalize (W1.alloc (.cells #[.int .i64 0, .slice none 0 0, .slice none 0 0] 26)) = W2 at *
      clear hBXe
      refine anyZ_one (i := 9) (by kernel_rfl) rfl (fun Kc hKc => ?_)
      refine step_fresh (dd := 24) rfl (.tmp 19) (.tmp 23) rfl rfl W0.heap.size W0.heap.size rfl rfl HXB.out (HBX.out.moved hS) ⟨Nat.le_refl _, by have := HSZ2.out; omega⟩ (fun so sc W3 hO hb3 hat => ?_)
      have hS := hS.trans (hb3.mono hS.size)
      have HBOX := hideP ((hb3.block _ (lt_of_block hbox)).trans hbox)
      have hBXl : W0.heap.size ≤ BX := by have := HSZ2.out; omega
      have HAT : Hid (∀ g, so = some ⟨g, 0, none⟩ → g ≠ BX) := hideP (fun g e => by have := HSZ2.out; rcases hat g e with h | h <;> omega)
      refine hKc.out _ _ (fun _ => hS) ?_
      clear hKc Kc
      simp only [put_list, List.set_cons_succ, List.set_cons_zero]
      refine anyZ_take (i := 10) (g := 5) (v := ?_) rfl (by kernel_rfl) (by kernel_rfl) (by kernel_rfl) (by kernel_rfl) (by kernel_rfl) (fun _ _ _ h => h) (Or.inl ⟨by kernel_rfl, ?_⟩) hS ?_
      rotate_left
      · intro V hV
        go_simp
        (try with_reducible rfl)
      simp only [put_list, List.set_cons_succ, List.set_cons_zero]
      refine anyZ_one (i := 12) (by kernel_rfl) rfl (fun Kc hKc => ?_)
      have hbx3 : W3.heap[BX]? = some (.cells #[.int .i64 0, .slice none 0 0, .slice none 0 0] 26 (0, 0)) := HBOX.out
      obtain ⟨z0, z1, z2⟩ := cells3 hbx3
      have zf : ∀ o, W3.frozen? ⟨BX, o, none⟩ = false := fun o => blk_free hbx3
      go_simp
      have hS5 : Below W0.heap.size W0 (((W3.setCell ⟨BX, 0, none⟩ (.int .i64 xl)).setCell ⟨BX, 1, none⟩ (.slice so nb sc)).setCell ⟨BX, 2, none⟩ (.slice none 0 0)) := ((hS.setCell hBXl _).setCell hBXl _).setCell hBXl _
      refine hKc.out _ _ (fun _ => hS5) ?_
      clear hKc Kc
      refine anyZ_done (by kernel_rfl) ?_ _
      refine HREST.out BX _ so sc _ (blk_set (blk_set (blk_set hbx3 _) _) _) hBXl ?_ HAT.out hS5
      obtain ⟨ao2, cap2, e2, hB2, hg2⟩ := hO.ex
      cases e2
      refine ⟨_, _, rfl, ⟨hB2.lt, hB2.le, hB2.room, fun j hj => ?_, hB2.nil⟩, ?_⟩
      · obtain ⟨ad2, e2, hv2⟩ := hB2.cell j hj
        subst e2
        rcases hg2 with h | ⟨g, e, h1, h2⟩
        · cases h
        · cases e
          have hne : g ≠ BX := HAT.out g rfl
          refine ⟨_, rfl, ?_⟩
          have hne' : ((⟨g, 0, none⟩ : Addr).add j).block ≠ BX := by rw [add_block]; exact hne
          exact (cell_congr (Below.heap_setCell _ _ _ _ hne')).trans ((cell_congr (Below.heap_setCell _ _ _ _ hne')).trans ((cell_congr (Below.heap_setCell _ _ _ _ hne')).trans hv2))
      · rcases hg2 with h | ⟨g, e, h1, h2⟩
        · exact Or.inl h
        · exact Or.inr ⟨g, e, h1, by simpa using h2⟩
  · go_simp
    have hS : Below W0.heap.size W0 ((W0.alloc (.cells #[.int .i64 0, .slice none 0 0, .slice none 0 0] 26)).drew) := ((Below.refl _ W0).alloc (Nat.le_refl _) _).drew
    refine hKc.out _ _ (fun _ => hS) ?_
    clear hKc Kc
    have hbox : ((W0.alloc (.cells #[.int .i64 0, .slice none 0 0, .slice none 0 0] 26)).drew).heap[W0.heap.size]? = some (.cells #[.int .i64 0, .slice none 0 0, .slice none 0 0] 26 (0, 0)) := heap_new W0 _
    have hsz1 : ((W0.alloc (.cells #[.int .i64 0, .slice none 0 0, .slice none 0 0] 26)).drew).heap.size = W0.heap.size + 1 := by simp
    have HSZ1 := hideP hsz1
    clear hsz1
    generalize ((W0.alloc (.cells #[.int .i64 0, .slice none 0 0, .slice none 0 0] 26)).drew) = W1 at *
    refine anyZ_one (i := 4) (by kernel_rfl) rfl (fun Kc hKc => ?_)
    go_simp
    have hS := hS.alloc hS.size (.cells #[] 5)
    refine hKc.out _ _ (fun _ => hS) ?_
    clear hKc Kc
    have hbox := (heap_old W1 (.cells #[] 5) (lt_of_block hbox)).trans hbox
    have hsz2 : (W1.alloc (.cells #[] 5)).heap.size = W1.heap.size + 1 := by simp
    have HSZ2 := hideP (And.intro hsz2 HSZ1.out)
    clear hsz2 HSZ1
    generalize hBXe : W1.heap.size = B1 at *
    generalize (W1.alloc (.cells #[] 5)) = W2 at *
    clear hBXe
    refine anyZ_one (i := 9) (by kernel_rfl) rfl (fun Kc hKc => ?_)
    refine step_fresh (dd := 24) rfl (.tmp 19) (.tmp 23) rfl rfl B1 W0.heap.size rfl rfl HXB.out (HBX.out.moved hS) ⟨by have := HSZ2.out; omega, by have := HSZ2.out; omega⟩ (fun so sc W3 hO hb3 hat => ?_)
    have hS := hS.trans (hb3.mono hS.size)
    have HBOX := hideP ((hb3.block _ (lt_of_block hbox)).trans hbox)
    have hBXl : W0.heap.size ≤ W0.heap.size := Nat.le_refl _
    have HAT : Hid (∀ g, so = some ⟨g, 0, none⟩ → g ≠ W0.heap.size) := hideP (fun g e => by have := HSZ2.out; rcases hat g e with h | h <;> omega)
    refine hKc.out _ _ (fun _ => hS) ?_
    clear hKc Kc
    simp only [put_list, List.set_cons_succ, List.set_cons_zero]
    refine anyZ_take (i := 10) (g := 5) (v := ?_) rfl (by kernel_rfl) (by kernel_rfl) (by kernel_rfl) (by kernel_rfl) (by kernel_rfl) (fun _ _ _ h => h) (Or.inl ⟨by kernel_rfl, ?_⟩) hS ?_
    rotate_left
    · intro V hV
      go_simp
      (try with_reducible rfl)
    simp only [put_list, List.set_cons_succ, List.set_cons_zero]
    refine anyZ_one (i := 12) (by kernel_rfl) rfl (fun Kc hKc => ?_)
    have hbx3 : W3.heap[W0.heap.size]? = some (.cells #[.int .i64 0, .slice none 0 0, .slice none 0 0] 26 (0, 0)) := HBOX.out
    obtain ⟨z0, z1, z2⟩ := cells3 hbx3
    have zf : ∀ o, W3.frozen? ⟨W0.heap.size, o, none⟩ = false := fun o => blk_free hbx3
    go_simp
    have hS5 : Below W0.heap.size W0 (((W3.setCell ⟨W0.heap.size, 0, none⟩ (.int .i64 xl)).setCell ⟨W0.heap.size, 1, none⟩ (.slice so nb sc)).setCell ⟨W0.heap.size, 2, none⟩ (.slice none 0 0)) := ((hS.setCell hBXl _).setCell hBXl _).setCell hBXl _
    refine hKc.out _ _ (fun _ => hS5) ?_
    clear hKc Kc
    refine anyZ_done (by kernel_rfl) ?_ _
    refine HREST.out W0.heap.size _ so sc _ (blk_set (blk_set (blk_set hbx3 _) _) _) hBXl ?_ HAT.out hS5
    obtain ⟨ao2, cap2, e2, hB2, hg2⟩ := hO.ex
    cases e2
    refine ⟨_, _, rfl, ⟨hB2.lt, hB2.le, hB2.room, fun j hj => ?_, hB2.nil⟩, ?_⟩
    · obtain ⟨ad2, e2, hv2⟩ := hB2.cell j hj
      subst e2
      rcases hg2 with h | ⟨g, e, h1, h2⟩
      · cases h
      · cases e
        have hne : g ≠ W0.heap.size := HAT.out g rfl
        refine ⟨_, rfl, ?_⟩
        have hne' : ((⟨g, 0, none⟩ : Addr).add j).block ≠ W0.heap.size := by rw [add_block]; exact hne
        exact (cell_congr (Below.heap_setCell _ _ _ _ hne')).trans ((cell_congr (Below.heap_setCell _ _ _ _ hne')).trans ((cell_congr (Below.heap_setCell _ _ _ _ hne')).trans hv2))
    · rcases hg2 with h | ⟨g, e, h1, h2⟩
      · exact Or.inl h
      · exact Or.inr ⟨g, e, h1, by simpa using h2⟩

end Go.Proofs.Ytigebmidfddbcaa
