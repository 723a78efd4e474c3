/- YtcceaokldphfgaaDiskDoesC14 -/
import Derived.Test.YtcceaokldphfgaaDiskDoesC13
namespace Go.Proofs.Ytcceaokldphfgaa
open Go.RowKit Go.Shelf

/-- A disk that was made since w0, with a plan that neither fails nor fills. -/
def Is (w0 w : World) (D : Nat) (dead : Bool) (ops crash : Int) (keep : List Int) (fs : List AFile) : Prop :=
  ∃ role s, DiskOK w role D s ∧ Stp noRole role w0 w ∧ s.dead = dead ∧ s.ops = ops ∧ s.crash = crash ∧ s.room = 0 ∧ s.keep = keep ∧ s.fail = [] ∧ s.full = [] ∧ s.fs.map (·.a) = fs

theorem Is.still {w0 w w' : World} {D : Nat} {dead : Bool} {ops crash : Int} {keep : List Int} {fs : List AFile} (h : Is w0 w D dead ops crash keep fs) (hb : Below w.heap.size w w') : Is w0 w' D dead ops crash keep fs := by
  obtain ⟨role, s, h1, h2, h3⟩ := h
  exact ⟨role, s, h1.still hb, h2.trans (Stp.still hb), h3⟩

theorem Is.below {w0 w : World} {D : Nat} {dead : Bool} {ops crash : Int} {keep : List Int} {fs : List AFile} (h : Is w0 w D dead ops crash keep fs) : Below w0.heap.size w0 w := by
  obtain ⟨role, s, _, h2, _⟩ := h
  exact ⟨h2.os, h2.tape, h2.output, h2.size, fun k hk => h2.keep k hk (.inl rfl)⟩

theorem find_abs {fs : List FRep} {l : List AFile} (h : fs.map (·.a) = l) (t : ByteArray) : (findF fs t).map (·.a) = l.find? (fun a => cmpS a.name t == 0) := by
  subst h
  unfold findF
  rw [List.find?_map]
  rfl

theorem is_new (w : World) (keepV : Value) (keep : List Int) (crash : Int) (h1 : RdI w keepV keep) (l1 : keep.length * 8 ≤ 140737488351232) (b1 : ∀ a n c, keepV = .slice (some a) n c → a.block < w.heap.size) (e1 : ∀ x ∈ keep, I64 x) (hC : I64 crash) :
    Calls Try.prog 12 #[.agg #[.int .i64 crash, keepV, .slice none 0 0, .slice none 0 0, .int .i64 0]] w fun r w' => ∃ D, r = .returned (.pointer (some ⟨D, 0, none⟩)) ∧ Hid (Is w w' D false 0 crash keep []) := by
  refine (new_any crash 0 keepV (.slice none 0 0) (.slice none 0 0) keep [] [] w h1 (.inl ⟨rfl, rfl⟩) (.inl ⟨rfl, rfl⟩) l1 (by simp) (by simp) b1 (by simp) (by simp) e1 (by simp) (by simp) hC ⟨by simp, by simp⟩).mono ?_
  rintro r w' ⟨D, rfl, hD, h⟩
  obtain ⟨role, s, a1, a2, a3, a4, a5, a6, a7, a8, a9, a10⟩ := h.out
  exact ⟨D, rfl, role, s, a1, a2, a3, a9, a4, a5, a6, a7, a8, by rw [a10]; rfl⟩

theorem is_create {w0 w : World} {D : Nat} {ops crash : Int} {keep : List Int} {fs : List AFile} (h : Is w0 w D false ops crash keep fs) (t : ByteArray) (ho : ops < 1099511627776) (hcr : ops + 1 ≠ crash) (hok : okName t = true) (hlast : ∀ a ∈ fs, cmpS a.name t < 0) (hfew : fs.length < 4096) :
    Calls Try.prog 29 #[.pointer (some ⟨D, 0, none⟩), .string t] w fun r w' => r = .returned (.int .i64 0) ∧ Hid (Is w0 w' D false (ops + 1) crash keep (fs ++ [{ name := t, safe := [], chs := [], data := [] }])) := by
  obtain ⟨role, s, a1, a2, a3, a4, a5, a6, a7, a8, a9, a10⟩ := h
  refine (create_last a1 a3 (by omega) (by omega) (by simp [a8]) (by simp [a9]) hok (fun f hf => hlast f.a (by rw [← a10]; exact List.mem_map_of_mem hf)) (by rw [← List.length_map (·.a), a10]; exact hfew)).mono ?_
  rintro r w' ⟨rfl, role', p, v', b1, b2⟩
  refine ⟨rfl, role', _, b1, a2.trans b2, a3, ?_, a5, a6, a7, a8, a9, ?_⟩
  · simp only [bump]; omega
  · simp [a10, newF]

theorem is_none {w0 w : World} {D : Nat} {ops crash : Int} {keep : List Int} {fs : List AFile} (h : Is w0 w D false ops crash keep fs) (t : ByteArray) (ho : ops < 1099511627776) (hcr : ops + 1 ≠ crash) (hno : fs.find? (fun a => cmpS a.name t == 0) = none) :
    Calls Try.prog 26 #[.pointer (some ⟨D, 0, none⟩), .string t] w fun r w' => r = .returned (.int .i64 13) ∧ Hid (Is w0 w' D false (ops + 1) crash keep fs) := by
  obtain ⟨role, s, a1, a2, a3, a4, a5, a6, a7, a8, a9, a10⟩ := h
  have hf := find_abs a10 t
  rw [hno] at hf
  simp only [Option.map_eq_none_iff] at hf
  refine (sync_none a1 a3 (by omega) (by omega) (by simp [a8]) hf).mono ?_
  rintro r w' ⟨rfl, role', b1, b2⟩
  refine ⟨rfl, role', _, b1, a2.trans b2, a3, ?_, a5, a6, a7, a8, a9, a10⟩
  simp only [bump]; omega

/-- Bytes in a block that is new. -/
theorem beside_new {w : World} {role : Role} {D : Nat} {s : DSt} (h : DiskOK w role D s) (n c : Nat) : Beside role (.slice (some ⟨w.heap.size, 0, none⟩) n c) := by
  intro a m k e
  cases e
  cases e : role w.heap.size with
  | none => rfl
  | some q => have := h.dom _ q e; omega

theorem rd_new (w : World) (l : List UInt8) (C : Array Value) (hC : C = (l.map byteV).toArray) (fr : Nat × Nat) : Rd (w.alloc (.cells C 5 fr)) (.slice (some ⟨w.heap.size, 0, none⟩) l.length l.length) l := by
  refine ⟨_, _, rfl, Nat.le_refl _, fun j x hx => ⟨_, rfl, ?_⟩⟩
  have : (w.alloc (.cells C 5 fr)).cell? ⟨w.heap.size, 0 + j, none⟩ = C[0 + j]? := World.cell?_alloc_mark w C 5 fr (0 + j)
  have hadd : (⟨w.heap.size, 0, none⟩ : Addr).add j = ⟨w.heap.size, 0 + j, none⟩ := Addr.add_lit _ _ _
  rw [hadd, this]
  subst hC
  simp [hx]

/-- Append to the only file, with the bytes in new memory. -/
theorem is_append {w0 w : World} {D : Nat} {ops crash : Int} {keep : List Int} {a : AFile} (h : Is w0 w D false ops crash keep [a]) (l : List UInt8) (C : Array Value) (hC : C = (l.map byteV).toArray) (fr : Nat × Nat) (ho : ops < 1099511627776) (hcr : ops + 1 ≠ crash) (hl : a.data.length + l.length ≤ 268435456) :
    Calls Try.prog 30 #[.pointer (some ⟨D, 0, none⟩), .string a.name, .slice (some ⟨w.heap.size, 0, none⟩) l.length l.length] (w.alloc (.cells C 5 fr)) fun r w' => r = .returned (.int .i64 0) ∧ Hid (Is w0 w' D false (ops + 1) crash keep [changeA (.inl (a.data.length, l)) a]) := by
  have hb : Below w.heap.size w (w.alloc (.cells C 5 fr)) := (Below.refl _ w).alloc (Nat.le_refl _) _
  obtain ⟨role, s, a1, a2, a3, a4, a5, a6, a7, a8, a9, a10⟩ := h
  refine (append_any (a1.still hb) (by omega) a.name _ l (rd_new w l C hC fr) (beside_new a1 _ _) (by omega)).mono ?_
  rintro r w' ⟨role', s', e, rfl, b1, b2, b3⟩
  obtain ⟨f0, hf0⟩ : ∃ f0, s.fs = [f0] := by
    have := congrArg List.length a10
    simp at this
    exact List.length_eq_one_iff.1 this
  have hfa : f0.a = a := by rw [hf0] at a10; simpa using a10
  have hbeg : ∀ x s1, BeginR s s1 x → x = 0 ∧ s1 = bump s := by
    intro x s1 hr
    rcases hr with ⟨g, _⟩ | ⟨_, g, _⟩ | ⟨_, _, g, g'⟩
    · rw [a3] at g; cases g
    · omega
    · rw [a8] at g; simp at g; exact ⟨g, g'⟩
  have hfind : findF s.fs a.name = some f0 := by
    rw [hf0]; unfold findF; simp [hfa, cmpS_zero.2]
  rcases b3 with ⟨v, ⟨x, q1, q2, _⟩ | ⟨q1, q2, q3⟩, hne⟩ | ⟨s1, i, f, q1, q2, q3, q4⟩
  · exact absurd (hbeg _ _ q1).1 q2
  · obtain ⟨_, rfl⟩ := hbeg _ _ q1
    have : findF (bump s).fs a.name = some f0 := hfind
    rw [this] at q3
    exact absurd (by simpa using q3) hne
  · obtain ⟨q5, f', i', q6, q7, q8, q9⟩ := q1.found
    obtain ⟨_, rfl⟩ := hbeg _ _ q5
    have hi : i = 0 ∧ f = f0 := by
      have : (bump s).fs = [f0] := hf0
      rw [this] at q2
      cases i with
      | zero => exact ⟨rfl, by simpa using q2.symm⟩
      | succ k => simp at q2
    obtain ⟨rfl, rfl⟩ := hi
    rw [hfa] at q4
    rcases q4 with ⟨q4, _⟩ | ⟨_, q4⟩
    · omega
    · obtain ⟨g1, g2, ⟨g3, _⟩ | ⟨g3, rfl, g4⟩⟩ := q4
      · simp [fullB, bump, a9, a6] at g3
      · refine ⟨rfl, role', s', b1, (a2.trans (Stp.still hb)).trans b2, ?_, ?_, ?_, ?_, ?_, ?_, ?_, ?_⟩
        · rw [g1]; exact a3
        · rw [g1]; simp only [bump]; omega
        · rw [g1]; exact a5
        · rw [g1]; exact a6
        · rw [g1]; exact a7
        · rw [g1]; exact a8
        · rw [g1]; exact a9
        · rw [g4]
          have : (bump s).fs = [f] := hf0
          rw [this, hfa]; simp

/-- Append where the machine stops. -/
theorem is_crash {w0 w : World} {D : Nat} {ops crash : Int} {keep : List Int} {fs : List AFile} (h : Is w0 w D false ops crash keep fs) (t : ByteArray) (l : List UInt8) (C : Array Value) (hC : C = (l.map byteV).toArray) (fr : Nat × Nat) (ho : ops < 1099511627776) (hcr : ops + 1 = crash) (hl : l.length ≤ 268435456) :
    Calls Try.prog 30 #[.pointer (some ⟨D, 0, none⟩), .string t, .slice (some ⟨w.heap.size, 0, none⟩) l.length l.length] (w.alloc (.cells C 5 fr)) fun r w' => r = .returned (.int .i64 10) ∧ Hid (Is w0 w' D true (ops + 1) crash keep (dieAll keep 0 fs)) := by
  have hb : Below w.heap.size w (w.alloc (.cells C 5 fr)) := (Below.refl _ w).alloc (Nat.le_refl _) _
  obtain ⟨role, s, a1, a2, a3, a4, a5, a6, a7, a8, a9, a10⟩ := h
  refine (append_any (a1.still hb) (by omega) t _ l (rd_new w l C hC fr) (beside_new a1 _ _) (by omega)).mono ?_
  rintro r w' ⟨role', s', e, rfl, b1, b2, b3⟩
  have hbeg : ∀ x s1, BeginR s s1 x → x = 10 ∧ s1 = { bump s with dead := true, fs := s1.fs } ∧ s1.fs.map (·.a) = dieAll s.keep 0 (s.fs.map (·.a)) := by
    intro x s1 hr
    rcases hr with ⟨g, _⟩ | ⟨_, g, g1, g2, g3⟩ | ⟨_, g, g'⟩
    · rw [a3] at g; cases g
    · exact ⟨g1, g2, g3⟩
    · omega
  rcases b3 with ⟨v, ⟨x, q1, q2, q3, _⟩ | ⟨q1, q2, q3⟩, hne⟩ | ⟨s1, i, f, q1, q2, q3, q4⟩
  · obtain ⟨rfl, g1, g2⟩ := hbeg _ _ q1
    subst q3
    refine ⟨rfl, role', s', b1, (a2.trans (Stp.still hb)).trans b2, ?_, ?_, ?_, ?_, ?_, ?_, ?_, ?_⟩
    · rw [g1]
    · rw [g1]; simp only [bump]; omega
    · rw [g1]; exact a5
    · rw [g1]; exact a6
    · rw [g1]; exact a7
    · rw [g1]; exact a8
    · rw [g1]; exact a9
    · rw [g2, a7, a10]
  · have := (hbeg _ _ q1).1; omega
  · have := (hbeg _ _ q1.found.1).1; omega

theorem is_dead {w0 w : World} {D : Nat} {dead : Bool} {ops crash : Int} {keep : List Int} {fs : List AFile} (h : Is w0 w D dead ops crash keep fs) :
    Calls Try.prog 20 #[.pointer (some ⟨D, 0, none⟩)] w fun e w' => e = .returned (.bool dead) ∧ w = w' := by
  obtain ⟨role, s, a1, a2, a3, _⟩ := h
  exact dDead a1 dead a3

theorem is_ops {w0 w : World} {D : Nat} {dead : Bool} {ops crash : Int} {keep : List Int} {fs : List AFile} (h : Is w0 w D dead ops crash keep fs) :
    Calls Try.prog 16 #[.pointer (some ⟨D, 0, none⟩)] w fun e w' => e = .returned (.int .i64 ops) ∧ w = w' := by
  obtain ⟨role, s, a1, a2, a3, a4, _⟩ := h
  refine (ops_any D ops w (by rw [← a4]; exact blk_cell a1.blk rfl)).mono ?_
  rintro e w' ⟨rfl, h⟩
  exact ⟨rfl, h.symm⟩

theorem is_start {w0 w : World} {D : Nat} {ops crash : Int} {keep : List Int} {fs : List AFile} (h : Is w0 w D true ops crash keep fs) (hn : ∀ a ∈ fs, a.chs = []) :
    Calls Try.prog 27 #[.pointer (some ⟨D, 0, none⟩), .agg #[.int .i64 0, .slice none 0 0, .slice none 0 0, .slice none 0 0, .int .i64 0]] w fun r w' => r = .returned (.int .i64 0) ∧ Hid (Is w0 w' D false 0 0 [] fs) := by
  obtain ⟨role, s, a1, a2, a3, a4, a5, a6, a7, a8, a9, a10⟩ := h
  have hnc : nchs s.fs = 0 := by
    unfold nchs
    rw [List.sum_eq_zero_iff_forall_eq_nat]
    intro x hx
    simp only [List.mem_map] at hx
    obtain ⟨f, hf, rfl⟩ := hx
    rw [hn f.a (by rw [← a10]; exact List.mem_map_of_mem hf)]
    rfl
  refine (start_dead a1 a3 hnc 0 0 (.slice none 0 0) (.slice none 0 0) (.slice none 0 0) [] [] [] (.inl ⟨rfl, rfl⟩) (.inl ⟨rfl, rfl⟩) (.inl ⟨rfl, rfl⟩) (by simp) (by simp) (by simp) (by simp) (by simp) (by simp) (by simp) (by simp) (by simp) ⟨by simp, by simp⟩ ⟨by simp, by simp⟩).mono ?_
  rintro r w' ⟨rfl, role', s', b1, b2, b3, b4, b5, b6, b7, b8, b9, b10⟩
  exact ⟨rfl, role', s', b1, a2.trans b2, b3, b9, b4, b5, b6, b7, b8, by rw [b10]; exact a10⟩

theorem is_read {w0 w : World} {D : Nat} {ops crash : Int} {keep : List Int} {fs : List AFile} {a : AFile} (h : Is w0 w D false ops crash keep fs) (t : ByteArray) (hf : fs.find? (fun a => cmpS a.name t == 0) = some a) (n : Nat) (h0 : 0 < a.data.length) (hn : n ≤ a.data.length) :
    Calls Try.prog 17 #[.pointer (some ⟨D, 0, none⟩), .string t, .int .i64 0, .int .i64 n] w fun r w' => ∃ b, r = .returned (.tuple #[.slice (some ⟨b, 0, none⟩) n n, .int .i64 0]) ∧ w'.ownsRow w.heap.size 5 1 (.slice (some ⟨b, 0, none⟩) n n) n ((a.data.take n).map byteV) ∧ Hid (Is w0 w' D false ops crash keep fs) := by
  obtain ⟨role, s, a1, a2, a3, a4, a5, a6, a7, a8, a9, a10⟩ := h
  have hff := find_abs a10 t
  rw [hf] at hff
  simp only [Option.map_eq_some_iff] at hff
  obtain ⟨f, hf1, hf2⟩ := hff
  subst hf2
  refine (read_head a1 a3 hf1 (List.mem_of_find?_eq_some hf1) h0 hn).mono ?_
  rintro r w' ⟨b, rfl, ho, hb⟩
  exact ⟨b, rfl, ho, Is.still ⟨role, s, a1, a2, a3, a4, a5, a6, a7, a8, a9, a10⟩ hb⟩

theorem is_files {w0 w : World} {D : Nat} {ops crash : Int} {keep : List Int} {fs : List AFile} (h : Is w0 w D false ops crash keep fs) :
    Calls Try.prog 21 #[.pointer (some ⟨D, 0, none⟩)] w fun e w' => (∃ a c, e = .returned (.slice a fs.length c)) ∧ Hid (Is w0 w' D false ops crash keep fs) := by
  obtain ⟨role, s, a1, a2, a3, a4, a5, a6, a7, a8, a9, a10⟩ := h
  refine (callsIn_wide.1 (files_in a1 a3 10 (by omega))).mono ?_
  rintro r w' ⟨⟨a, c, rfl⟩, hb⟩
  refine ⟨⟨a, c, ?_⟩, Is.still ⟨role, s, a1, a2, a3, a4, a5, a6, a7, a8, a9, a10⟩ hb⟩
  rw [← a10, List.length_map]

end Go.Proofs.Ytcceaokldphfgaa
