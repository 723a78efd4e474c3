/-
  Names of opcodes, by their table.
-/
import Derived.Test.YtaeadndihchbnaaDoorGasTilesC12
namespace Go.Proofs.YtaeadndihchbnaaDoor
open Go.RowKit Go.Shelf

def nmR0 : List ByteArray := [{ data := #[83, 84, 79, 80] }, { data := #[65, 68, 68] }, { data := #[77, 85, 76] }, { data := #[83, 85, 66] }, { data := #[68, 73, 86] }, { data := #[83, 68, 73, 86] }, { data := #[77, 79, 68] }, { data := #[83, 77, 79, 68] }, { data := #[65, 68, 68, 77, 79, 68] }, { data := #[77, 85, 76, 77, 79, 68] }, { data := #[69, 88, 80] }, { data := #[83, 73, 71, 78, 69, 88, 84, 69, 78, 68] }]

def nmR1 : List ByteArray := [{ data := #[76, 84] }, { data := #[71, 84] }, { data := #[83, 76, 84] }, { data := #[83, 71, 84] }, { data := #[69, 81] }, { data := #[73, 83, 90, 69, 82, 79] }, { data := #[65, 78, 68] }, { data := #[79, 82] }, { data := #[88, 79, 82] }, { data := #[78, 79, 84] }, { data := #[66, 89, 84, 69] }, { data := #[83, 72, 76] }, { data := #[83, 72, 82] }, { data := #[83, 65, 82] }]

def nmR2 : List ByteArray := [{ data := #[75, 69, 67, 67, 65, 75, 50, 53, 54] }]

def nmR3 : List ByteArray := [{ data := #[65, 68, 68, 82, 69, 83, 83] }, { data := #[66, 65, 76, 65, 78, 67, 69] }, { data := #[79, 82, 73, 71, 73, 78] }, { data := #[67, 65, 76, 76, 69, 82] }, { data := #[67, 65, 76, 76, 86, 65, 76, 85, 69] }, { data := #[67, 65, 76, 76, 68, 65, 84, 65, 76, 79, 65, 68] }, { data := #[67, 65, 76, 76, 68, 65, 84, 65, 83, 73, 90, 69] }, { data := #[67, 65, 76, 76, 68, 65, 84, 65, 67, 79, 80, 89] }, { data := #[67, 79, 68, 69, 83, 73, 90, 69] }, { data := #[67, 79, 68, 69, 67, 79, 80, 89] }, { data := #[71, 65, 83, 80, 82, 73, 67, 69] }, { data := #[69, 88, 84, 67, 79, 68, 69, 83, 73, 90, 69] }, { data := #[69, 88, 84, 67, 79, 68, 69, 67, 79, 80, 89] }, { data := #[82, 69, 84, 85, 82, 78, 68, 65, 84, 65, 83, 73, 90, 69] }, { data := #[82, 69, 84, 85, 82, 78, 68, 65, 84, 65, 67, 79, 80, 89] }, { data := #[69, 88, 84, 67, 79, 68, 69, 72, 65, 83, 72] }]

def nmR4 : List ByteArray := [{ data := #[66, 76, 79, 67, 75, 72, 65, 83, 72] }, { data := #[67, 79, 73, 78, 66, 65, 83, 69] }, { data := #[84, 73, 77, 69, 83, 84, 65, 77, 80] }, { data := #[78, 85, 77, 66, 69, 82] }, { data := #[80, 82, 69, 86, 82, 65, 78, 68, 65, 79] }, { data := #[71, 65, 83, 76, 73, 77, 73, 84] }, { data := #[67, 72, 65, 73, 78, 73, 68] }, { data := #[83, 69, 76, 70, 66, 65, 76, 65, 78, 67, 69] }, { data := #[66, 65, 83, 69, 70, 69, 69] }, { data := #[66, 76, 79, 66, 72, 65, 83, 72] }, { data := #[66, 76, 79, 66, 66, 65, 83, 69, 70, 69, 69] }]

def nmR5 : List ByteArray := [{ data := #[80, 79, 80] }, { data := #[77, 76, 79, 65, 68] }, { data := #[77, 83, 84, 79, 82, 69] }, { data := #[77, 83, 84, 79, 82, 69, 56] }, { data := #[83, 76, 79, 65, 68] }, { data := #[83, 83, 84, 79, 82, 69] }, { data := #[74, 85, 77, 80] }, { data := #[74, 85, 77, 80, 73] }, { data := #[80, 67] }, { data := #[77, 83, 73, 90, 69] }, { data := #[71, 65, 83] }, { data := #[74, 85, 77, 80, 68, 69, 83, 84] }, { data := #[84, 76, 79, 65, 68] }, { data := #[84, 83, 84, 79, 82, 69] }, { data := #[77, 67, 79, 80, 89] }, { data := #[80, 85, 83, 72, 48] }]

def nmR6 : List ByteArray := [{ data := #[80, 85, 83, 72] }]

def nmR8 : List ByteArray := [{ data := #[68, 85, 80] }]

def nmR9 : List ByteArray := [{ data := #[83, 87, 65, 80] }]

def nmR10 : List ByteArray := [{ data := #[76, 79, 71] }]

def nmR15 : List ByteArray := [{ data := #[67, 82, 69, 65, 84, 69] }, { data := #[67, 65, 76, 76] }, { data := #[67, 65, 76, 76, 67, 79, 68, 69] }, { data := #[82, 69, 84, 85, 82, 78] }, { data := #[68, 69, 76, 69, 71, 65, 84, 69, 67, 65, 76, 76] }, { data := #[67, 82, 69, 65, 84, 69, 50] }, { data := #[] }, { data := #[] }, { data := #[] }, { data := #[] }, { data := #[83, 84, 65, 84, 73, 67, 67, 65, 76, 76] }, { data := #[] }, { data := #[] }, { data := #[82, 69, 86, 69, 82, 84] }, { data := #[] }, { data := #[83, 69, 76, 70, 68, 69, 83, 84, 82, 85, 67, 84] }]

def nmR (r : Nat) : List ByteArray := match r with
  | 0 => nmR0
  | 1 => nmR1
  | 2 => nmR2
  | 3 => nmR3
  | 4 => nmR4
  | 5 => nmR5
  | 6 => nmR6
  | 8 => nmR8
  | 9 => nmR9
  | 10 => nmR10
  | 15 => nmR15
  | _ => []

def nameN (k : Nat) : ByteArray := (nmR (k / 16)).getD (k % 16) noS

set_option maxHeartbeats 4000000 in
set_option maxRecDepth 100000 in
theorem nameOf_any (k : Nat) (h : k < 256) (w : World) : Calls Tryd.prog 55 #[.int .u8 k] w fun e w' => e = .returned (.string (nameN k)) ∧ Below w.heap.size w w' := by
  by_cases h0 : k / 16 = 0
  · have hr := h0
    have HN : Hid (nameN k = (nmR0[k % 16]?).getD noS) := by show _ = _; unfold nameN; rw [hr]; rfl
    have e0 : IntKind.u8.wrap ((k : Int) / 16) = 0 := by rw [IntKind.wrap_u8]; omega
    have e1 : (k : Int) / 16 = 0 := by omega
    clear hr h h0
    go_enter Tryd.func55, Tryd.ntmps55
    go_wp2_with fail
    refine at_world_q (fun W0 hW0 => ?_)
    obtain ⟨HB, HBW⟩ := box1 hW0
    clear hW0
    refine (ofRow_any k W0 (nmRow_of (l := nmR0) HB)).mono ?_
    rintro e w' ⟨rfl, rfl⟩
    replace HBW := hideP HBW
    clear HB
    go_wp2_with fail
    go_ret
    exact ⟨by rw [HN.out]; rfl, HBW.out⟩
  by_cases h1 : k / 16 = 1
  · have hr := h1
    have HN : Hid (nameN k = (nmR1[k % 16]?).getD noS) := by show _ = _; unfold nameN; rw [hr]; rfl
    have e0 : IntKind.u8.wrap ((k : Int) / 16) = 1 := by rw [IntKind.wrap_u8]; omega
    have e1 : (k : Int) / 16 = 1 := by omega
    clear hr h h0 h1
    go_enter Tryd.func55, Tryd.ntmps55
    go_wp2_with fail
    refine at_world_q (fun W0 hW0 => ?_)
    obtain ⟨HB, HBW⟩ := box1 hW0
    clear hW0
    refine (ofRow_any k W0 (nmRow_of (l := nmR1) HB)).mono ?_
    rintro e w' ⟨rfl, rfl⟩
    replace HBW := hideP HBW
    clear HB
    go_wp2_with fail
    go_ret
    exact ⟨by rw [HN.out]; rfl, HBW.out⟩
  by_cases h2 : k / 16 = 2
  · have hr := h2
    have HN : Hid (nameN k = (nmR2[k % 16]?).getD noS) := by show _ = _; unfold nameN; rw [hr]; rfl
    have e0 : IntKind.u8.wrap ((k : Int) / 16) = 2 := by rw [IntKind.wrap_u8]; omega
    have e1 : (k : Int) / 16 = 2 := by omega
    clear hr h h0 h1 h2
    go_enter Tryd.func55, Tryd.ntmps55
    go_wp2_with fail
    refine at_world_q (fun W0 hW0 => ?_)
    obtain ⟨HB, HBW⟩ := box1 hW0
    clear hW0
    refine (ofRow_any k W0 (nmRow_of (l := nmR2) HB)).mono ?_
    rintro e w' ⟨rfl, rfl⟩
    replace HBW := hideP HBW
    clear HB
    go_wp2_with fail
    go_ret
    exact ⟨by rw [HN.out]; rfl, HBW.out⟩
  by_cases h3 : k / 16 = 3
  · have hr := h3
    have HN : Hid (nameN k = (nmR3[k % 16]?).getD noS) := by show _ = _; unfold nameN; rw [hr]; rfl
    have e0 : IntKind.u8.wrap ((k : Int) / 16) = 3 := by rw [IntKind.wrap_u8]; omega
    have e1 : (k : Int) / 16 = 3 := by omega
    clear hr h h0 h1 h2 h3
    go_enter Tryd.func55, Tryd.ntmps55
    go_wp2_with fail
    refine at_world_q (fun W0 hW0 => ?_)
    obtain ⟨HB, HBW⟩ := box1 hW0
    clear hW0
    refine (ofRow_any k W0 (nmRow_of (l := nmR3) HB)).mono ?_
    rintro e w' ⟨rfl, rfl⟩
    replace HBW := hideP HBW
    clear HB
    go_wp2_with fail
    go_ret
    exact ⟨by rw [HN.out]; rfl, HBW.out⟩
  by_cases h4 : k / 16 = 4
  · have hr := h4
    have HN : Hid (nameN k = (nmR4[k % 16]?).getD noS) := by show _ = _; unfold nameN; rw [hr]; rfl
    have e0 : IntKind.u8.wrap ((k : Int) / 16) = 4 := by rw [IntKind.wrap_u8]; omega
    have e1 : (k : Int) / 16 = 4 := by omega
    clear hr h h0 h1 h2 h3 h4
    go_enter Tryd.func55, Tryd.ntmps55
    go_wp2_with fail
    refine at_world_q (fun W0 hW0 => ?_)
    obtain ⟨HB, HBW⟩ := box1 hW0
    clear hW0
    refine (ofRow_any k W0 (nmRow_of (l := nmR4) HB)).mono ?_
    rintro e w' ⟨rfl, rfl⟩
    replace HBW := hideP HBW
    clear HB
    go_wp2_with fail
    go_ret
    exact ⟨by rw [HN.out]; rfl, HBW.out⟩
  by_cases h5 : k / 16 = 5
  · have hr := h5
    have HN : Hid (nameN k = (nmR5[k % 16]?).getD noS) := by show _ = _; unfold nameN; rw [hr]; rfl
    have e0 : IntKind.u8.wrap ((k : Int) / 16) = 5 := by rw [IntKind.wrap_u8]; omega
    have e1 : (k : Int) / 16 = 5 := by omega
    clear hr h h0 h1 h2 h3 h4 h5
    go_enter Tryd.func55, Tryd.ntmps55
    go_wp2_with fail
    refine at_world_q (fun W0 hW0 => ?_)
    obtain ⟨HB, HBW⟩ := box1 hW0
    clear hW0
    refine (ofRow_any k W0 (nmRow_of (l := nmR5) HB)).mono ?_
    rintro e w' ⟨rfl, rfl⟩
    replace HBW := hideP HBW
    clear HB
    go_wp2_with fail
    go_ret
    exact ⟨by rw [HN.out]; rfl, HBW.out⟩
  by_cases h6 : k / 16 = 6
  · have hr := h6
    have HN : Hid (nameN k = (nmR6[k % 16]?).getD noS) := by show _ = _; unfold nameN; rw [hr]; rfl
    have e0 : IntKind.u8.wrap ((k : Int) / 16) = 6 := by rw [IntKind.wrap_u8]; omega
    have e1 : (k : Int) / 16 = 6 := by omega
    clear hr h h0 h1 h2 h3 h4 h5 h6
    go_enter Tryd.func55, Tryd.ntmps55
    go_wp2_with fail
    refine at_world_q (fun W0 hW0 => ?_)
    obtain ⟨HB, HBW⟩ := box1 hW0
    clear hW0
    refine (ofRow_any k W0 (nmRow_of (l := nmR6) HB)).mono ?_
    rintro e w' ⟨rfl, rfl⟩
    replace HBW := hideP HBW
    clear HB
    go_wp2_with fail
    go_ret
    exact ⟨by rw [HN.out]; rfl, HBW.out⟩
  by_cases h8 : k / 16 = 8
  · have hr := h8
    have HN : Hid (nameN k = (nmR8[k % 16]?).getD noS) := by show _ = _; unfold nameN; rw [hr]; rfl
    have e0 : IntKind.u8.wrap ((k : Int) / 16) = 8 := by rw [IntKind.wrap_u8]; omega
    have e1 : (k : Int) / 16 = 8 := by omega
    clear hr h h0 h1 h2 h3 h4 h5 h6 h8
    go_enter Tryd.func55, Tryd.ntmps55
    go_wp2_with fail
    refine at_world_q (fun W0 hW0 => ?_)
    obtain ⟨HB, HBW⟩ := box1 hW0
    clear hW0
    refine (ofRow_any k W0 (nmRow_of (l := nmR8) HB)).mono ?_
    rintro e w' ⟨rfl, rfl⟩
    replace HBW := hideP HBW
    clear HB
    go_wp2_with fail
    go_ret
    exact ⟨by rw [HN.out]; rfl, HBW.out⟩
  by_cases h9 : k / 16 = 9
  · have hr := h9
    have HN : Hid (nameN k = (nmR9[k % 16]?).getD noS) := by show _ = _; unfold nameN; rw [hr]; rfl
    have e0 : IntKind.u8.wrap ((k : Int) / 16) = 9 := by rw [IntKind.wrap_u8]; omega
    have e1 : (k : Int) / 16 = 9 := by omega
    clear hr h h0 h1 h2 h3 h4 h5 h6 h8 h9
    go_enter Tryd.func55, Tryd.ntmps55
    go_wp2_with fail
    refine at_world_q (fun W0 hW0 => ?_)
    obtain ⟨HB, HBW⟩ := box1 hW0
    clear hW0
    refine (ofRow_any k W0 (nmRow_of (l := nmR9) HB)).mono ?_
    rintro e w' ⟨rfl, rfl⟩
    replace HBW := hideP HBW
    clear HB
    go_wp2_with fail
    go_ret
    exact ⟨by rw [HN.out]; rfl, HBW.out⟩
  by_cases h10 : k / 16 = 10
  · have hr := h10
    have HN : Hid (nameN k = (nmR10[k % 16]?).getD noS) := by show _ = _; unfold nameN; rw [hr]; rfl
    have e0 : IntKind.u8.wrap ((k : Int) / 16) = 10 := by rw [IntKind.wrap_u8]; omega
    have e1 : (k : Int) / 16 = 10 := by omega
    clear hr h h0 h1 h2 h3 h4 h5 h6 h8 h9 h10
    go_enter Tryd.func55, Tryd.ntmps55
    go_wp2_with fail
    refine at_world_q (fun W0 hW0 => ?_)
    obtain ⟨HB, HBW⟩ := box1 hW0
    clear hW0
    refine (ofRow_any k W0 (nmRow_of (l := nmR10) HB)).mono ?_
    rintro e w' ⟨rfl, rfl⟩
    replace HBW := hideP HBW
    clear HB
    go_wp2_with fail
    go_ret
    exact ⟨by rw [HN.out]; rfl, HBW.out⟩
  by_cases h15 : k / 16 = 15
  · have hr := h15
    have HN : Hid (nameN k = (nmR15[k % 16]?).getD noS) := by show _ = _; unfold nameN; rw [hr]; rfl
    have e0 : IntKind.u8.wrap ((k : Int) / 16) = 15 := by rw [IntKind.wrap_u8]; omega
    have e1 : (k : Int) / 16 = 15 := by omega
    clear hr h h0 h1 h2 h3 h4 h5 h6 h8 h9 h10 h15
    go_enter Tryd.func55, Tryd.ntmps55
    go_wp2_with fail
    refine at_world_q (fun W0 hW0 => ?_)
    obtain ⟨HB, HBW⟩ := box1 hW0
    clear hW0
    refine (ofRow_any k W0 (nmRow_of (l := nmR15) HB)).mono ?_
    rintro e w' ⟨rfl, rfl⟩
    replace HBW := hideP HBW
    clear HB
    go_wp2_with fail
    go_ret
    exact ⟨by rw [HN.out]; rfl, HBW.out⟩
  have HN : Hid (nameN k = noS) := by
    show _ = _
    unfold nameN
    rw [show nmR (k / 16) = [] from ?_]; · rfl
    unfold nmR; split <;> first | (exfalso; omega) | rfl
  have g0 : ¬ (k : Int) / 16 = 0 := by omega
  have g1 : ¬ (k : Int) / 16 = 1 := by omega
  have g2 : ¬ (k : Int) / 16 = 2 := by omega
  have g3 : ¬ (k : Int) / 16 = 3 := by omega
  have g4 : ¬ (k : Int) / 16 = 4 := by omega
  have g5 : ¬ (k : Int) / 16 = 5 := by omega
  have g6 : ¬ (k : Int) / 16 = 6 := by omega
  have g8 : ¬ (k : Int) / 16 = 8 := by omega
  have g9 : ¬ (k : Int) / 16 = 9 := by omega
  have g10 : ¬ (k : Int) / 16 = 10 := by omega
  have g15 : ¬ (k : Int) / 16 = 15 := by omega
  have e0 : IntKind.u8.wrap ((k : Int) / 16) = (k : Int) / 16 := by rw [IntKind.wrap_u8]; omega
  clear h h0 h1 h2 h3 h4 h5 h6 h8 h9 h10 h15
  go_enter Tryd.func55, Tryd.ntmps55
  go_wp2_with fail
  go_ret
  exact ⟨by rw [HN.out]; rfl, Below.refl _ _⟩

/-- A small number as text. -/
def itoaB (n : Nat) : ByteArray := if n < 10 then { data := #[UInt8.ofNat (48 + n)] } else { data := #[UInt8.ofNat (48 + n / 10), UInt8.ofNat (48 + n % 10)] }

end Go.Proofs.YtaeadndihchbnaaDoor
