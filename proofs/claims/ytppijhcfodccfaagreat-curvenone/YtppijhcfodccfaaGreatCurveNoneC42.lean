/-
  The chapter's first example, by numbers.
-/
import Derived.Test.YtppijhcfodccfaaGreatCurveNoneC41
import Derived.Test.YtppijhcfodccfaaGreatCurveNoneC29
import Derived.Test.YtppijhcfodccfaaGreatCurveNoneC04
import Derived.Test.YtppijhcfodccfaaGreatCurveNoneC23
import Derived.Test.YtppijhcfodccfaaGreatCurveNoneC40
import Derived.Test.YtppijhcfodccfaaGreatCurveNoneC28
import Derived.Test.YtppijhcfodccfaaGreatCurveNoneC01
import Derived.Test.YtppijhcfodccfaaGreatCurveNoneC33
import Derived.Test.YtppijhcfodccfaaGreatCurveNoneC35
namespace Go.Proofs.YtppijhcfodccfaaGreat.Q6
open Go.RowKit Go.Shelf

theorem build_te {A B C D : Array Value} (hA : A.size = 12) (hB : B.size = 12) (hC : C.size = 2 * 12 + 1) (hD : D.size = 4) (w : World) :
    (Instr.build 155 #[(0, .agg A), (1, .agg B), (2, .agg C), (3, .agg D)]).run Tryz.prog w = .ok (.agg (A ++ (B ++ (C ++ D)))) w := by
  refine build_struct (fs := fsOf (Tryz.prog.underlying 155)) (z := #[] ++ (zn ++ (zn ++ ((zn ++ zn ++ #[.bool false]) ++ Array.replicate 4 (.int .u64 0))))) (places := #[(0, 12), (12, 12), (2 * 12, 2 * 12 + 1), (4 * 12 + 1, 4)]) (by kernel_rfl) (by kernel_rfl) (by kernel_rfl) ?_
  have sd : (zn ++ zn ++ #[Value.bool false]).size = 2 * 12 + 1 := rfl
  rw [fill_cons (X := A) rfl (off := 0) (size := 12) rfl hA rfl zn_size, Array.empty_append]
  rw [fill_cons (X := B) rfl (off := 12) (size := 12) rfl hB hA zn_size]
  rw [← Array.append_assoc (xs := A), fill_cons (X := C) rfl (off := 2 * 12) (size := 2 * 12 + 1) rfl hC (by rw [Array.size_append, hA, hB]) sd]
  have e : A ++ B ++ (C ++ Array.replicate 4 (Value.int .u64 0)) = (A ++ B ++ C) ++ (Array.replicate 4 (.int .u64 0) ++ #[]) := by rw [Array.append_empty, ← Array.append_assoc]
  rw [e, fill_cons (X := D) rfl (off := 4 * 12 + 1) (size := 4) rfl hD (by rw [Array.size_append, Array.size_append, hA, hB, hC]) (by simp), Array.append_empty]
  simp only [Array.append_assoc]
  rfl

theorem bd_te (o b x y : K) (k : Nat) (w : World) : (Instr.build 155 #[(0, .agg (nv o)), (1, .agg (nv b)), (2, .agg (pt x y false)), (3, .agg (W4.cs (limb k)))]).run Tryz.prog w = .ok (.agg (te o b x y k)) w := by
  rw [te_eq]
  exact build_te (nv_size _) (nv_size _) (pt_size _ _ _) (W4.cs_size _) w

set_option maxRecDepth 100000
theorem tb0 (w : World) : (Instr.build 28 #[(0, .int .u64 1)]).run Tryz.prog w = .ok (.agg (P6.nv 1)) w := by
  rw [P6.nv_eq]
  kernel_rfl

theorem tb1 (w : World) : (Instr.build 56 #[(0, .agg (P6.nv 1))]).run Tryz.prog w = .ok (.agg (nv (1, 0))) w := by
  rw [nv_eq, P6.nv_eq, P6.nv_eq]
  kernel_rfl

theorem tb2 (w : World) : (Instr.build 28 #[(0, .int .u64 4)]).run Tryz.prog w = .ok (.agg (P6.nv 4)) w := by
  rw [P6.nv_eq]
  kernel_rfl

theorem tb3 (w : World) : (Instr.build 28 #[(0, .int .u64 4)]).run Tryz.prog w = .ok (.agg (P6.nv 4)) w := by
  rw [P6.nv_eq]
  kernel_rfl

theorem tb5 (w : World) : (Instr.build 28 #[(0, .int .u64 15312334153293348280), (1, .int .u64 841050694974028783), (2, .int .u64 12993178926126977399), (3, .int .u64 14331714969349929730), (4, .int .u64 2740446039084699729), (5, .int .u64 165123225776229009)]).run Tryz.prog w = .ok (.agg (P6.nv 352701069587466618187139116011060144890029952792775240219908644239793785735715026873347600343865175952761926303160)) w := by
  rw [P6.nv_eq]
  kernel_rfl

theorem tb6 (w : World) : (Instr.build 28 #[(0, .int .u64 16549740192668593022), (1, .int .u64 3696594454104530263), (2, .int .u64 13103893525273989193), (3, .int .u64 6443473286224459290), (4, .int .u64 9055845637167730533), (5, .int .u64 1432192374203850592)]).run Tryz.prog w = .ok (.agg (P6.nv 3059144344244213709971259814753781636986470325476647558659373206291635324768958432433509563104347017837885763365758)) w := by
  rw [P6.nv_eq]
  kernel_rfl

theorem tb8 (w : World) : (Instr.build 28 #[(0, .int .u64 16254428414758889473), (1, .int .u64 10536956157198377609), (2, .int .u64 7873024875724591404), (3, .int .u64 12537348094477325223), (4, .int .u64 10144865889576432922), (5, .int .u64 929383263523139089)]).run Tryz.prog w = .ok (.agg (P6.nv 1985150602287291935568054521177171638300868978215655730859378665066344726373823718423869104263333984641494340347905)) w := by
  rw [P6.nv_eq]
  kernel_rfl

theorem tb9 (w : World) : (Instr.build 28 #[(0, .int .u64 12297368366147926462), (1, .int .u64 4555124010822409633), (2, .int .u64 2771000935339432363), (3, .int .u64 14645187562128761775), (4, .int .u64 3651525051980876697), (5, .int .u64 434250606344352972)]).run Tryz.prog w = .ok (.agg (P6.nv 927553665492332455747201965776037880757740193453592970025027978793976877002675564980949289727957565575433344219582)) w := by
  rw [P6.nv_eq]
  kernel_rfl

set_option maxHeartbeats 4000000 in
set_option maxRecDepth 100000 in
theorem terms_raw (w : World) : Calls Tryz.prog 82 #[] w fun e w' => e = .returned (.agg (te (1, 0) (4, 4) (352701069587466618187139116011060144890029952792775240219908644239793785735715026873347600343865175952761926303160, 3059144344244213709971259814753781636986470325476647558659373206291635324768958432433509563104347017837885763365758) (1985150602287291935568054521177171638300868978215655730859378665066344726373823718423869104263333984641494340347905, 927553665492332455747201965776037880757740193453592970025027978793976877002675564980949289727957565575433344219582) nBlsR)) ∧ Below w.heap.size w w' := by
  go_enter Tryz.func82, Tryz.ntmps82
  refine wp_seqH (fun K0 HK0 => ?_)
  go_wp2_with fail
  refine HK0.out _ _ ?_
  clear HK0 K0
  refine at_world (fun W0 hW0 => ?_)
  have hbr : ∃ C : Array Value, W0.heap[w.heap.size]? = some (.cells C 155 (0, 0)) ∧ C.size = 4 * 12 + 5 := by
    rw [hW0]
    exact ⟨_, heap_new _ _, rfl⟩
  have hbw : Below w.heap.size w W0 := by
    rw [hW0]
    exact (Below.refl _ _).alloc (Nat.le_refl _) _
  clear hW0
  obtain ⟨C, hC, hs⟩ := hbr
  have HC := hideP hC
  have HBW := hideP hbw
  have hlt := lt_of_block hC
  clear hC hbw
  generalize w.heap.size = N at *
  refine wp_seqH (fun K1 HK1 => ?_)
  refine wp_region_list ?_
  refine wpList_oper rfl (fun K hK => ?_)
  refine wp_buildD 28 _ #[(0, .int .u64 1)] 1 rfl rfl (by simp only [List.map_toArray, List.map_cons, List.map_nil]; rfl) (v := .agg (P6.nv 1)) (tb0 _) ?_
  refine hK _ _ ?_
  clear hK K
  simp only [List.set_cons_succ, List.set_cons_zero]
  refine wpList_oper rfl (fun K hK => ?_)
  refine wp_buildD 56 _ #[(0, .agg (P6.nv 1))] 2 rfl rfl (by simp only [List.map_toArray, List.map_cons, List.map_nil]; rfl) (v := .agg (nv (1, 0))) (tb1 _) ?_
  refine hK _ _ ?_
  clear hK K
  simp only [List.set_cons_succ, List.set_cons_zero]
  refine wpList_oper rfl (fun K hK => ?_)
  refine wp_buildD 28 _ #[(0, .int .u64 4)] 3 rfl rfl (by simp only [List.map_toArray, List.map_cons, List.map_nil]; rfl) (v := .agg (P6.nv 4)) (tb2 _) ?_
  refine hK _ _ ?_
  clear hK K
  simp only [List.set_cons_succ, List.set_cons_zero]
  refine wpList_oper rfl (fun K hK => ?_)
  refine wp_buildD 28 _ #[(0, .int .u64 4)] 4 rfl rfl (by simp only [List.map_toArray, List.map_cons, List.map_nil]; rfl) (v := .agg (P6.nv 4)) (tb3 _) ?_
  refine hK _ _ ?_
  clear hK K
  simp only [List.set_cons_succ, List.set_cons_zero]
  refine wpList_oper rfl (fun K hK => ?_)
  refine wp_buildD 56 _ #[(0, .agg (P6.nv 4)), (1, .agg (P6.nv 4))] 5 rfl rfl (by simp only [List.map_toArray, List.map_cons, List.map_nil]; rfl) (v := .agg (nv (4, 4))) (bd_n _ _ _) ?_
  refine hK _ _ ?_
  clear hK K
  simp only [List.set_cons_succ, List.set_cons_zero]
  refine wpList_oper rfl (fun K hK => ?_)
  refine wp_buildD 28 _ #[(0, .int .u64 15312334153293348280), (1, .int .u64 841050694974028783), (2, .int .u64 12993178926126977399), (3, .int .u64 14331714969349929730), (4, .int .u64 2740446039084699729), (5, .int .u64 165123225776229009)] 6 rfl rfl (by simp only [List.map_toArray, List.map_cons, List.map_nil]; rfl) (v := .agg (P6.nv 352701069587466618187139116011060144890029952792775240219908644239793785735715026873347600343865175952761926303160)) (tb5 _) ?_
  refine hK _ _ ?_
  clear hK K
  simp only [List.set_cons_succ, List.set_cons_zero]
  refine wpList_oper rfl (fun K hK => ?_)
  refine wp_buildD 28 _ #[(0, .int .u64 16549740192668593022), (1, .int .u64 3696594454104530263), (2, .int .u64 13103893525273989193), (3, .int .u64 6443473286224459290), (4, .int .u64 9055845637167730533), (5, .int .u64 1432192374203850592)] 7 rfl rfl (by simp only [List.map_toArray, List.map_cons, List.map_nil]; rfl) (v := .agg (P6.nv 3059144344244213709971259814753781636986470325476647558659373206291635324768958432433509563104347017837885763365758)) (tb6 _) ?_
  refine hK _ _ ?_
  clear hK K
  simp only [List.set_cons_succ, List.set_cons_zero]
  refine wpList_oper rfl (fun K hK => ?_)
  refine wp_buildD 56 _ #[(0, .agg (P6.nv 352701069587466618187139116011060144890029952792775240219908644239793785735715026873347600343865175952761926303160)), (1, .agg (P6.nv 3059144344244213709971259814753781636986470325476647558659373206291635324768958432433509563104347017837885763365758))] 8 rfl rfl (by simp only [List.map_toArray, List.map_cons, List.map_nil]; rfl) (v := .agg (nv (352701069587466618187139116011060144890029952792775240219908644239793785735715026873347600343865175952761926303160, 3059144344244213709971259814753781636986470325476647558659373206291635324768958432433509563104347017837885763365758))) (bd_n _ _ _) ?_
  refine hK _ _ ?_
  clear hK K
  simp only [List.set_cons_succ, List.set_cons_zero]
  refine wpList_oper rfl (fun K hK => ?_)
  refine wp_buildD 28 _ #[(0, .int .u64 16254428414758889473), (1, .int .u64 10536956157198377609), (2, .int .u64 7873024875724591404), (3, .int .u64 12537348094477325223), (4, .int .u64 10144865889576432922), (5, .int .u64 929383263523139089)] 9 rfl rfl (by simp only [List.map_toArray, List.map_cons, List.map_nil]; rfl) (v := .agg (P6.nv 1985150602287291935568054521177171638300868978215655730859378665066344726373823718423869104263333984641494340347905)) (tb8 _) ?_
  refine hK _ _ ?_
  clear hK K
  simp only [List.set_cons_succ, List.set_cons_zero]
  refine wpList_oper rfl (fun K hK => ?_)
  refine wp_buildD 28 _ #[(0, .int .u64 12297368366147926462), (1, .int .u64 4555124010822409633), (2, .int .u64 2771000935339432363), (3, .int .u64 14645187562128761775), (4, .int .u64 3651525051980876697), (5, .int .u64 434250606344352972)] 10 rfl rfl (by simp only [List.map_toArray, List.map_cons, List.map_nil]; rfl) (v := .agg (P6.nv 927553665492332455747201965776037880757740193453592970025027978793976877002675564980949289727957565575433344219582)) (tb9 _) ?_
  refine hK _ _ ?_
  clear hK K
  simp only [List.set_cons_succ, List.set_cons_zero]
  refine wpList_oper rfl (fun K hK => ?_)
  refine wp_buildD 56 _ #[(0, .agg (P6.nv 1985150602287291935568054521177171638300868978215655730859378665066344726373823718423869104263333984641494340347905)), (1, .agg (P6.nv 927553665492332455747201965776037880757740193453592970025027978793976877002675564980949289727957565575433344219582))] 11 rfl rfl (by simp only [List.map_toArray, List.map_cons, List.map_nil]; rfl) (v := .agg (nv (1985150602287291935568054521177171638300868978215655730859378665066344726373823718423869104263333984641494340347905, 927553665492332455747201965776037880757740193453592970025027978793976877002675564980949289727957565575433344219582))) (bd_n _ _ _) ?_
  refine hK _ _ ?_
  clear hK K
  simp only [List.set_cons_succ, List.set_cons_zero]
  refine wpList_oper rfl (fun K hK => ?_)
  refine wp_buildD 153 _ #[(0, .agg (nv (352701069587466618187139116011060144890029952792775240219908644239793785735715026873347600343865175952761926303160, 3059144344244213709971259814753781636986470325476647558659373206291635324768958432433509563104347017837885763365758))), (1, .agg (nv (1985150602287291935568054521177171638300868978215655730859378665066344726373823718423869104263333984641494340347905, 927553665492332455747201965776037880757740193453592970025027978793976877002675564980949289727957565575433344219582)))] 12 rfl rfl (by simp only [List.map_toArray, List.map_cons, List.map_nil]; rfl) (v := .agg (pt (352701069587466618187139116011060144890029952792775240219908644239793785735715026873347600343865175952761926303160, 3059144344244213709971259814753781636986470325476647558659373206291635324768958432433509563104347017837885763365758) (1985150602287291935568054521177171638300868978215655730859378665066344726373823718423869104263333984641494340347905, 927553665492332455747201965776037880757740193453592970025027978793976877002675564980949289727957565575433344219582) false)) (bd_pt _ _ _) ?_
  refine hK _ _ ?_
  clear hK K
  simp only [List.set_cons_succ, List.set_cons_zero]
  refine wpList_oper rfl (fun K hK => ?_)
  refine wp_callD (av := #[]) _ _ 13 rfl rfl (by simp only [List.map_toArray, List.map_nil]) (enters_of Tryz.func161 (by kernel_rfl) rfl) (fBlsR_any _) ?_
  intro x1 hbc
  refine hK _ _ ?_
  clear hK K
  simp only [List.set_cons_succ, List.set_cons_zero]
  refine wpList_oper rfl (fun K hK => ?_)
  refine wp_buildD 155 _ #[(0, .agg (nv (1, 0))), (1, .agg (nv (4, 4))), (2, .agg (pt (352701069587466618187139116011060144890029952792775240219908644239793785735715026873347600343865175952761926303160, 3059144344244213709971259814753781636986470325476647558659373206291635324768958432433509563104347017837885763365758) (1985150602287291935568054521177171638300868978215655730859378665066344726373823718423869104263333984641494340347905, 927553665492332455747201965776037880757740193453592970025027978793976877002675564980949289727957565575433344219582) false)), (3, .agg (W4.cs (limb nBlsR)))] 14 rfl rfl (by simp only [List.map_toArray, List.map_cons, List.map_nil]; rfl) (v := .agg (te (1, 0) (4, 4) (352701069587466618187139116011060144890029952792775240219908644239793785735715026873347600343865175952761926303160, 3059144344244213709971259814753781636986470325476647558659373206291635324768958432433509563104347017837885763365758) (1985150602287291935568054521177171638300868978215655730859378665066344726373823718423869104263333984641494340347905, 927553665492332455747201965776037880757740193453592970025027978793976877002675564980949289727957565575433344219582) nBlsR)) (bd_te _ _ _ _ _ _) ?_
  refine hK _ _ ?_
  clear hK K
  simp only [List.set_cons_succ, List.set_cons_zero]
  have hQ := (KQ.start HC.out hs).call hbc
  refine wpList_store_midD rfl 155 (.tmp 0) (.tmp 14) rfl rfl N 0 (te (1, 0) (4, 4) (352701069587466618187139116011060144890029952792775240219908644239793785735715026873347600343865175952761926303160, 3059144344244213709971259814753781636986470325476647558659373206291635324768958432433509563104347017837885763365758) (1985150602287291935568054521177171638300868978215655730859378665066344726373823718423869104263333984641494340347905, 927553665492332455747201965776037880757740193453592970025027978793976877002675564980949289727957565575433344219582) nBlsR) rfl rfl (hQ.there (te_size _ _ _ _ _)) (infoTe (te_size _ _ _ _ _)) (te_one _ _ _ _ _) ?_
  have g1 := hQ.put (C := te (1, 0) (4, 4) (352701069587466618187139116011060144890029952792775240219908644239793785735715026873347600343865175952761926303160, 3059144344244213709971259814753781636986470325476647558659373206291635324768958432433509563104347017837885763365758) (1985150602287291935568054521177171638300868978215655730859378665066344726373823718423869104263333984641494340347905, 927553665492332455747201965776037880757740193453592970025027978793976877002675564980949289727957565575433344219582) nBlsR) (te_size _ _ _ _ _)
  have hS := hQ.store (C := te (1, 0) (4, 4) (352701069587466618187139116011060144890029952792775240219908644239793785735715026873347600343865175952761926303160, 3059144344244213709971259814753781636986470325476647558659373206291635324768958432433509563104347017837885763365758) (1985150602287291935568054521177171638300868978215655730859378665066344726373823718423869104263333984641494340347905, 927553665492332455747201965776037880757740193453592970025027978793976877002675564980949289727957565575433344219582) nBlsR) (te_size _ _ _ _ _)
  generalize World.setCells _ N 0 (te (1, 0) (4, 4) (352701069587466618187139116011060144890029952792775240219908644239793785735715026873347600343865175952761926303160, 3059144344244213709971259814753781636986470325476647558659373206291635324768958432433509563104347017837885763365758) (1985150602287291935568054521177171638300868978215655730859378665066344726373823718423869104263333984641494340347905, 927553665492332455747201965776037880757740193453592970025027978793976877002675564980949289727957565575433344219582) nBlsR).toList = x9 at g1 hS ⊢
  refine wpList_nil ?_
  refine HK1.out _ _ ?_
  refine wp_ret ?_
  exact bodyPost_ret_by (results_cell rfl rfl (loadC _ N 0 155 (te (1, 0) (4, 4) (352701069587466618187139116011060144890029952792775240219908644239793785735715026873347600343865175952761926303160, 3059144344244213709971259814753781636986470325476647558659373206291635324768958432433509563104347017837885763365758) (1985150602287291935568054521177171638300868978215655730859378665066344726373823718423869104263333984641494340347905, 927553665492332455747201965776037880757740193453592970025027978793976877002675564980949289727957565575433344219582) nBlsR) _ (rangeOf g1) underTe rfl (infoTe (te_size _ _ _ _ _)))) rfl ⟨rfl, HBW.out.trans hS.below⟩

/-- The curve's number, and its base. -/
def cB : K := (4, 4)

def cX : K := (352701069587466618187139116011060144890029952792775240219908644239793785735715026873347600343865175952761926303160, 3059144344244213709971259814753781636986470325476647558659373206291635324768958432433509563104347017837885763365758)

def cY : K := (1985150602287291935568054521177171638300868978215655730859378665066344726373823718423869104263333984641494340347905, 927553665492332455747201965776037880757740193453592970025027978793976877002675564980949289727957565575433344219582)

theorem terms_any (w : World) : Calls Tryz.prog 82 #[] w fun e w' => e = .returned (.agg (te k1 cB cX cY nBlsR)) ∧ Below w.heap.size w w' := terms_raw w

end Go.Proofs.YtppijhcfodccfaaGreat.Q6

namespace Go.Proofs.YtppijhcfodccfaaGreat.C6
open Go.RowKit Go.Shelf

/-- A curve that was made: the ring and both groups. -/
structure Made (w : World) (c : Nat) : Prop where
  ex : ∃ r g1 g2, w.cell? ⟨c, 0, none⟩ = some (.pointer (some ⟨r, 0, none⟩)) ∧ P6.CAt w c g1 r nBlsP P6.cB P6.cX P6.cY nBlsR ∧ Q6.CAt w c g2 r nBlsP Q6.cB Q6.cX Q6.cY nBlsR

theorem Made.below {w w' : World} {c : Nat} (h : Made w c) (hb : Below w.heap.size w w') : Made w' c := by
  obtain ⟨r, g1, g2, h0, h1, h2⟩ := h.ex
  exact ⟨r, g1, g2, (hb.cell (p := ⟨c, 0, none⟩) h1.clt).trans h0, h1.below hb, h2.below hb⟩

theorem Made.lt {w : World} {c : Nat} (h : Made w c) : c < w.heap.size := by
  obtain ⟨r, g1, g2, h0, h1, h2⟩ := h.ex
  exact h1.clt

set_option maxRecDepth 100000 in
theorem build_sq (r : Nat) (w : World) : (Instr.build 151 #[(0, .pointer (some ⟨r, 0, none⟩))]).run Tryz.prog w = .ok (.agg #[.pointer (some ⟨r, 0, none⟩)]) w := by kernel_rfl

set_option maxRecDepth 100000 in
theorem build_c (r g1 g2 : Nat) (w : World) : (Instr.build 158 #[(0, .pointer (some ⟨r, 0, none⟩)), (1, .pointer (some ⟨g1, 0, none⟩)), (2, .pointer (some ⟨g2, 0, none⟩))]).run Tryz.prog w = .ok (.agg #[.pointer (some ⟨r, 0, none⟩), .pointer (some ⟨g1, 0, none⟩), .pointer (some ⟨g2, 0, none⟩)]) w := by kernel_rfl

set_option maxHeartbeats 4000000 in
set_option maxRecDepth 100000 in
theorem make_any (w : World) : Calls Tryz.prog 14 #[] w fun e w' => (∃ c, e = .returned (.pointer (some ⟨c, 0, none⟩)) ∧ w.heap.size ≤ c ∧ Made w' c) ∧ Below w.heap.size w w' := by
  go_enter Tryz.func14, Tryz.ntmps14
  refine wp_seqH (fun K0 HK0 => ?_)
  go_wp2_with fail
  refine HK0.out _ _ ?_
  clear HK0 K0
  refine wp_seqH (fun K1 HK1 => ?_)
  refine wp_region_list ?_
  refine wpList_oper rfl (fun K hK => ?_)
  refine wp_callD (av := #[]) _ _ 4 rfl rfl (by simp only [List.map_toArray, List.map_nil]) (enters_of Tryz.func78 (by kernel_rfl) rfl) (fBlsP_any _) ?_
  intro x1 hb1
  refine hK _ _ ?_
  clear hK K
  simp only [List.set_cons_succ, List.set_cons_zero]
  refine wpList_oper rfl (fun K hK => ?_)
  refine wp_callG (av := #[.agg (W6.cs (limb nBlsP))]) _ _ 5 rfl rfl (by simp only [List.map_toArray, List.map_cons, List.map_nil]; rfl) (enters_of Tryz.func77 (by kernel_rfl) rfl) (W6.make_ok nBlsP (by decide +kernel) (by decide +kernel) (by decide +kernel) x1) ?_
  rintro e x2 ⟨r, rfl, hr1, hgood, hb2⟩
  refine ⟨_, rfl, hK _ _ ?_⟩
  clear hK K
  simp only [List.set_cons_succ, List.set_cons_zero]
  have hB2 : Below w.heap.size w x2 := hb1.trans (hb2.mono hb1.size)
  have hFA : P6.FAt x2 r nBlsP := by
    obtain ⟨f, h1, h2⟩ := hgood.ex
    exact ⟨hgood, h2.lt⟩
  have hr0 : w.heap.size ≤ r := Nat.le_trans hb1.size hr1
  have HF := hideP hFA
  have HB2 := hideP hB2
  clear hgood hFA hB2 hb1 hb2 hr1
  iterate 5
    refine wpList_oper rfl (fun K hK => ?_)
    go_simp
    refine hK _ _ ?_
    clear hK K
  refine wpList_nil ?_
  refine HK1.out _ _ ?_
  clear HK1 K1
  refine wp_seqH (fun K1 HK1 => ?_)
  refine wp_region_list ?_
  iterate 3
    refine wpList_oper rfl (fun K hK => ?_)
    go_simp
    refine hK _ _ ?_
    clear hK K
  refine wpList_oper rfl (fun K hK => ?_)
  refine wp_callD (av := #[]) _ _ 11 rfl rfl (by simp only [List.map_toArray, List.map_nil]) (enters_of Tryz.func80 (by kernel_rfl) rfl) (P6.terms_any _) ?_
  intro x3 hb3
  refine hK _ _ ?_
  clear hK K
  simp only [List.set_cons_succ, List.set_cons_zero]
  refine wpList_oper rfl (fun K hK => ?_)
  refine wp_callG (av := #[P6.ifv r, .agg (P6.te P6.k1 P6.cB P6.cX P6.cY nBlsR)]) _ _ 12 rfl rfl (by simp only [List.map_toArray, List.map_cons, List.map_nil]; rfl) (enters_of Tryz.func79 (by kernel_rfl) rfl) (P6.newGroup_any (HF.out.below hb3) _ _ _ _ (by unfold P6.Fits; decide +kernel) (by unfold P6.Fits; decide +kernel)) ?_
  rintro e x4 ⟨⟨g1, rfl, hg1, ga1, gb1⟩, hb4⟩
  refine ⟨_, rfl, hK _ _ ?_⟩
  clear hK K
  simp only [List.set_cons_succ, List.set_cons_zero]
  have h24 : Below x2.heap.size x2 x4 := hb3.trans (hb4.mono hb3.size)
  have hF4 := HF.out.below h24
  have HG1 := hideP (And.intro ga1 gb1)
  clear ga1 gb1 hb3 hb4 hg1
  refine wpList_oper rfl (fun K hK => ?_)
  go_simp
  refine hK _ _ ?_
  clear hK K
  refine wpList_oper rfl (fun K hK => ?_)
  refine P6.wp_buildD 151 _ #[(0, .pointer (some ⟨r, 0, none⟩))] 14 rfl rfl (by simp only [List.map_toArray, List.map_cons, List.map_nil]; rfl) (v := .agg #[.pointer (some ⟨r, 0, none⟩)]) (build_sq r _) ?_
  refine hK _ _ ?_
  clear hK K
  simp only [List.set_cons_succ, List.set_cons_zero]
  refine wpList_oper rfl (fun K hK => ?_)
  go_simp
  refine hK _ _ ?_
  clear hK K
  refine wpList_oper rfl (fun K hK => ?_)
  refine wp_callD (av := #[]) _ _ 16 rfl rfl (by simp only [List.map_toArray, List.map_nil]) (enters_of Tryz.func82 (by kernel_rfl) rfl) (Q6.terms_any _) ?_
  intro x5 hb5
  refine hK _ _ ?_
  clear hK K
  simp only [List.set_cons_succ, List.set_cons_zero]
  have hF5 := hF4.below hb5
  refine wpList_oper rfl (fun K hK => ?_)
  refine wp_callG (av := #[Q6.ifv r, .agg (Q6.te Q6.k1 Q6.cB Q6.cX Q6.cY nBlsR)]) _ _ 17 rfl rfl (by simp only [List.map_toArray, List.map_cons, List.map_nil]; rfl) (enters_of Tryz.func81 (by kernel_rfl) rfl) (Q6.newGroup_any ⟨hF5.ok, hF5.plt⟩ _ _ _ _ (by unfold Q6.Fits P6.Fits; decide +kernel) (by unfold Q6.Fits P6.Fits; decide +kernel)) ?_
  rintro e x6 ⟨⟨g2, rfl, hg2, ga2, gb2⟩, hb6⟩
  refine ⟨_, rfl, hK _ _ ?_⟩
  clear hK K
  simp only [List.set_cons_succ, List.set_cons_zero]
  have h46 : Below x4.heap.size x4 x6 := hb5.trans (hb6.mono hb5.size)
  have HG2 := hideP (And.intro ga2 gb2)
  clear ga2 gb2 hb5 hb6 hg2 hF5 hF4
  refine wpList_oper rfl (fun K hK => ?_)
  refine P6.wp_buildD 158 _ #[(0, .pointer (some ⟨r, 0, none⟩)), (1, .pointer (some ⟨g1, 0, none⟩)), (2, .pointer (some ⟨g2, 0, none⟩))] 18 rfl rfl (by simp only [List.map_toArray, List.map_cons, List.map_nil]; rfl) (build_c r g1 g2 _) ?_
  refine hK _ _ ?_
  clear hK K
  simp only [List.set_cons_succ, List.set_cons_zero]
  refine wpList_oper rfl (fun K hK => ?_)
  go_simp
  refine hK _ _ ?_
  clear hK K
  refine at_worldL (fun x7 hx7 => ?_)
  have h7 := heap_new x6 (.cells #[.pointer (some ⟨r, 0, none⟩), .pointer (some ⟨g1, 0, none⟩), .pointer (some ⟨g2, 0, none⟩)] 158 (0, 0))
  have h67 := (Below.refl x6.heap.size x6).alloc (Nat.le_refl _) (.cells #[.pointer (some ⟨r, 0, none⟩), .pointer (some ⟨g1, 0, none⟩), .pointer (some ⟨g2, 0, none⟩)] 158 (0, 0))
  rw [← hx7] at h7 h67
  clear hx7
  have h47 : Below x4.heap.size x4 x7 := h46.trans (h67.mono h46.size)
  have h27 : Below x2.heap.size x2 x7 := h24.trans (h47.mono h24.size)
  have hlc := lt_of_block h7
  have HM : Hid (Made x7 x6.heap.size) := ⟨r, g1, g2, blk_cell h7 rfl, ⟨blk_cell h7 rfl, HG1.out.1.below h47, HG1.out.2.below h47, hlc⟩, ⟨blk_cell h7 rfl, HG2.out.1.below h67, HG2.out.2.below h67, hlc⟩⟩
  have HW : Hid (Below w.heap.size w x7) := HB2.out.trans (h27.mono HB2.out.size)
  have hsz : w.heap.size ≤ x6.heap.size := Nat.le_trans HB2.out.size (Nat.le_trans h24.size h46.size)
  clear h7 h67 h47 h27 h24 h46 HG1 HG2 hlc
  refine wpList_oper rfl (fun K hK => ?_)
  go_simp
  refine hK _ _ ?_
  clear hK K
  refine wpList_nil ?_
  refine HK1.out _ _ ?_
  refine wp_ret ?_
  exact bodyPost_ret_by (results_tmp rfl _ _ _) rfl ⟨⟨x6.heap.size, rfl, hsz, HM.out⟩, HW.out⟩

end Go.Proofs.YtppijhcfodccfaaGreat.C6

namespace Go.Proofs.YtppijhcfodccfaaGreat
open Go.RowKit Go.Shelf

/-- A prime. -/
def Pr (p : Nat) : Prop := 1 < p ∧ ∀ d, d ∣ p → d = 1 ∨ d = p

/-- A power, modulo n. -/
def pm (n : Nat) : Nat → Nat → Nat → Nat
  | 0, _, _ => 1 % n
  | k + 1, a, e => bif Nat.beq e 0 then 1 % n else bif Nat.beq (e % 2) 1 then a * pm n k (a * a % n) (e / 2) % n else pm n k (a * a % n) (e / 2)

theorem pm_eq (n : Nat) : ∀ (k a e : Nat), e < 2 ^ k → pm n k a e = a ^ e % n
  | 0, a, e, h => by
    obtain rfl : e = 0 := by simpa using h
    simp [pm]
  | k + 1, a, e, h => by
    have ih := pm_eq n k (a * a % n) (e / 2) (by rw [Nat.pow_succ] at h; omega)
    unfold pm
    by_cases h0 : e = 0
    · subst h0
      simp
    · have b0 : Nat.beq e 0 = false := by
        rw [Bool.eq_false_iff]
        intro hb
        exact h0 (Nat.eq_of_beq_eq_true hb)
      have hsq : (a * a % n) ^ (e / 2) % n = a ^ (2 * (e / 2)) % n := by
        rw [← Nat.pow_mod, Nat.pow_mul, Nat.pow_two]
      rw [b0, cond_false]
      by_cases h1 : e % 2 = 1
      · have b1 : Nat.beq (e % 2) 1 = true := by rw [h1]; rfl
        rw [b1, cond_true, ih, hsq, Nat.mul_mod_mod, Nat.mul_comm, ← Nat.pow_succ, show (2 * (e / 2)).succ = e by omega]
      · have b1 : Nat.beq (e % 2) 1 = false := by
          rw [show e % 2 = 0 by omega]
          rfl
        rw [b1, cond_false, ih, hsq, show 2 * (e / 2) = e by omega]

end Go.Proofs.YtppijhcfodccfaaGreat

namespace Go.Proofs.YtppijhcfodccfaaGreat
open Go.RowKit Go.Shelf

theorem wp_makeD {P : Program} {op : Oper} {l : List Value} {ds : List Deferred} {w w' : World} {K : Act → World → Prop} {Q : Exit → Act → World → Prop} (t : TypeId) (a b : Operand) (d : Nat) (ho : op.op = .makeSlice t a b) (hd : op.dst = some d) {av bv v : Value}
    (ha : Act.eval { tmps := l.toArray, defers := ds } a = av) (hb : Act.eval { tmps := l.toArray, defers := ds } b = bv) (hr : (Instr.makeSlice t av bv).run P w = .ok v w')
    (h : K { tmps := (l.set d v).toArray, defers := ds } w') : op.wp P { tmps := l.toArray, defers := ds } w K Q := by
  have hk : K (Act.put { tmps := l.toArray, defers := ds } op.dst v) w' := by rw [hd, put_list]; exact h
  unfold Oper.wp
  simp [execOp, ho, ha, hb, hr, Result.andThen]
  exact hk

theorem mulm {m a b a' b' : Nat} (h1 : a % m = a' % m) (h2 : b % m = b' % m) : a * b % m = a' * b' % m := by
  rw [Nat.mul_mod a b, h1, h2, ← Nat.mul_mod]

theorem outS_eval {m x y z : Nat} (Z : Nat) (hz : ¬ P4.Like m z P4.k0) (hm : m - 2 < 2 ^ 256) (hZ : pm m 256 z (m - 2) = Z) : P4.outS m (x, y, z) = (x * (Z * Z) % m, y * (Z * Z * Z) % m, false) := by
  have h1 : z ^ (m - 2) % m = Z % m := by rw [← hZ, pm_eq _ _ _ _ hm, Nat.mod_mod]
  unfold P4.outS
  rw [if_neg hz]
  have e1 : x * (z ^ (m - 2) * z ^ (m - 2)) % m = x * (Z * Z) % m := mulm rfl (mulm h1 h1)
  have e2 : y * (z ^ (m - 2) * z ^ (m - 2) * z ^ (m - 2)) % m = y * (Z * Z * Z) % m := mulm rfl (mulm (mulm h1 h1) h1)
  show (x * (z ^ (m - 2) * z ^ (m - 2)) % m, y * (z ^ (m - 2) * z ^ (m - 2) * z ^ (m - 2)) % m, false) = _
  rw [e1, e2]

def dx2 : Nat := 1368015179489954701390400359078579693043519447331113978918064868415326638035

def dy2 : Nat := 9918110051302171585080402603319702774565515993150576347155970296011118125764

theorem good_base : P4.goodN nBnP P4.cB P4.cX P4.cY false = 0 := by decide +kernel

theorem good_2 : P4.goodN nBnP P4.cB dx2 dy2 false = 0 := by decide +kernel

theorem times_2 : P4.timesS nBnP (P4.cX, P4.cY) 2 = (nBnP - 23, nBnP - 11, 4) := by decide +kernel

theorem mul_2 : P4.mulP nBnP P4.cB P4.cX P4.cY false 2 = (dx2, dy2, false) := by
  unfold P4.mulP
  rw [if_pos good_base]
  show P4.outS nBnP (if false = true then _ else P4.timesS nBnP (P4.cX, P4.cY) 2) = _
  rw [if_neg (by decide), times_2]
  rw [outS_eval (pm nBnP 256 4 (nBnP - 2)) (by decide +kernel) (by decide +kernel) rfl]
  decide +kernel

theorem one_bad : re1 (beh 63 (fun _ => 0) (fun _ => 1)) = 71 := by decide +kernel

theorem fits_base : P4.Fits P4.cX ∧ P4.Fits P4.cY ∧ P4.Fits dx2 ∧ P4.Fits dy2 := by unfold P4.Fits; decide +kernel

theorem wr_2 : wr1 dx2 dy2 false 1 = 6 ∧ wr1 dx2 dy2 false 2 = 68 ∧ wr1 dx2 dy2 false 63 = 196 := by decide +kernel

end Go.Proofs.YtppijhcfodccfaaGreat
