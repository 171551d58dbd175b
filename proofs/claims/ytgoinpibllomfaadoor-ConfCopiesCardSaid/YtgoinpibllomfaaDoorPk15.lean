/- Part 15 of what the statement wants. -/
import Derived.Test.YtgoinpibllomfaaDoorPk14
namespace Go.Proofs.YtgoinpibllomfaaDoor
open Go.RowKit

theorem cfEnter1 (args : Array Value) (W : World) : (callFunc 58 args).run Tryd.prog W = .ok (.enter 58 args) W := callF Tryd.func58 (by kernel_rfl) (by kernel_rfl) args W
theorem cfEnter2 (args : Array Value) (W : World) : (callFunc 60 args).run Tryd.prog W = .ok (.enter 60 args) W := callF Tryd.func60 (by kernel_rfl) (by kernel_rfl) args W
theorem cfEnter3 (args : Array Value) (W : World) : (callFunc 62 args).run Tryd.prog W = .ok (.enter 62 args) W := callF Tryd.func62 (by kernel_rfl) (by kernel_rfl) args W
theorem cfEnter4 (args : Array Value) (W : World) : (callFunc 64 args).run Tryd.prog W = .ok (.enter 64 args) W := callF Tryd.func64 (by kernel_rfl) (by kernel_rfl) args W
theorem cfEnter5 (args : Array Value) (W : World) : (callFunc 65 args).run Tryd.prog W = .ok (.enter 65 args) W := callF Tryd.func65 (by kernel_rfl) (by kernel_rfl) args W
theorem cfEnter6 (args : Array Value) (W : World) : (callFunc 66 args).run Tryd.prog W = .ok (.enter 66 args) W := callF Tryd.func66 (by kernel_rfl) (by kernel_rfl) args W
theorem cfEnter7 (args : Array Value) (W : World) : (callFunc 68 args).run Tryd.prog W = .ok (.enter 68 args) W := callF Tryd.func68 (by kernel_rfl) (by kernel_rfl) args W
theorem cfEnter8 (args : Array Value) (W : World) : (callFunc 69 args).run Tryd.prog W = .ok (.enter 69 args) W := callF Tryd.func69 (by kernel_rfl) (by kernel_rfl) args W
theorem cfEnter9 (args : Array Value) (W : World) : (callFunc 70 args).run Tryd.prog W = .ok (.enter 70 args) W := callF Tryd.func70 (by kernel_rfl) (by kernel_rfl) args W
theorem cfEnter10 (args : Array Value) (W : World) : (callFunc 71 args).run Tryd.prog W = .ok (.enter 71 args) W := callF Tryd.func71 (by kernel_rfl) (by kernel_rfl) args W
def fsSrv : Nat → FuncId
  | 0 => 58
  | 1 => 60
  | 2 => 62
  | _ => 64
def fsCli : Nat → FuncId
  | 0 => 58
  | 1 => 60
  | 2 => 65
  | 3 => 66
  | 4 => 68
  | 5 => 69
  | 6 => 70
  | _ => 71
theorem partsS0 {c : CfV} {d : CfL} (h : c.sv = true) : partsO c d 0 = unlessP (lnOk d.so d.co) versionS 1 := by unfold partsO; simp [h]
theorem partsS1 {c : CfV} {d : CfL} (h : c.sv = true) : partsO c d 1 = prefsO d.p := by unfold partsO; simp [h]
theorem partsS2 {c : CfV} {d : CfL} (h : c.sv = true) : partsO c d 2 = unlessP (whoB c.ow) ownS25 5 := by unfold partsO; simp [h]
theorem partsS3 {c : CfV} {d : CfL} (h : c.sv = true) : partsO c d 3 = gateO d.gr d.al c.li := by unfold partsO; simp [h]
theorem partsC0 {c : CfV} {d : CfL} (h : c.sv = false) : partsO c d 0 = unlessP (lnOk d.so d.co) versionS 1 := by unfold partsO; simp [h]
theorem partsC1 {c : CfV} {d : CfL} (h : c.sv = false) : partsO c d 1 = prefsO d.p := by unfold partsO; simp [h]
theorem partsC2 {c : CfV} {d : CfL} (h : c.sv = false) : partsO c d 2 = unlessP (whoB c.pe) peerS25 5 := by unfold partsO; simp [h]
theorem partsC3 {c : CfV} {d : CfL} (h : c.sv = false) : partsO c d 3 = unlessP (userP d.us) userS25 3 := by unfold partsO; simp [h]
theorem partsC4 {c : CfV} {d : CfL} (h : c.sv = false) : partsO c d 4 = unlessP (decide (d.ks.length ≤ 8)) keysS25 2 := by unfold partsO; simp [h]
theorem partsC5 {c : CfV} {d : CfL} (h : c.sv = false) : partsO c d 5 = unlessP (d.ks.all whoB) keysS25 5 := by unfold partsO; simp [h]
theorem partsC6 {c : CfV} {d : CfL} (h : c.sv = false) : partsO c d 6 = gateO [] d.al 1 := by unfold partsO; simp [h]
theorem partsC7 {c : CfV} {d : CfL} (h : c.sv = false) : partsO c d 7 = unlessP (rightB c.w0 c.w1 c.w2) wishS25 5 := by unfold partsO; simp [h]
set_option maxRecDepth 100000 in
theorem cfCheck_srv {w : World} {c : CfV} {d : CfL} (hsv : c.sv = true) (hT : Tab15 w) (h : CfAt w c d) (hs : CfSized d) : Calls Tryd.prog 27 #[.agg c.row] w (Checked w (confO c d)) := by
  have hN : manyO c = 4 := by unfold manyO; rw [hsv]; rfl
  unfold confO
  rw [hN]
  have b0 : Below w.heap.size w (w.alloc (.cells c.row 51)) := (Below.refl _ _).alloc (Nat.le_refl _) _
  refine cfCheck_loop (fs := fsSrv) (by omega) ?_ (sizeConf25 c) ?_
  · intro k hk args W
    match k, hk with
    | 0, _ => exact cfEnter1 args W
    | 1, _ => exact cfEnter2 args W
    | 2, _ => exact cfEnter3 args W
    | 3, _ => exact cfEnter4 args W
    | k + 4, hk => exact absurd hk (by omega)
  · refine (cfConds_srv c hsv _).mono ?_
    rintro e w1 ⟨g, cap, rfl, ⟨k0, k1, k2, k3⟩, hlt, hBx, hb⟩
    have b1 := b0.trans (hb.mono b0.size)
    refine ⟨g, cap, (w.alloc (.cells c.row 51)).heap.size, rfl, fun k hk => ?_, hlt, b1, fun k hk W hW => ?_⟩
    · match k, hk with
      | 0, _ => exact k0
      | 1, _ => exact k1
      | 2, _ => exact k2
      | 3, _ => exact k3
      | k + 4, hk => exact absurd hk (by omega)
    · have b2 := b1.trans (hW.mono b1.size)
      have hA := h.below b2
      have hTb := hT.below b2
      have hBx := (hW.block _ hBx.lt).trans hBx
      match k, hk with
      | 0, _ => rw [partsS0 hsv]; exact cfC1_any hA hs hBx
      | 1, _ => rw [partsS1 hsv]; exact cfC2_any hTb hA hs hBx
      | 2, _ => rw [partsS2 hsv]; exact cfC3_any hBx
      | 3, _ => rw [partsS3 hsv]; exact cfC4_any hA hs hBx
      | k + 4, hk => exact absurd hk (by omega)
set_option maxRecDepth 100000 in
theorem cfCheck_cli {w : World} {c : CfV} {d : CfL} (hsv : c.sv = false) (hT : Tab15 w) (h : CfAt w c d) (hs : CfSized d) : Calls Tryd.prog 27 #[.agg c.row] w (Checked w (confO c d)) := by
  have hN : manyO c = 8 := by unfold manyO; rw [hsv]; rfl
  unfold confO
  rw [hN]
  have b0 : Below w.heap.size w (w.alloc (.cells c.row 51)) := (Below.refl _ _).alloc (Nat.le_refl _) _
  refine cfCheck_loop (fs := fsCli) (by omega) ?_ (sizeConf25 c) ?_
  · intro k hk args W
    match k, hk with
    | 0, _ => exact cfEnter1 args W
    | 1, _ => exact cfEnter2 args W
    | 2, _ => exact cfEnter5 args W
    | 3, _ => exact cfEnter6 args W
    | 4, _ => exact cfEnter7 args W
    | 5, _ => exact cfEnter8 args W
    | 6, _ => exact cfEnter9 args W
    | 7, _ => exact cfEnter10 args W
    | k + 8, hk => exact absurd hk (by omega)
  · refine (cfConds_cli c hsv _).mono ?_
    rintro e w1 ⟨g, cap, rfl, ⟨k0, k1, k2, k3, k4, k5, k6, k7⟩, hlt, hBx, hb⟩
    have b1 := b0.trans (hb.mono b0.size)
    refine ⟨g, cap, (w.alloc (.cells c.row 51)).heap.size, rfl, fun k hk => ?_, hlt, b1, fun k hk W hW => ?_⟩
    · match k, hk with
      | 0, _ => exact k0
      | 1, _ => exact k1
      | 2, _ => exact k2
      | 3, _ => exact k3
      | 4, _ => exact k4
      | 5, _ => exact k5
      | 6, _ => exact k6
      | 7, _ => exact k7
      | k + 8, hk => exact absurd hk (by omega)
    · have b2 := b1.trans (hW.mono b1.size)
      have hA := h.below b2
      have hTb := hT.below b2
      have hBx := (hW.block _ hBx.lt).trans hBx
      match k, hk with
      | 0, _ => rw [partsC0 hsv]; exact cfC1_any hA hs hBx
      | 1, _ => rw [partsC1 hsv]; exact cfC2_any hTb hA hs hBx
      | 2, _ => rw [partsC2 hsv]; exact cfC5_any hBx
      | 3, _ => rw [partsC3 hsv]; exact cfC6_any hA hs hBx
      | 4, _ => rw [partsC4 hsv]; exact cfC7_any hA hs hBx
      | 5, _ => rw [partsC5 hsv]; exact cfC8_any hA hs hBx
      | 6, _ => rw [partsC6 hsv]; exact cfC9_any hA hs hBx
      | 7, _ => rw [partsC7 hsv]; exact cfC10_any hBx
      | k + 8, hk => exact absurd hk (by omega)
theorem cfCheck_any {w : World} {c : CfV} {d : CfL} (hT : Tab15 w) (h : CfAt w c d) (hs : CfSized d) : Calls Tryd.prog 27 #[.agg c.row] w (Checked w (confO c d)) := by
  cases hsv : c.sv with
  | true => exact cfCheck_srv hsv hT h hs
  | false => exact cfCheck_cli hsv hT h hs
end Go.Proofs.YtgoinpibllomfaaDoor
