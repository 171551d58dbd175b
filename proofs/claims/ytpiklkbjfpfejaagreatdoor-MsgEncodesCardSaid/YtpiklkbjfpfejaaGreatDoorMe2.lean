/- The page's example of layer 7. -/
import Derived.Test.YtpiklkbjfpfejaaGreatDoorMe1
namespace Go.Proofs.YtpiklkbjfpfejaaGreatDoor
open Go.RowKit

def exF : FieldR := ⟨117, 7, [], []⟩
theorem exF_at {w : World} {b : Nat} (h : Holds w b 47 #[.int .u8 117, .int .i64 7, .string ⟨#[]⟩, .slice none 0 0]) : FieldsAt w (.slice (some ⟨b, 0, none⟩) 1 1) [exF] := by
  refine ⟨_, 1, rfl, Nat.le_refl _, by simp, ?_, fun _ => ⟨b, 0, rfl, h.lt, fun k x hk => ?_⟩⟩
  · intro x hx
    simp only [List.mem_singleton] at hx
    subst hx
    exact ⟨by simp [exF], by simp [exF], by simp [exF], by simp [exF]⟩
  · obtain ⟨rfl, rfl⟩ : k = 0 ∧ x = exF := by
      cases k with
      | zero => exact ⟨rfl, by simpa using hk.symm⟩
      | succ k => simp at hk
    exact ⟨h.cell 0, h.cell 1, h.cell 2, none, 0, h.cell 3, Nat.le_refl _, TextsAt.nil _⟩
theorem ex_encode {w : World} {b : Nat} (h : Holds w b 47 #[.int .u8 117, .int .i64 7, .string ⟨#[]⟩, .slice none 0 0]) (hT : TabAt w) :
    Calls Tryz.prog 8 #[.agg #[.int .i64 3, .slice (some ⟨b, 0, none⟩) 1 1]] w fun e w' => e = .returned (.tuple #[.string ⟨#[3, 0, 0, 0, 7]⟩, .nilIface]) ∧ Below w.heap.size w w' := by
  have := encode_ok (exF_at h) hT 3 [117] (by rfl) rfl (by simp) (fun x hx => by
    simp only [List.mem_singleton] at hx
    subst hx
    exact ⟨by simp [exF], by simp [exF], by simp [exF], by simp [exF]⟩) (fun k hk => by
    have : k = 0 := by simpa using hk
    subst this
    rfl) (by decide)
  exact this

set_option maxHeartbeats 1000000 in
set_option maxRecDepth 100000 in
theorem awake7_any {w : World} (hT : TabAt w) : Calls Tryz.prog 7 #[] w fun e w' => e = .returned (.bool true) ∧ Below w.heap.size w w' := by
  have hE := Lib.hid (ex_encode (w := w.alloc (.cells #[.int .u8 117, .int .i64 7, .string ⟨#[]⟩, .slice none 0 0] 47)) (Holds.new w _ _) (hT.below ((Below.refl w.heap.size w).alloc (Nat.le_refl _) _)))
  have HB := Lib.hid ((Below.refl w.heap.size w).alloc (Nat.le_refl _) (.cells #[.int .u8 117, .int .i64 7, .string ⟨#[]⟩, .slice none 0 0] 47))
  have hq : ((⟨#[3, 0, 0, 0, 7]⟩ : ByteArray).toList == (⟨#[3, 0, 0, 0, 7]⟩ : ByteArray).toList) = true := by simp
  clear hT
  go_enter Tryz.func7, Tryz.ntmps7
  go_wp2_with (go_at_call 8; with_reducible refine hE.out.mono ?_; rintro e w1 ⟨rfl, b1⟩)
  go_ret
  exact ⟨by simp, HB.out.trans (b1.mono HB.out.size)⟩
end Go.Proofs.YtpiklkbjfpfejaaGreatDoor
